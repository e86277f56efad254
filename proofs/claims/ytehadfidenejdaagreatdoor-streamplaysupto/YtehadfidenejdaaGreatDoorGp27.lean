/-
  Written by mksnrft.py: the document's sender: a frame is told.
-/
import Derived.Test.YtehadfidenejdaaGreatDoorGp26
namespace Go.Proofs.YtehadfidenejdaaGreatDoor
open Go Go.RowKit

namespace Sr
open Sd
theorem run_convIU {P : Program} {a : Act} {o : Oper} (t t' : TypeId) (x : Operand) (r : Nat) (hr : r < 140737488355328) (ho : o.op = .convert t t' x) (hx : a.eval x = .int .i64 (r : Int)) (ht : P.underlying t = some (.int .i64)) (ht' : P.underlying t' = some (.int .u64)) (W : World) :
    (execOp a.eval o).run P W = .ok (.value (.int .u64 (r : Int))) W := by
  unfold execOp
  simp only [ho, hx]
  go_simp
  rw [IntKind.wrap_u64]
  omega
/-- The bytes that were copied, while the frame is put together. -/
structure CTo (W0 : World) (n : Nat) (xs : List Value) (v : Value) (o : Nat → Prop) (W : World) : Prop where
  lt : ∀ k, o k → k < W.heap.size
  row : RowO W 5 1 v n xs
  ob : ∀ k, v.ownBlock = some k → o k
  bel : Below W0.heap.size W0 W
  new : ∀ k, o k → W0.heap.size ≤ k
theorem CTo.keep {W0 W W' : World} {n : Nat} {xs : List Value} {v : Value} {o st : Nat → Prop} (h : CTo W0 n xs v o W) (k : KeepP st W W') (hs : ∀ k, o k → ¬ st k) (hst : ∀ k, st k → W0.heap.size ≤ k) : CTo W0 n xs v o W' :=
  ⟨fun q e => Nat.lt_of_lt_of_le (h.lt q e) k.size, h.row.same (fun q e => k.block q (h.row.lt q e) (hs q (h.ob q e))), h.ob, h.bel.trans (k.below hst h.bel.size), h.new⟩
def aftTo : Nat → Bool
  | 13 => true
  | 14 => true
  | _ => false
def csTo (id p : Nat) (v : Value) : Array Value := #[.int .u8 7, .int .u64 (id : Int), .int .u64 (p : Int), .int .u64 0, .int .u64 0, .bool false, v, .slice none 0 0]
def valTp (id p : Nat) (v : Value) : Nat → Value
  | 14 => .agg (csTo id p v)
  | _ => v
def depTo : Nat → List Nat
  | 1 => [0]
  | 2 => [1]
  | 3 => [2]
  | 5 => [4]
  | 7 => [6]
  | 8 => [7]
  | 9 => [8]
  | 12 => [9, 10, 11]
  | 13 => [12]
  | 14 => [3, 5, 13]
  | 16 => [15, 14]
  | _ => []
def valTo (h : Nat) (bv : Value) (id p q : Nat) (sa : Option Addr) (sc : Nat) : Nat → Value
  | 0 => .pointer (some ⟨h, 0, none⟩)
  | 1 => .pointer (some ⟨h, 0, none⟩)
  | 2 => .pointer (some ⟨h, 0, none⟩)
  | 3 => .int .u64 (id : Int)
  | 4 => .int .i64 (p : Int)
  | 5 => .int .u64 (p : Int)
  | 6 => .pointer (some ⟨h, 0, none⟩)
  | 7 => .pointer (some ⟨h, 0, none⟩)
  | 8 => .pointer (some ⟨h, 2, none⟩)
  | 9 => bv
  | 10 => .int .i64 (p : Int)
  | 11 => .int .i64 (q : Int)
  | 12 => .slice sa (q - p) sc
  | _ => undef
def toldR (s : Snd) (p q : Nat) : Snd :=
  { s with how := fun i => if p ≤ i ∧ i < q then 1 else s.how i, fin := if s.last = true ∧ q = s.b.length then (if s.fin = 3 then 3 else 1) else s.fin }
/-- The document's sender without a word on what it stands for. -/
structure RfR (w : World) (h : Nat) (bv hv : Value) (s : Snd) : Prop where
  row : Row w h 75 (rfC bv hv s)
  brow : RowO w 5 1 bv s.b.length (vb s.b)
  hrow : RowO w 3 1 hv s.b.length (vh s.how s.b.length)
theorem told_end {w W w' : World} {h fb p9 n p q : Nat} {bv hv d : Value} {s : Snd} {F : Array Value} {how : Nat → Nat} {xs : List Value} (x : RgI w W h fb bv hv s F how) (hh : ∀ i, i < s.b.length → how i = (toldR s p q).how i) (hD : RowO W 5 1 d n xs) (r9 : Ty W p9 28) (h9 : w.heap.size ≤ p9) (hfb : w.heap.size ≤ fb)
    (hrow : Row w' h 75 (rfC bv hv (toldR s p q))) (kp : KeepP (fun k => k = h ∨ k = p9 ∨ k = fb) W w') : RowO w' 5 1 d n xs ∧ RfR w' h bv hv (toldR s p q) ∧ KeepP (OwnR h bv hv) w w' := by
  have tb : ∀ k, bv.ownBlock = some k → ¬ (k = h ∨ k = p9 ∨ k = fb) := fun k e z => by
    have t := Ty.row x.brow e
    rcases z with z | z | z
    · exact t.ne (⟨_, x.row⟩ : Ty W h 75) (by decide) z
    · exact t.ne r9 (by decide) z
    · exact t.ne (⟨_, x.frow⟩ : Ty W fb 28) (by decide) z
  have th : ∀ k, hv.ownBlock = some k → ¬ (k = h ∨ k = p9 ∨ k = fb) := fun k e z => by
    have t := Ty.row x.hrow e
    rcases z with z | z | z
    · exact t.ne (⟨_, x.row⟩ : Ty W h 75) (by decide) z
    · exact t.ne r9 (by decide) z
    · exact t.ne (⟨_, x.frow⟩ : Ty W fb 28) (by decide) z
  have td : ∀ k, d.ownBlock = some k → ¬ (k = h ∨ k = p9 ∨ k = fb) := fun k e z => by
    have t := Ty.row hD e
    rcases z with z | z | z
    · exact t.ne (⟨_, x.row⟩ : Ty W h 75) (by decide) z
    · exact t.ne r9 (by decide) z
    · exact t.ne (⟨_, x.frow⟩ : Ty W fb 28) (by decide) z
  refine ⟨hD.same (fun k e => kp.block k (hD.lt k e) (td k e)), ⟨hrow, x.brow.same (fun k e => kp.block k (x.brow.lt k e) (tb k e)), ?_⟩, onto (x.keep.mono (fun k e => .inr (.inr e))) kp (fun k hk e => ?_)⟩
  · show RowO w' 3 1 hv s.b.length (vh (toldR s p q).how s.b.length)
    rw [← vh_congr hh]
    exact x.hrow.same (fun k e => kp.block k (x.hrow.lt k e) (th k e))
  · rcases e with e | e | e
    · exact .inl e
    · omega
    · omega
set_option maxHeartbeats 4000000 in
set_option maxRecDepth 20000 in
theorem refTold_any {w : World} {h : Nat} {bv hv : Value} {s : Snd} (x : RfR w h bv hv s) (hln : s.b.length ≤ 1048576) (p q : Nat) (hpq : p ≤ q) (hq : q ≤ s.b.length) :
    Calls Tryz.prog 40 #[.pointer (some ⟨h, 0, none⟩), .int .i64 (p : Int), .int .i64 (q : Int)] w fun e w' => ∃ d, e = .returned (.agg (frD s.id p (finB s q) d)) ∧ RowO w' 5 1 d (q - p) (vb (Sd.cut s.b p q)) ∧ (∀ k, d.ownBlock = some k → w.heap.size ≤ k) ∧ RfR w' h bv hv (toldR s p q) ∧ KeepP (OwnR h bv hv) w w' := by
  have hba := (Below.refl _ w).alloc (Nat.le_refl _) (.cells fr0 28)
  have hff := Row.new w 28 fr0
  have rg0 : RgI w (w.alloc (.cells fr0 28)) h w.heap.size bv hv s fr0 (fun t => if p ≤ t ∧ t < p then 1 else s.how t) := by
    refine ⟨x.row.below hba x.row.lt, x.brow.below hba, ?_, hff, KeepP.of_below hba⟩
    rw [vh_congr (h' := s.how) (fun t _ => if_neg (by omega))]
    exact x.hrow.below hba
  have RG0 := veil rg0
  have HX := veil x
  have HPQ := veil (show p ≤ q ∧ q ≤ s.b.length ∧ s.b.length ≤ 1048576 from ⟨hpq, hq, hln⟩)
  clear x hba hff rg0 hln hpq hq
  unfold fr0 at RG0
  go_enter Tryz.func40, Tryz.ntmps40
  go_wp2_with fail
  go_loopw [7] (fun iv wr => ∃ i : Nat, p ≤ i ∧ i ≤ q ∧ iv = .int .i64 (i : Int) ∧ RgI w wr h w.heap.size bv hv s fr0 (fun t => if p ≤ t ∧ t < i then 1 else s.how t))
    (fun iv _ => q - (intOf iv).toNat)
  case atStart => exact ⟨p, Nat.le_refl _, HPQ.out.1, rfl, RG0.out⟩
  case round =>
    clear RG0
    obtain ⟨i, hpi, hi, rfl, hI⟩ := hrel
    have HI := veil hI
    have HPI := veil hpi
    have g3 := hI.row.cell 3
    unfold rfC at g3
    by_cases hlt : i < q
    · have hj : i < s.b.length := by have := HPQ.out; omega
      obtain ⟨va, vc, hve, _, _⟩ := hI.hrow.shape
      subst hve
      obtain ⟨hg, ho, rfl, ck⟩ := hI.hrow.cells i _ (vh_get _ _ _ hj)
      have hck : (if p ≤ i ∧ i < i then 1 else s.how i) = s.how i := if_neg (by omega)
      rw [hck] at ck
      have fk : wr.frozen? ⟨hg, ho + i, none⟩ = false := by
        obtain ⟨cur, hcur⟩ : Ty wr hg 3 := Ty.row hI.hrow rfl
        exact Row.frozen (t := 3) (cs := cur) hcur _
      have bI : (i : Int) < (q : Int) := by omega
      have bJ : (i : Int) < (s.b.length : Int) := by omega
      have hi2 : i < 140737488355328 := by have := HPQ.out; omega
      have HI2 := veil ((hI.step i 1 hj).congr (how' := fun t => if p ≤ t ∧ t < i + 1 then 1 else s.how t) (fun t _ => by
        show (if t = i then 1 else (if p ≤ t ∧ t < i then 1 else s.how t)) = (if p ≤ t ∧ t < i + 1 then 1 else s.how t)
        by_cases e1 : t = i
        · rw [if_pos e1, if_pos (by omega)]
        · rw [if_neg e1]
          by_cases e2 : p ≤ t ∧ t < i
          · rw [if_pos e2, if_pos (by omega)]
          · rw [if_neg e2, if_neg (by omega)]))
      have HLT := veil hlt
      generalize (s.how i : Int) = old at *
      clear hI hck hj hlt hi hpi
      go_wp2_with fail
      go_roundw
      case rel => exact ⟨i + 1, by have := HPI.out; omega, HLT.out, by go_num, HI2.out⟩
      case measure => have := HLT.out; simp [intOf]; omega
    · have e : q = i := by omega
      subst e
      have hI2 := hI
      have hpq := HPQ.out.1
      have hq := HPQ.out.2.1
      clear hI hlt hi g3 HPI hpi
      obtain ⟨id, hid⟩ : ∃ id, s.id = id := ⟨_, rfl⟩
      have HID := veil hid
      obtain ⟨W1, hW1⟩ : ∃ W1, wr = W1 := ⟨_, rfl⟩
      rw [hW1] at HI hI2 ⊢
      have r0 : Row W1.drew h 75 (rfC bv hv s) := hI2.row.below ((Below.refl _ W1).drew) hI2.row.lt
      have b0 : RowO W1.drew 5 1 bv s.b.length (vb s.b) := hI2.brow.below ((Below.refl _ W1).drew)
      have RW := veil (show ∀ W, Below W1.drew.heap.size W1.drew W → W.cell? ⟨h, 0, none⟩ = some (.int .u64 (id : Int)) ∧ W.cell? ⟨h, 2, none⟩ = some bv from fun W hb => by
        have hr := r0.below hb r0.lt
        rw [← hid]
        exact ⟨hr.cell 0, hr.cell 2⟩)
      obtain ⟨sa, sc, hsl, _, hsr, _⟩ := sl_any (P := Tryz.prog) W1.drew 24 Tryz.underlying24 (by kernel_rfl) b0 hpq hq
      have HSL := veil hsl
      have hcut : (((vb s.b).drop (p * 1)).take ((q - p) * 1)) = vb (Sd.cut s.b p q) := by
        unfold Sd.cut vb
        rw [Nat.mul_one, Nat.mul_one, List.map_take, List.map_drop]
      rw [hcut] at hsr
      have hcl := Sd.cut_length hpq hq
      have HAP := veil (show ∀ W, Below W1.drew.heap.size W1.drew W → ∃ v' w', (Builtin.append_ #[24, 24] 24 #[.slice none 0 0, .slice sa (q - p) sc]).run Tryz.prog W = .ok v' w' ∧ RowO w' 5 1 v' (q - p) (vb (Sd.cut s.b p q)) ∧ KeepP (fun _ => False) W w' ∧ ∀ k, v'.ownBlock = some k → W.heap.size ≤ k from fun W hb => by
        obtain ⟨i0, z1, z2, z3, z4⟩ := byte_info
        obtain ⟨v', w', hr, a2, a3, a4⟩ := app_any (P := Tryz.prog) W 24 24 24 i0 _ 1 Tryz.underlying24 Tryz.underlying24 z1 z2 z3 z4 rfl (by decide) (RowO.nil W 5 1) sa (q - p) sc (vb (Sd.cut s.b p q)) (by rw [vb_length, hcl, Nat.mul_one]) (RowO.src (hsr W (b0.below hb))) (vb_one _) (by have := HPQ.out; unfold maxLen; omega) (by have := HPQ.out; omega)
        rw [Nat.zero_add, List.nil_append] at a2
        exact ⟨v', w', hr, a2, a3.mono (fun k e => by cases e), fun k e => by
          rcases a4 with z | ⟨_, z⟩
          · rw [z] at e; cases e
          · rw [z k e]; exact Nat.le_refl _⟩)
      clear hsl hsr hcut hcl r0 b0 hI2 hpq hq hid hW1
      go_wp2_with fail
      refine (wpIn_wide (n := 4)).1 ?_
      refine wpIn_region_any (by kernel_rfl) ?_
      refine anyIn_calloc (valTo h bv id p q sa sc) (valTp id p) aftTo 13 15 16 [6, 7, 8, 9, 10, 11, 12] 28 fr0 (csTo id p) (fun _ => False) (CTo W1.drew (q - p) (vb (Sd.cut s.b p q))) [21, 22, 23, 24, 25, 26, 27, 28, 29, 30, 31, 32, 33, 34, 35, 8, 100000] depTo (by kernel_rfl) rfl (by decide) (by decide) (by decide) (by decide) (by decide) rfl rfl rfl (by decide) (by decide) (by decide) (by decide) (fun v => rfl) (fun _ q => q.elim) (fun v o W h => h.1) (fun v o W W' st h => h.keep) (Below.refl _ _) ?fix ?call ?aftS ?all ?sto ?row ?done
      case fix =>
        intro x W i d n1 n2 ha hdi _ hany hdep
        have hpre : Below W1.drew.heap.size W1.drew W := hany.elim (fun z => z) (fun ⟨_, _, z⟩ => z.bel)
        clear hany
        match i, n1, n2, ha, hdi, hdep with
        | 0, _, _, _, hdi, _ =>
          obtain rfl := Option.some.inj hdi
          exact OI_value rfl rfl (about_none (by intro c h; cases h)) (by intro c h; cases h) (.pointer (some ⟨h, 0, none⟩)) W (by kernel_rfl) ⟨rfl, rfl⟩
        | 1, _, _, _, hdi, hdep =>
          obtain rfl := Option.some.inj hdi
          rw [updV_self (show x 0 = _ from hdep 0 (by decide) rfl (by decide) (by decide))]
          exact OI_value rfl rfl (about_none (by intro c h; cases h)) (by intro c h; cases h) (.pointer (some ⟨h, 0, none⟩)) W (by kernel_rfl) ⟨rfl, rfl⟩
        | 2, _, _, _, hdi, hdep =>
          obtain rfl := Option.some.inj hdi
          rw [updV_self (show x 1 = _ from hdep 1 (by decide) rfl (by decide) (by decide))]
          exact OI_value rfl rfl (about_none (by intro c h; cases h)) (by intro c h; cases h) (.pointer (some ⟨h, 0, none⟩)) W (by kernel_rfl) ⟨rfl, rfl⟩
        | 3, _, _, _, hdi, hdep =>
          obtain rfl := Option.some.inj hdi
          rw [updV_self (show x 2 = _ from hdep 2 (by decide) rfl (by decide) (by decide))]
          exact OI_value rfl rfl (about_none (by intro c h; cases h)) (by intro c h; cases h) (.int .u64 (id : Int)) W (lgRun_cell 22 _ ⟨h, 0, none⟩ _ _ rfl (by kernel_rfl) Tryz.underlying22 rfl W ((RW.out W hpre).1)) ⟨rfl, rfl⟩
        | 4, _, _, _, hdi, _ =>
          obtain rfl := Option.some.inj hdi
          exact OI_value rfl rfl (about_none (by intro c h; cases h)) (by intro c h; cases h) (.int .i64 (p : Int)) W (by kernel_rfl) ⟨rfl, rfl⟩
        | 5, _, _, _, hdi, hdep =>
          obtain rfl := Option.some.inj hdi
          rw [updV_self (show x 4 = _ from hdep 4 (by decide) rfl (by decide) (by decide))]
          exact OI_value rfl rfl (about_none (by intro c h; cases h)) (by intro c h; cases h) (.int .u64 (p : Int)) W (run_convIU _ _ _ p (by have := HPQ.out; omega) rfl (by kernel_rfl) Tryz.underlying3 Tryz.underlying22 W) ⟨rfl, rfl⟩
        | 6, _, _, _, hdi, _ =>
          obtain rfl := Option.some.inj hdi
          exact OI_value rfl rfl (about_none (by intro c h; cases h)) (by intro c h; cases h) (.pointer (some ⟨h, 0, none⟩)) W (by kernel_rfl) ⟨rfl, rfl⟩
        | 7, _, _, _, hdi, hdep =>
          obtain rfl := Option.some.inj hdi
          rw [updV_self (show x 6 = _ from hdep 6 (by decide) rfl (by decide) (by decide))]
          exact OI_value rfl rfl (about_none (by intro c h; cases h)) (by intro c h; cases h) (.pointer (some ⟨h, 0, none⟩)) W (by kernel_rfl) ⟨rfl, rfl⟩
        | 8, _, _, _, hdi, hdep =>
          obtain rfl := Option.some.inj hdi
          rw [updV_self (show x 7 = _ from hdep 7 (by decide) rfl (by decide) (by decide))]
          exact OI_value rfl rfl (about_none (by intro c h; cases h)) (by intro c h; cases h) (.pointer (some ⟨h, 2, none⟩)) W (by kernel_rfl) ⟨rfl, rfl⟩
        | 9, _, _, _, hdi, hdep =>
          obtain rfl := Option.some.inj hdi
          rw [updV_self (show x 8 = _ from hdep 8 (by decide) rfl (by decide) (by decide))]
          exact OI_value rfl rfl (about_none (by intro c h; cases h)) (by intro c h; cases h) (bv) W (lgRun_cell 24 _ ⟨h, 2, none⟩ _ _ rfl (by kernel_rfl) Tryz.underlying24 rfl W ((RW.out W hpre).2)) ⟨rfl, rfl⟩
        | 10, _, _, _, hdi, _ =>
          obtain rfl := Option.some.inj hdi
          exact OI_value rfl rfl (about_none (by intro c h; cases h)) (by intro c h; cases h) (.int .i64 (p : Int)) W (by kernel_rfl) ⟨rfl, rfl⟩
        | 11, _, _, _, hdi, _ =>
          obtain rfl := Option.some.inj hdi
          exact OI_value rfl rfl (about_none (by intro c h; cases h)) (by intro c h; cases h) (.int .i64 (q : Int)) W (by kernel_rfl) ⟨rfl, rfl⟩
        | 12, _, _, _, hdi, hdep =>
          obtain rfl := Option.some.inj hdi
          rw [updV_self (show x 9 = _ from hdep 9 (by decide) rfl (by decide) (by decide)), updV_self (show (updV x 9 _) 10 = _ from hdep 10 (by decide) rfl (by decide) (by decide)), updV_self (show (updV (updV x 9 _) 10 _) 11 = _ from hdep 11 (by decide) rfl (by decide) (by decide))]
          exact OI_value rfl rfl (about_none (by intro c h; cases h)) (by intro c h; cases h) (.slice sa (q - p) sc) W (run_sliceV 24 _ _ _ rfl (by kernel_rfl) (by kernel_rfl) (by kernel_rfl) (HSL.out _)) ⟨rfl, rfl⟩
        | 13, _, _, ha, _, _ => exact absurd ha (by decide)
        | 14, _, _, ha, _, _ => exact absurd ha (by decide)
        | 15, n1, _, _, _, _ => exact absurd rfl n1
        | 16, _, n2, _, _, _ => exact absurd rfl n2
        | _ + 17, _, _, _, hdi, _ => simp at hdi
      case call =>
        intro x W d hdi hb hdep
        obtain rfl := Option.some.inj hdi
        rw [updV_self (show x 12 = _ from hdep 12 (by decide) rfl (by decide) (by decide))]
        obtain ⟨v', w', hr, a2, a3, a4⟩ := HAP.out W hb
        exact OI_value rfl rfl (about_builtin _ _ _ rfl) (by intro c h; cases h) v' w' (lgRun_append _ _ _ _ _ v' W w' rfl (by kernel_rfl) (by kernel_rfl) hr) ⟨v', fun k => v'.ownBlock = some k, rfl, ⟨fun k e => a2.lt k e, a2, fun k e => e, hb.trans ((a3.below (B := W1.drew.heap.size) (fun q z => z.elim) hb.size)), fun k e => Nat.le_trans hb.size (a4 k e)⟩, a3, fun k e => .inr (a4 k e)⟩
      case aftS =>
        rintro x W i d v ha n1 hdi ⟨o, hC⟩ hdep hdep2
        match i, ha, n1, hdi, hdep, hdep2 with
        | 14, _, _, hdi, hdep, hdep2 =>
          obtain rfl := Option.some.inj hdi
          rw [updV_self (show x 3 = _ from hdep2 3 (by decide) rfl (by decide) (by decide)), updV_self (show (updV x 3 _) 5 = _ from hdep2 5 (by decide) rfl (by decide) (by decide)), updV_self (show (updV (updV x 3 _) 5 _) 13 = _ from hdep 13 (by decide) rfl)]
          obtain ⟨va, vc, rfl, _, _⟩ := hC.row.shape
          exact OI_value rfl rfl (about_none (by intro c h; cases h)) (by intro c h; cases h) _ W (by kernel_rfl) ⟨rfl, rfl⟩
        | 0, ha, _, _, _, _ => exact absurd ha (by decide)
        | 1, ha, _, _, _, _ => exact absurd ha (by decide)
        | 2, ha, _, _, _, _ => exact absurd ha (by decide)
        | 3, ha, _, _, _, _ => exact absurd ha (by decide)
        | 4, ha, _, _, _, _ => exact absurd ha (by decide)
        | 5, ha, _, _, _, _ => exact absurd ha (by decide)
        | 6, ha, _, _, _, _ => exact absurd ha (by decide)
        | 7, ha, _, _, _, _ => exact absurd ha (by decide)
        | 8, ha, _, _, _, _ => exact absurd ha (by decide)
        | 9, ha, _, _, _, _ => exact absurd ha (by decide)
        | 10, ha, _, _, _, _ => exact absurd ha (by decide)
        | 11, ha, _, _, _, _ => exact absurd ha (by decide)
        | 12, ha, _, _, _, _ => exact absurd ha (by decide)
        | 13, _, n1, _, _, _ => exact absurd rfl n1
        | 15, ha, _, _, _, _ => exact absurd ha (by decide)
        | 16, ha, _, _, _, _ => exact absurd ha (by decide)
        | _ + 17, _, _, hdi, _, _ => simp at hdi
      case all =>
        intro x W d hdi
        obtain rfl := Option.some.inj hdi
        exact OI_value rfl rfl (about_none (by intro c h; cases h)) (by intro c h; cases h) (ptrC W.heap.size) _ (run_allocN 28 fr0 rfl (by kernel_rfl) W) ⟨rfl, rfl⟩
      case sto =>
        rintro x W d p9 v hdi h15 hrow ⟨o, hC⟩ hdep
        obtain rfl := Option.some.inj hdi
        rw [updV_self (show x 15 = _ from h15), updV_self (show (updV x 15 _) 14 = _ from hdep 14 (by decide) rfl)]
        exact OI_skip rfl rfl (about_none (by intro c h; cases h)) (by intro c h; cases h) _ (run_store_row 28 _ _ rfl p9 (csTo id p v) (by kernel_rfl) (by kernel_rfl) 28 _ hrow 8 (by kernel_rfl) rfl rfl (by obtain ⟨va, vc, hve, _, _⟩ := hC.row.shape; rw [hve]; simp [csTo, Value.oneCell'])) ⟨⟨undef, (lgPut_none _ _).trans (put_far _ _ _ (by rw [puts_size]; exact Nat.le_of_ble_eq_true rfl)).symm⟩, rfl⟩
      case row =>
        rintro W p9 v o hC hrow
        exact ⟨hrow.put _, KeepP.setRow (st := fun k => k = p9) rfl W _⟩
      case done =>
        rintro x W v o p9 hC hV hU hp hpz hop hrow
        have h15 : x 15 = .pointer (some ⟨p9, 0, none⟩) := hp
        simp only [putsV, Act.put, List.setIfInBounds_toArray, List.set_cons_succ, List.set_cons_zero, List.set_nil, Nat.reduceAdd, h15]
        generalize x 0 = z0, x 1 = z1, x 2 = z2, x 3 = z3, x 4 = z4, x 5 = z5, x 6 = z6, x 7 = z7, x 8 = z8, x 9 = z9, x 10 = z10, x 11 = z11, x 12 = z12, x 13 = z13, x 14 = z14, x 16 = z16
        have hbW : Below W1.heap.size W1 W := ((Below.refl _ W1).drew).trans hC.bel
        have RG := veil (HI.out.below hbW)
        have HD := veil hC.row
        have HDN := veil (show ∀ k, v.ownBlock = some k → w.heap.size ≤ k from fun k e => Nat.le_trans HI.out.keep.size (hC.new k (hC.ob k e)))
        have H9 := veil (show w.heap.size ≤ p9 from Nat.le_trans HI.out.keep.size hpz)
        have R9 := veil hrow
        have NFB := veil (show p9 ≠ w.heap.size from fun e => by have h1 := HI.out.frow.lt; have h2 : W1.heap.size ≤ p9 := hpz; omega)
        obtain ⟨va, vc, hve, _, _⟩ := hC.row.shape
        clear hC hV hU hp hop hbW hpz hrow HI HAP HSL RW h15
        subst hve
        obtain ⟨ba, bc, hbe, _, _⟩ := RG.out.brow.shape
        have g5 := RG.out.row.cell 5
        have g2 := RG.out.row.cell 2
        have g6 := RG.out.row.cell 6
        have x6 := RG.out.row.frozen 6
        have NH := veil (show h ≠ w.heap.size from Ty.ne (⟨_, RG.out.row⟩ : Ty W h 75) (⟨_, RG.out.frow⟩ : Ty W w.heap.size 28) (by decide))
        have N9 := veil (show h ≠ p9 from Ty.ne (⟨_, RG.out.row⟩ : Ty W h 75) (⟨_, R9.out⟩ : Ty W p9 28) (by decide))
        unfold rfC at g5 g2 g6
        rw [hbe] at g2
        obtain ⟨dl, hdl⟩ : ∃ dl, q - p = dl := ⟨_, rfl⟩
        rw [hdl] at HD HDN R9
        have HDL := veil hdl
        clear hdl
        have R9x : Row W p9 28 #[.int .u8 7, .int .u64 (id : Int), .int .u64 (p : Int), .int .u64 0, .int .u64 0, .bool false, .slice va dl vc, .slice none 0 0] := R9.out
        have RFX : Row W w.heap.size 28 #[.int .u8 0, .int .u64 0, .int .u64 0, .int .u64 0, .int .u64 0, .bool false, .slice none 0 0, .slice none 0 0] := RG.out.frow
        have hnl : (s.b.length : Int) < 140737488355328 := by have := HPQ.out; omega
        cases hl : s.last
        · rw [hl] at g5
          have hfb : finB s q = false := by unfold finB; rw [hl]; rfl
          have hR : Row W h 75 (rfC bv hv (toldR s p q)) := by
            have e : rfC bv hv (toldR s p q) = rfC bv hv s := by unfold rfC toldR; simp [hl]
            rw [e]; exact RG.out.row
          have kk0 : W.cell? ⟨p9, 0, none⟩ = some (.int .u8 7) := R9x.cell 0
          have kk1 : W.cell? ⟨p9, 1, none⟩ = some (.int .u64 (id : Int)) := R9x.cell 1
          have kk2 : W.cell? ⟨p9, 2, none⟩ = some (.int .u64 (p : Int)) := R9x.cell 2
          have kk3 : W.cell? ⟨p9, 3, none⟩ = some (.int .u64 0) := R9x.cell 3
          have kk4 : W.cell? ⟨p9, 4, none⟩ = some (.int .u64 0) := R9x.cell 4
          have kk5 : W.cell? ⟨p9, 5, none⟩ = some (.bool false) := R9x.cell 5
          have kk6 : W.cell? ⟨p9, 6, none⟩ = some (.slice va dl vc) := R9x.cell 6
          have kk7 : W.cell? ⟨p9, 7, none⟩ = some (.slice none 0 0) := R9x.cell 7
          have rr0 : W.cell? ⟨w.heap.size, 0, none⟩ = some (.int .u8 0) := RFX.cell 0
          have rr1 : W.cell? ⟨w.heap.size, 1, none⟩ = some (.int .u64 0) := RFX.cell 1
          have rr2 : W.cell? ⟨w.heap.size, 2, none⟩ = some (.int .u64 0) := RFX.cell 2
          have rr3 : W.cell? ⟨w.heap.size, 3, none⟩ = some (.int .u64 0) := RFX.cell 3
          have rr4 : W.cell? ⟨w.heap.size, 4, none⟩ = some (.int .u64 0) := RFX.cell 4
          have rr5 : W.cell? ⟨w.heap.size, 5, none⟩ = some (.bool false) := RFX.cell 5
          have rr6 : W.cell? ⟨w.heap.size, 6, none⟩ = some (.slice none 0 0) := RFX.cell 6
          have rr7 : W.cell? ⟨w.heap.size, 7, none⟩ = some (.slice none 0 0) := RFX.cell 7
          have ff0 : W.frozen? ⟨w.heap.size, 0, none⟩ = false := RFX.frozen 0
          have ff1 : W.frozen? ⟨w.heap.size, 1, none⟩ = false := RFX.frozen 1
          have ff2 : W.frozen? ⟨w.heap.size, 2, none⟩ = false := RFX.frozen 2
          have ff3 : W.frozen? ⟨w.heap.size, 3, none⟩ = false := RFX.frozen 3
          have ff4 : W.frozen? ⟨w.heap.size, 4, none⟩ = false := RFX.frozen 4
          have ff5 : W.frozen? ⟨w.heap.size, 5, none⟩ = false := RFX.frozen 5
          have ff6 : W.frozen? ⟨w.heap.size, 6, none⟩ = false := RFX.frozen 6
          have ff7 : W.frozen? ⟨w.heap.size, 7, none⟩ = false := RFX.frozen 7
          go_wp2_with fail
          have k8 := keep8P W w.heap.size (.int .u8 7) (.int .u64 (id : Int)) (.int .u64 (p : Int)) (.int .u64 0) (.int .u64 0) (.bool false) (.slice va dl vc) (.slice none 0 0)
          refine bodyPost_ret (results_cell_row rfl _ _ w.heap.size 28 (frD id p false (.slice va dl vc)) (0, 0) _ rfl (row8 (d0 := .int .u8 7) (d1 := .int .u64 (id : Int)) (d2 := .int .u64 (p : Int)) (d3 := .int .u64 0) (d4 := .int .u64 0) (d5 := .bool false) (d6 := .slice va dl vc) (d7 := .slice none 0 0) RFX) Tryz.underlying28 rfl (by kernel_rfl)) rfl ?_
          obtain ⟨t1, t2, t3⟩ := told_end (w' := _) RG.out (fun t _ => rfl) HD.out (⟨_, R9.out⟩ : Ty W p9 28) H9.out (Nat.le_refl _) (p := p) (q := q) (k8.block h hR.lt NH.out |>.trans hR) (onto (KeepP.refl (fun k => k = h ∨ k = p9 ∨ k = w.heap.size) W) k8 (fun z _ e => .inr (.inr e)))
          exact ⟨_, by rw [HID.out, hfb], by rw [HDL.out]; exact t1, HDN.out, t2, t3⟩
        · rw [hl] at g5
          by_cases hqn : q = s.b.length
          · have hfb : finB s q = true := by unfold finB; rw [hl]; simp [hqn]
            have y1 : decide ((q : Int) = (s.b.length : Int)) = true := by simp; omega
            have y2 : ((q : Int) == (s.b.length : Int)) = true := by simp; omega
            have y3 : (q : Int) = (s.b.length : Int) := by omega
            have kk5 := R9x.cell 5
            have fz5 := R9x.frozen 5
            have R9y : Row (W.setCell ⟨p9, 5, none⟩ (.bool true)) p9 28 #[.int .u8 7, .int .u64 (id : Int), .int .u64 (p : Int), .int .u64 0, .int .u64 0, .bool true, .slice va dl vc, .slice none 0 0] := R9x.set 5 (.bool true)
            have o9 : ∀ k, k ≠ p9 → (W.setCell ⟨p9, 5, none⟩ (.bool true)).heap[k]? = W.heap[k]? := fun k hk => Below.heap_setCell _ _ _ k hk
            have RHy : Row (W.setCell ⟨p9, 5, none⟩ (.bool true)) h 75 (rfC bv hv s) := (o9 h N9.out).trans RG.out.row
            have RFy : Row (W.setCell ⟨p9, 5, none⟩ (.bool true)) w.heap.size 28 #[.int .u8 0, .int .u64 0, .int .u64 0, .int .u64 0, .int .u64 0, .bool false, .slice none 0 0, .slice none 0 0] := (o9 _ NFB.out.symm).trans RFX
            have KPy : KeepP (fun k => k = h ∨ k = p9 ∨ k = w.heap.size) W (W.setCell ⟨p9, 5, none⟩ (.bool true)) := KeepP.setCell (st := fun k => k = h ∨ k = p9 ∨ k = w.heap.size) (.inr (.inl rfl)) W 5 _
            have gy6 : (W.setCell ⟨p9, 5, none⟩ (.bool true)).cell? ⟨h, 6, none⟩ = some (.int .i64 (s.fin : Int)) := RHy.cell 6
            have fy6 : (W.setCell ⟨p9, 5, none⟩ (.bool true)).frozen? ⟨h, 6, none⟩ = false := RHy.frozen 6
            by_cases hz : s.fin = 3
            · rw [hz] at gy6
              have hR : Row (W.setCell ⟨p9, 5, none⟩ (.bool true)) h 75 (rfC bv hv (toldR s p q)) := by
                have e : rfC bv hv (toldR s p q) = rfC bv hv s := by unfold rfC toldR; simp [hl, hqn, hz]
                rw [e]; exact RHy
              have R9x := R9y
              clear g6 x6 RHy
              have kk0 : (W.setCell ⟨p9, 5, none⟩ (.bool true)).cell? ⟨p9, 0, none⟩ = some (.int .u8 7) := R9x.cell 0
              have kk1 : (W.setCell ⟨p9, 5, none⟩ (.bool true)).cell? ⟨p9, 1, none⟩ = some (.int .u64 (id : Int)) := R9x.cell 1
              have kk2 : (W.setCell ⟨p9, 5, none⟩ (.bool true)).cell? ⟨p9, 2, none⟩ = some (.int .u64 (p : Int)) := R9x.cell 2
              have kk3 : (W.setCell ⟨p9, 5, none⟩ (.bool true)).cell? ⟨p9, 3, none⟩ = some (.int .u64 0) := R9x.cell 3
              have kk4 : (W.setCell ⟨p9, 5, none⟩ (.bool true)).cell? ⟨p9, 4, none⟩ = some (.int .u64 0) := R9x.cell 4
              have kk5 : (W.setCell ⟨p9, 5, none⟩ (.bool true)).cell? ⟨p9, 5, none⟩ = some (.bool true) := R9x.cell 5
              have kk6 : (W.setCell ⟨p9, 5, none⟩ (.bool true)).cell? ⟨p9, 6, none⟩ = some (.slice va dl vc) := R9x.cell 6
              have kk7 : (W.setCell ⟨p9, 5, none⟩ (.bool true)).cell? ⟨p9, 7, none⟩ = some (.slice none 0 0) := R9x.cell 7
              have rr0 : (W.setCell ⟨p9, 5, none⟩ (.bool true)).cell? ⟨w.heap.size, 0, none⟩ = some (.int .u8 0) := RFy.cell 0
              have rr1 : (W.setCell ⟨p9, 5, none⟩ (.bool true)).cell? ⟨w.heap.size, 1, none⟩ = some (.int .u64 0) := RFy.cell 1
              have rr2 : (W.setCell ⟨p9, 5, none⟩ (.bool true)).cell? ⟨w.heap.size, 2, none⟩ = some (.int .u64 0) := RFy.cell 2
              have rr3 : (W.setCell ⟨p9, 5, none⟩ (.bool true)).cell? ⟨w.heap.size, 3, none⟩ = some (.int .u64 0) := RFy.cell 3
              have rr4 : (W.setCell ⟨p9, 5, none⟩ (.bool true)).cell? ⟨w.heap.size, 4, none⟩ = some (.int .u64 0) := RFy.cell 4
              have rr5 : (W.setCell ⟨p9, 5, none⟩ (.bool true)).cell? ⟨w.heap.size, 5, none⟩ = some (.bool false) := RFy.cell 5
              have rr6 : (W.setCell ⟨p9, 5, none⟩ (.bool true)).cell? ⟨w.heap.size, 6, none⟩ = some (.slice none 0 0) := RFy.cell 6
              have rr7 : (W.setCell ⟨p9, 5, none⟩ (.bool true)).cell? ⟨w.heap.size, 7, none⟩ = some (.slice none 0 0) := RFy.cell 7
              have ff0 : (W.setCell ⟨p9, 5, none⟩ (.bool true)).frozen? ⟨w.heap.size, 0, none⟩ = false := RFy.frozen 0
              have ff1 : (W.setCell ⟨p9, 5, none⟩ (.bool true)).frozen? ⟨w.heap.size, 1, none⟩ = false := RFy.frozen 1
              have ff2 : (W.setCell ⟨p9, 5, none⟩ (.bool true)).frozen? ⟨w.heap.size, 2, none⟩ = false := RFy.frozen 2
              have ff3 : (W.setCell ⟨p9, 5, none⟩ (.bool true)).frozen? ⟨w.heap.size, 3, none⟩ = false := RFy.frozen 3
              have ff4 : (W.setCell ⟨p9, 5, none⟩ (.bool true)).frozen? ⟨w.heap.size, 4, none⟩ = false := RFy.frozen 4
              have ff5 : (W.setCell ⟨p9, 5, none⟩ (.bool true)).frozen? ⟨w.heap.size, 5, none⟩ = false := RFy.frozen 5
              have ff6 : (W.setCell ⟨p9, 5, none⟩ (.bool true)).frozen? ⟨w.heap.size, 6, none⟩ = false := RFy.frozen 6
              have ff7 : (W.setCell ⟨p9, 5, none⟩ (.bool true)).frozen? ⟨w.heap.size, 7, none⟩ = false := RFy.frozen 7
              go_wp2_with fail
              clear kk0 kk1 kk2 kk3 kk4 kk5 kk6 kk7 rr0 rr1 rr2 rr3 rr4 rr5 rr6 rr7 ff0 ff1 ff2 ff3 ff4 ff5 ff6 ff7
              generalize (W.setCell ⟨p9, 5, none⟩ (.bool true)) = X9 at *
              have k8 := keep8P X9 w.heap.size (.int .u8 7) (.int .u64 (id : Int)) (.int .u64 (p : Int)) (.int .u64 0) (.int .u64 0) (.bool true) (.slice va dl vc) (.slice none 0 0)
              refine bodyPost_ret (results_cell_row rfl _ _ w.heap.size 28 (frD id p true (.slice va dl vc)) (0, 0) _ rfl (row8 (d0 := .int .u8 7) (d1 := .int .u64 (id : Int)) (d2 := .int .u64 (p : Int)) (d3 := .int .u64 0) (d4 := .int .u64 0) (d5 := .bool true) (d6 := .slice va dl vc) (d7 := .slice none 0 0) RFy) Tryz.underlying28 rfl (by kernel_rfl)) rfl ?_
              obtain ⟨t1, t2, t3⟩ := told_end (w' := _) RG.out (fun t _ => rfl) HD.out (⟨_, R9.out⟩ : Ty W p9 28) H9.out (Nat.le_refl _) (p := p) (q := q) (k8.block h hR.lt NH.out |>.trans hR) (onto (KPy) k8 (fun z _ e => .inr (.inr e)))
              exact ⟨_, by rw [HID.out, hfb], by rw [HDL.out]; exact t1, HDN.out, t2, t3⟩
            · have n1 : ((s.fin : Int) != 3) = true := by rw [bne_iff_ne]; omega
              have n2 : ¬ (s.fin : Int) = 3 := by omega
              have o6 : ∀ k, k ≠ h → ((W.setCell ⟨p9, 5, none⟩ (.bool true)).setCell ⟨h, 6, none⟩ (.int .i64 1)).heap[k]? = (W.setCell ⟨p9, 5, none⟩ (.bool true)).heap[k]? := fun k hk => Below.heap_setCell _ _ _ k hk
              have hR : Row ((W.setCell ⟨p9, 5, none⟩ (.bool true)).setCell ⟨h, 6, none⟩ (.int .i64 1)) h 75 (rfC bv hv (toldR s p q)) := by
                have e : rfC bv hv (toldR s p q) = (rfC bv hv s).setIfInBounds 6 (.int .i64 1) := by unfold rfC toldR; simp [hl, hqn, hz]
                rw [e]; exact RHy.set 6 _
              have R9x := (o6 p9 N9.out.symm).trans R9y
              have R9x : Row ((W.setCell ⟨p9, 5, none⟩ (.bool true)).setCell ⟨h, 6, none⟩ (.int .i64 1)) p9 28 #[.int .u8 7, .int .u64 (id : Int), .int .u64 (p : Int), .int .u64 0, .int .u64 0, .bool true, .slice va dl vc, .slice none 0 0] := R9x
              have RFz : Row ((W.setCell ⟨p9, 5, none⟩ (.bool true)).setCell ⟨h, 6, none⟩ (.int .i64 1)) w.heap.size 28 #[.int .u8 0, .int .u64 0, .int .u64 0, .int .u64 0, .int .u64 0, .bool false, .slice none 0 0, .slice none 0 0] := (o6 _ NH.out.symm).trans RFy
              have KPz : KeepP (fun k => k = h ∨ k = p9 ∨ k = w.heap.size) W ((W.setCell ⟨p9, 5, none⟩ (.bool true)).setCell ⟨h, 6, none⟩ (.int .i64 1)) := onto KPy (KeepP.setCell (st := fun k => k = h) rfl _ 6 _) (fun z _ e => .inl e)
              clear g6 x6 RHy hz
              have kk0 : ((W.setCell ⟨p9, 5, none⟩ (.bool true)).setCell ⟨h, 6, none⟩ (.int .i64 1)).cell? ⟨p9, 0, none⟩ = some (.int .u8 7) := R9x.cell 0
              have kk1 : ((W.setCell ⟨p9, 5, none⟩ (.bool true)).setCell ⟨h, 6, none⟩ (.int .i64 1)).cell? ⟨p9, 1, none⟩ = some (.int .u64 (id : Int)) := R9x.cell 1
              have kk2 : ((W.setCell ⟨p9, 5, none⟩ (.bool true)).setCell ⟨h, 6, none⟩ (.int .i64 1)).cell? ⟨p9, 2, none⟩ = some (.int .u64 (p : Int)) := R9x.cell 2
              have kk3 : ((W.setCell ⟨p9, 5, none⟩ (.bool true)).setCell ⟨h, 6, none⟩ (.int .i64 1)).cell? ⟨p9, 3, none⟩ = some (.int .u64 0) := R9x.cell 3
              have kk4 : ((W.setCell ⟨p9, 5, none⟩ (.bool true)).setCell ⟨h, 6, none⟩ (.int .i64 1)).cell? ⟨p9, 4, none⟩ = some (.int .u64 0) := R9x.cell 4
              have kk5 : ((W.setCell ⟨p9, 5, none⟩ (.bool true)).setCell ⟨h, 6, none⟩ (.int .i64 1)).cell? ⟨p9, 5, none⟩ = some (.bool true) := R9x.cell 5
              have kk6 : ((W.setCell ⟨p9, 5, none⟩ (.bool true)).setCell ⟨h, 6, none⟩ (.int .i64 1)).cell? ⟨p9, 6, none⟩ = some (.slice va dl vc) := R9x.cell 6
              have kk7 : ((W.setCell ⟨p9, 5, none⟩ (.bool true)).setCell ⟨h, 6, none⟩ (.int .i64 1)).cell? ⟨p9, 7, none⟩ = some (.slice none 0 0) := R9x.cell 7
              have rr0 : ((W.setCell ⟨p9, 5, none⟩ (.bool true)).setCell ⟨h, 6, none⟩ (.int .i64 1)).cell? ⟨w.heap.size, 0, none⟩ = some (.int .u8 0) := RFz.cell 0
              have rr1 : ((W.setCell ⟨p9, 5, none⟩ (.bool true)).setCell ⟨h, 6, none⟩ (.int .i64 1)).cell? ⟨w.heap.size, 1, none⟩ = some (.int .u64 0) := RFz.cell 1
              have rr2 : ((W.setCell ⟨p9, 5, none⟩ (.bool true)).setCell ⟨h, 6, none⟩ (.int .i64 1)).cell? ⟨w.heap.size, 2, none⟩ = some (.int .u64 0) := RFz.cell 2
              have rr3 : ((W.setCell ⟨p9, 5, none⟩ (.bool true)).setCell ⟨h, 6, none⟩ (.int .i64 1)).cell? ⟨w.heap.size, 3, none⟩ = some (.int .u64 0) := RFz.cell 3
              have rr4 : ((W.setCell ⟨p9, 5, none⟩ (.bool true)).setCell ⟨h, 6, none⟩ (.int .i64 1)).cell? ⟨w.heap.size, 4, none⟩ = some (.int .u64 0) := RFz.cell 4
              have rr5 : ((W.setCell ⟨p9, 5, none⟩ (.bool true)).setCell ⟨h, 6, none⟩ (.int .i64 1)).cell? ⟨w.heap.size, 5, none⟩ = some (.bool false) := RFz.cell 5
              have rr6 : ((W.setCell ⟨p9, 5, none⟩ (.bool true)).setCell ⟨h, 6, none⟩ (.int .i64 1)).cell? ⟨w.heap.size, 6, none⟩ = some (.slice none 0 0) := RFz.cell 6
              have rr7 : ((W.setCell ⟨p9, 5, none⟩ (.bool true)).setCell ⟨h, 6, none⟩ (.int .i64 1)).cell? ⟨w.heap.size, 7, none⟩ = some (.slice none 0 0) := RFz.cell 7
              have ff0 : ((W.setCell ⟨p9, 5, none⟩ (.bool true)).setCell ⟨h, 6, none⟩ (.int .i64 1)).frozen? ⟨w.heap.size, 0, none⟩ = false := RFz.frozen 0
              have ff1 : ((W.setCell ⟨p9, 5, none⟩ (.bool true)).setCell ⟨h, 6, none⟩ (.int .i64 1)).frozen? ⟨w.heap.size, 1, none⟩ = false := RFz.frozen 1
              have ff2 : ((W.setCell ⟨p9, 5, none⟩ (.bool true)).setCell ⟨h, 6, none⟩ (.int .i64 1)).frozen? ⟨w.heap.size, 2, none⟩ = false := RFz.frozen 2
              have ff3 : ((W.setCell ⟨p9, 5, none⟩ (.bool true)).setCell ⟨h, 6, none⟩ (.int .i64 1)).frozen? ⟨w.heap.size, 3, none⟩ = false := RFz.frozen 3
              have ff4 : ((W.setCell ⟨p9, 5, none⟩ (.bool true)).setCell ⟨h, 6, none⟩ (.int .i64 1)).frozen? ⟨w.heap.size, 4, none⟩ = false := RFz.frozen 4
              have ff5 : ((W.setCell ⟨p9, 5, none⟩ (.bool true)).setCell ⟨h, 6, none⟩ (.int .i64 1)).frozen? ⟨w.heap.size, 5, none⟩ = false := RFz.frozen 5
              have ff6 : ((W.setCell ⟨p9, 5, none⟩ (.bool true)).setCell ⟨h, 6, none⟩ (.int .i64 1)).frozen? ⟨w.heap.size, 6, none⟩ = false := RFz.frozen 6
              have ff7 : ((W.setCell ⟨p9, 5, none⟩ (.bool true)).setCell ⟨h, 6, none⟩ (.int .i64 1)).frozen? ⟨w.heap.size, 7, none⟩ = false := RFz.frozen 7
              go_wp2_with fail
              clear kk0 kk1 kk2 kk3 kk4 kk5 kk6 kk7 rr0 rr1 rr2 rr3 rr4 rr5 rr6 rr7 ff0 ff1 ff2 ff3 ff4 ff5 ff6 ff7
              generalize ((W.setCell ⟨p9, 5, none⟩ (.bool true)).setCell ⟨h, 6, none⟩ (.int .i64 1)) = X9 at *
              have k8 := keep8P X9 w.heap.size (.int .u8 7) (.int .u64 (id : Int)) (.int .u64 (p : Int)) (.int .u64 0) (.int .u64 0) (.bool true) (.slice va dl vc) (.slice none 0 0)
              refine bodyPost_ret (results_cell_row rfl _ _ w.heap.size 28 (frD id p true (.slice va dl vc)) (0, 0) _ rfl (row8 (d0 := .int .u8 7) (d1 := .int .u64 (id : Int)) (d2 := .int .u64 (p : Int)) (d3 := .int .u64 0) (d4 := .int .u64 0) (d5 := .bool true) (d6 := .slice va dl vc) (d7 := .slice none 0 0) RFz) Tryz.underlying28 rfl (by kernel_rfl)) rfl ?_
              obtain ⟨t1, t2, t3⟩ := told_end (w' := _) RG.out (fun t _ => rfl) HD.out (⟨_, R9.out⟩ : Ty W p9 28) H9.out (Nat.le_refl _) (p := p) (q := q) (k8.block h hR.lt NH.out |>.trans hR) (onto (KPz) k8 (fun z _ e => .inr (.inr e)))
              exact ⟨_, by rw [HID.out, hfb], by rw [HDL.out]; exact t1, HDN.out, t2, t3⟩
          · have hfb : finB s q = false := by unfold finB; rw [hl]; simp [hqn]
            have y1 : decide ((q : Int) = (s.b.length : Int)) = false := by simp; omega
            have y2 : ((q : Int) == (s.b.length : Int)) = false := by simp; omega
            have y3 : ¬ (q : Int) = (s.b.length : Int) := by omega
            have hR : Row W h 75 (rfC bv hv (toldR s p q)) := by
              have e : rfC bv hv (toldR s p q) = rfC bv hv s := by unfold rfC toldR; simp [hqn]
              rw [e]; exact RG.out.row
            clear hqn
            have kk0 : W.cell? ⟨p9, 0, none⟩ = some (.int .u8 7) := R9x.cell 0
            have kk1 : W.cell? ⟨p9, 1, none⟩ = some (.int .u64 (id : Int)) := R9x.cell 1
            have kk2 : W.cell? ⟨p9, 2, none⟩ = some (.int .u64 (p : Int)) := R9x.cell 2
            have kk3 : W.cell? ⟨p9, 3, none⟩ = some (.int .u64 0) := R9x.cell 3
            have kk4 : W.cell? ⟨p9, 4, none⟩ = some (.int .u64 0) := R9x.cell 4
            have kk5 : W.cell? ⟨p9, 5, none⟩ = some (.bool false) := R9x.cell 5
            have kk6 : W.cell? ⟨p9, 6, none⟩ = some (.slice va dl vc) := R9x.cell 6
            have kk7 : W.cell? ⟨p9, 7, none⟩ = some (.slice none 0 0) := R9x.cell 7
            have rr0 : W.cell? ⟨w.heap.size, 0, none⟩ = some (.int .u8 0) := RFX.cell 0
            have rr1 : W.cell? ⟨w.heap.size, 1, none⟩ = some (.int .u64 0) := RFX.cell 1
            have rr2 : W.cell? ⟨w.heap.size, 2, none⟩ = some (.int .u64 0) := RFX.cell 2
            have rr3 : W.cell? ⟨w.heap.size, 3, none⟩ = some (.int .u64 0) := RFX.cell 3
            have rr4 : W.cell? ⟨w.heap.size, 4, none⟩ = some (.int .u64 0) := RFX.cell 4
            have rr5 : W.cell? ⟨w.heap.size, 5, none⟩ = some (.bool false) := RFX.cell 5
            have rr6 : W.cell? ⟨w.heap.size, 6, none⟩ = some (.slice none 0 0) := RFX.cell 6
            have rr7 : W.cell? ⟨w.heap.size, 7, none⟩ = some (.slice none 0 0) := RFX.cell 7
            have ff0 : W.frozen? ⟨w.heap.size, 0, none⟩ = false := RFX.frozen 0
            have ff1 : W.frozen? ⟨w.heap.size, 1, none⟩ = false := RFX.frozen 1
            have ff2 : W.frozen? ⟨w.heap.size, 2, none⟩ = false := RFX.frozen 2
            have ff3 : W.frozen? ⟨w.heap.size, 3, none⟩ = false := RFX.frozen 3
            have ff4 : W.frozen? ⟨w.heap.size, 4, none⟩ = false := RFX.frozen 4
            have ff5 : W.frozen? ⟨w.heap.size, 5, none⟩ = false := RFX.frozen 5
            have ff6 : W.frozen? ⟨w.heap.size, 6, none⟩ = false := RFX.frozen 6
            have ff7 : W.frozen? ⟨w.heap.size, 7, none⟩ = false := RFX.frozen 7
            go_wp2_with fail
            have k8 := keep8P W w.heap.size (.int .u8 7) (.int .u64 (id : Int)) (.int .u64 (p : Int)) (.int .u64 0) (.int .u64 0) (.bool false) (.slice va dl vc) (.slice none 0 0)
            refine bodyPost_ret (results_cell_row rfl _ _ w.heap.size 28 (frD id p false (.slice va dl vc)) (0, 0) _ rfl (row8 (d0 := .int .u8 7) (d1 := .int .u64 (id : Int)) (d2 := .int .u64 (p : Int)) (d3 := .int .u64 0) (d4 := .int .u64 0) (d5 := .bool false) (d6 := .slice va dl vc) (d7 := .slice none 0 0) RFX) Tryz.underlying28 rfl (by kernel_rfl)) rfl ?_
            obtain ⟨t1, t2, t3⟩ := told_end (w' := _) RG.out (fun t _ => rfl) HD.out (⟨_, R9.out⟩ : Ty W p9 28) H9.out (Nat.le_refl _) (p := p) (q := q) (k8.block h hR.lt NH.out |>.trans hR) (onto (KeepP.refl (fun k => k = h ∨ k = p9 ∨ k = w.heap.size) W) k8 (fun z _ e => .inr (.inr e)))
            exact ⟨_, by rw [HID.out, hfb], by rw [HDL.out]; exact t1, HDN.out, t2, t3⟩
end Sr
end Go.Proofs.YtehadfidenejdaaGreatDoor
