/-
  StreamCredit: the walk. Written by mksncred.py.
-/
import Derived.Test.YtnlckmopgkabpaaGs16
import Derived.Test.YtnlckmopgkabpaaGsSnLives
import Derived.Test.YtnlckmopgkabpaaGs15
import Derived.Test.YtnlckmopgkabpaaGs6
namespace Go.Proofs.Ytnlckmopgkabpaa
open Go Go.RowKit

namespace Sr
open Sd
section
variable {P : Program} {a : Act} {o : Oper}
theorem size_runK {e : TypeId} {k : Nat} (hi : (P.info? e).map (·.size) = some k) (W : World) : (sizeOf e).run P W = .ok k W := by
  cases hq : P.info? e with
  | none => simp [hq] at hi
  | some i =>
    have : i.size = k := by simpa [hq] using hi
    simp [sizeOf, typeInfo, hq, this]
theorem run_atK (t e : TypeId) (x ix : Operand) (g off len cap j : Nat) (ho : o.op = .indexAddr t x ix) (hx : a.eval x = .slice (some ⟨g, off, none⟩) len cap) (hix : a.eval ix = .int .i64 (j : Int))
    (hu : P.underlying t = some (.slice e)) (hi : (P.info? e).map (·.size) = some 2) (hj : j < len) (W : World) : (execOp a.eval o).run P W = .ok (.value (.pointer (some ⟨g, off + j * 2, none⟩))) W := by
  unfold execOp
  simp [ho, hx, hix, Instr.indexAt, asIntOf, run_underlying hu, hj, size_runK hi W, Addr.add]
theorem run_atB (t e : TypeId) (n : Nat) (x ix : Operand) (g off j : Nat) (ho : o.op = .indexAddr t x ix) (hx : a.eval x = .pointer (some ⟨g, off, none⟩)) (hix : a.eval ix = .int .i64 (j : Int))
    (hu : P.underlying t = some (.array n e)) (hi : (P.info? e).map (·.size) = some 1) (hj : j < n) (W : World) : (execOp a.eval o).run P W = .ok (.value (.pointer (some ⟨g, off + j, none⟩))) W := by
  unfold execOp
  simp [ho, hx, hix, Instr.indexAt, asIntOf, Instr.sureAddr, run_underlying hu, hj, size_runK hi W, Addr.add]
theorem run_conv8I (t t' : TypeId) (x : Operand) (r : Nat) (hr : r < 256) (ho : o.op = .convert t t' x) (hx : a.eval x = .int .u8 (r : Int)) (ht : P.underlying t = some (.int .u8)) (ht' : P.underlying t' = some (.int .i64)) (W : World) :
    (execOp a.eval o).run P W = .ok (.value (.int .i64 (r : Int))) W := by
  unfold execOp
  simp only [ho, hx]
  go_simp
  rw [IntKind.wrap_i64]
  omega
theorem run_conv8U (t t' : TypeId) (x : Operand) (r : Nat) (hr : r < 256) (ho : o.op = .convert t t' x) (hx : a.eval x = .int .u8 (r : Int)) (ht : P.underlying t = some (.int .u8)) (ht' : P.underlying t' = some (.int .u64)) (W : World) :
    (execOp a.eval o).run P W = .ok (.value (.int .u64 (r : Int))) W := by
  unfold execOp
  simp only [ho, hx]
  go_simp
  rw [IntKind.wrap_u64]
  omega
end
def crCells (kd st of_ : Nat) (da : Option Addr) (m : Nat) : Array Value := #[.int .u8 (kd : Int), .int .u64 (st : Int), .int .u64 (of_ : Int), .int .u64 0, .int .u64 0, .bool false, .slice da m m, .slice none 0 0]
/-- What Take answered, and what stands then. -/
def CrC (w : World) (g : Nat) (s : Snd) (m : Nat) (v : Value) (o : Nat → Prop) (W : World) : Prop :=
  ∃ kd st of_ da, v = .tuple #[.agg (crCells kd st of_ da m), .bool (decide (0 < m))] ∧ SnS W g s o ∧ Below w.heap.size w W ∧ ∀ k, o k → w.heap.size ≤ k
section
variable {w : World} {g : Nat} {s : Snd} {m : Nat} {v : Value} {o : Nat → Prop} {W W' : World}
theorem CrC.lt (h : CrC w g s m v o W) : ∀ k, o k → k < W.heap.size := by
  obtain ⟨_, _, _, _, _, h1, _⟩ := h
  exact snS_lt h1
theorem CrC.keep {st : Nat → Prop} {W0 : World} (h : CrC w g s m v o W) (hw : w.heap.size ≤ W0.heap.size) (k : KeepP st W W') (hs : ∀ k, o k → ¬ st k) (hst : ∀ k, st k → W0.heap.size ≤ k) : CrC w g s m v o W' := by
  obtain ⟨kd, st', of_, da, h0, h1, h2, h3⟩ := h
  exact ⟨kd, st', of_, da, h0, h1.keep k hs, h2.trans (k.below (fun q hq => Nat.le_trans hw (hst q hq)) h2.size), h3⟩
end
theorem credit_take {w W : World} {g : Nat} {s : Snd} {own : Nat → Prop} (x : SnA w W g s own) {b : List By} {c : Nat} (hc : Sd.Calm b c s) (N M : Nat) (hN : N < 256) (hM : M < 256) :
    Calls Try.prog 9 #[.pointer (some ⟨g, 0, none⟩), .int .i64 (N : Int), .int .u64 (M : Int)] W fun e w' => ∃ v o, e = .returned v ∧ CrC w g (Sd.take s (N : Int) M) (more s (N : Int) M) v o w' ∧ KeepP own W w' ∧ ∀ k, o k → own k ∨ W.heap.size ≤ k := by
  have hsp := calm_span hc (n := (N : Int)) (by omega) M
  by_cases e : 0 < more s (N : Int) M
  · rw [if_pos e] at hsp
    have hf : finB s (s.fresh + more s (N : Int) M) = false := by unfold finB; rw [hc.last]; rfl
    have sp := span_some hc.fine hsp
    have hl := Sd.cut_length sp.le sp.top
    have hfr : (Sd.cut s.b s.fresh (s.fresh + more s (N : Int) M)).length = more s (N : Int) M := by omega
    refine (take_to x.sn (by omega) (by omega) hsp rfl rfl hf).mono ?_
    rintro e' w' ⟨b', o, he, h1, h2, h3⟩
    have hx := x.after h1 h2
    have ht : Sd.take s (N : Int) M = tell s s.fresh (s.fresh + more s (N : Int) M) := by unfold Sd.take; rw [hsp]
    refine ⟨_, o, he, ⟨7, s.id, s.fresh, some ⟨b', 0, none⟩, ?_, by rw [ht]; exact h1, hx.bel, hx.ow⟩, h2.1, h2.2⟩
    rw [decide_eq_true e]
    unfold FrM.cells frT crCells
    simp only [hfr]
    rfl
  · rw [if_neg e] at hsp
    have ht : Sd.take s (N : Int) M = s := by unfold Sd.take; rw [hsp]
    have hm : more s (N : Int) M = 0 := by omega
    refine (take_none x.sn (by omega) (by omega) hsp).mono ?_
    rintro e' w' ⟨he, hb⟩
    have hx := x.below hb
    refine ⟨_, own, he, ⟨0, 0, 0, none, ?_, by rw [ht]; exact hx.sn, hx.bel, hx.ow⟩, KeepP.of_below hb, fun k hk => .inl hk⟩
    rw [decide_eq_false e, hm]
    rfl
def aftCr : Nat → Bool
  | 13 => true
  | 14 => true
  | 15 => true
  | 16 => true
  | 19 => true
  | _ => false
def csCr : Value → Array Value
  | .tuple #[.agg cs, _] => cs
  | _ => #[]
def okCr : Value → Value
  | .tuple #[_, b] => b
  | _ => undef
def valCd (v : Value) : Nat → Value
  | 15 => .agg (csCr v)
  | 16 => okCr v
  | 19 => okCr v
  | _ => v
def depCr : Nat → List Nat
  | 3 => [1, 2]
  | 4 => [3]
  | 5 => [4]
  | 6 => [5]
  | 9 => [7, 8]
  | 10 => [9]
  | 11 => [10]
  | 12 => [11]
  | 13 => [0, 6, 12]
  | 14 => [13]
  | 15 => [14]
  | 16 => [14]
  | 18 => [17, 15]
  | 19 => [16]
  | _ => []
def valCr (g lg lo len lc k N M : Nat) : Nat → Value
  | 0 => .pointer (some ⟨g, 0, none⟩)
  | 1 => .slice (some ⟨lg, lo, none⟩) len lc
  | 2 => .int .i64 (k : Int)
  | 3 => .pointer (some ⟨lg, lo + k * 2, none⟩)
  | 4 => .pointer (some ⟨lg, lo + k * 2, none⟩)
  | 5 => .int .u8 (N : Int)
  | 6 => .int .i64 (N : Int)
  | 7 => .slice (some ⟨lg, lo, none⟩) len lc
  | 8 => .int .i64 (k : Int)
  | 9 => .pointer (some ⟨lg, lo + k * 2, none⟩)
  | 10 => .pointer (some ⟨lg, lo + k * 2 + 1, none⟩)
  | 11 => .int .u8 (M : Int)
  | 12 => .int .u64 (M : Int)
  | _ => undef
theorem cr_new (c : Nat) (w : World) (hc : c < 65536) : Calls Try.prog 6 #[.int .u64 8, .int .u64 (c : Int)] w fun e w' => e = .returned (.tuple #[.pointer (some ⟨w.heap.size, 0, none⟩), .int .i64 0]) ∧ SnA w w' w.heap.size (new 8 c) (fun k => k = w.heap.size) := by
  refine (new_any 8 c w (by decide) (by omega)).mono ?_
  rintro e w' ⟨h1, h2, h3⟩
  exact ⟨h1, h2, h3, fun k hk => by rw [hk]; exact Nat.le_refl _⟩
theorem cr_write {w W : World} {g c : Nat} {own : Nat → Prop} (x : SnA w W g (new 8 c) own) {b : SL} (hb : b.Ok W) (hl : b.len ≤ 5000) (hc : c < 65536) : Calls Try.prog 8 #[.pointer (some ⟨g, 0, none⟩), .slice b.a b.len b.cap, .bool false] W fun e w' => e = .returned (.int .i64 0) ∧ ∃ s own', SnA w w' g s own' ∧ Sd.Calm b.b c s := by
  refine (write_any W g _ own x.sn b hb false).mono ?_
  rintro e w' ⟨h1, own', h2, h3⟩
  have e8 : writeE (new 8 c) b.len = 0 := by unfold writeE new; rw [if_neg (by simp), if_neg (by simp; omega)]
  rw [e8] at h1
  have hlen := hb.hb
  exact ⟨h1, _, own', x.after h2 h3, Sd.Calm.start (by omega) (by decide) (by omega)⟩
set_option maxRecDepth 20000 in
set_option maxHeartbeats 4000000 in
theorem credit_walk (b : SL) (c : Nat) (q : PL8) (w : World) (hb : b.Ok w) (hc : c < 65536) (hq : q.Ok w) :
    Calls Try.prog 4 #[.slice b.a b.len b.cap, .int .u16 (c : Int), .slice q.a q.len q.cap] w fun e w' => e = .returned (.bool true) ∧ Below w.heap.size w w' := by
  obtain ⟨la, len, lc, lg, lo, l⟩ := q
  simp only
  by_cases h1 : 5000 < b.len ∨ 500 < len
  · clear hb hq hc
    generalize b.len = bl at *
    by_cases h2 : 5000 < bl
    · have d1 : decide ((5000 : Int) < (bl : Int)) = true := by simp; omega
      have d2 : decide (5000 < bl) = true := by simp; omega
      clear h1 h2
      go_enter Try.func4, Try.ntmps4
      go_wp2_with fail
      refine (lives_any w).mono ?_
      rintro e1 w1 ⟨rfl, hb1⟩
      have B1 := veil hb1
      clear hb1
      go_wp2_with fail
      go_ret
      exact ⟨rfl, B1.out⟩
    · have h3 := h1.resolve_left h2
      have d1 : decide ((5000 : Int) < (bl : Int)) = false := by simp; omega
      have d2 : decide (5000 < bl) = false := by simp; omega
      have d3 : decide ((500 : Int) < (len : Int)) = true := by simp; omega
      have d4 : decide (500 < len) = true := by simp; omega
      clear h1 h2 h3
      go_enter Try.func4, Try.ntmps4
      go_wp2_with fail
      refine (lives_any w).mono ?_
      rintro e1 w1 ⟨rfl, hb1⟩
      have B1 := veil hb1
      clear hb1
      go_wp2_with fail
      go_ret
      exact ⟨rfl, B1.out⟩
  · have hl1 : b.len ≤ 5000 := by omega
    have hl2 : len ≤ 500 := by omega
    have hcw : IntKind.u64.wrap (c : Int) = (c : Int) := by rw [IntKind.wrap_u64]; omega
    have HQ := veil hq
    have HBS := veil hb
    have HCB := veil hc
    have HL := veil (show b.len ≤ 5000 ∧ len ≤ 500 from ⟨hl1, hl2⟩)
    obtain ⟨ba, bl, bc, bg, bo, bb⟩ := b
    simp only at HL hl1 ⊢
    have d1 : decide ((5000 : Int) < (bl : Int)) = false := by simp; omega
    have d2 : decide (5000 < bl) = false := by simp; omega
    have d3 : decide ((500 : Int) < (len : Int)) = false := by simp; omega
    have d4 : decide (500 < len) = false := by simp; omega
    have hbw : IntKind.u64.wrap (bl : Int) = (bl : Int) := by rw [IntKind.wrap_u64]; omega
    clear h1 hb hq hc hl1 hl2
    go_enter Try.func4, Try.ntmps4
    go_wp2_with fail
    refine (cr_new c w HCB.out).mono ?_
    rintro e1 w1 ⟨rfl, x1⟩
    have X1 := veil x1
    have BW1 := veil (HBS.out.below x1.bel)
    clear x1
    go_wp2_with fail
    refine (cr_write X1.out BW1.out HL.out.1 HCB.out).mono ?_
    rintro e2 w2 ⟨rfl, s0, o0, x2, hcalm⟩
    have X2 := veil x2
    have CA := veil hcalm
    clear x2 hcalm X1 BW1
    go_wp2_with fail
    obtain ⟨g, hg⟩ : ∃ g, w.heap.size = g := ⟨_, rfl⟩
    rw [hg] at X2 ⊢
    have HG := veil hg
    clear hg
    go_loopw [9] (fun iv wr => ∃ (k : Nat) (s : Snd) (own : Nat → Prop), k ≤ len ∧ iv = .int .i64 (k : Int) ∧ SnA w wr g s own ∧ Sd.Calm bb c s)
      (fun iv _ => len - (intOf iv).toNat)
    case atStart => exact ⟨0, s0, o0, Nat.zero_le _, rfl, X2.out, CA.out⟩
    case round =>
      clear X2 CA
      obtain ⟨k, s, own, hk, rfl, hs, hcalm⟩ := hrel
      by_cases hlt : k < len
      · have e1 : la = some ⟨lg, lo, none⟩ := HQ.out.at_ (show 0 < len by omega)
        subst e1
        have HLT := veil hlt
        have sm := HQ.out.small k
        have hcells := fun W (hW : Below w.heap.size w W) => (HQ.out.below hW).cell k hlt
        simp only at sm hcells
        obtain ⟨N, hN⟩ : ∃ N, (gr l k).1 = N := ⟨_, rfl⟩
        obtain ⟨M, hM⟩ : ∃ M, (gr l k).2 = M := ⟨_, rfl⟩
        rw [hN, hM] at sm
        simp only [hN, hM] at hcells
        clear hN hM
        have HN := veil sm
        have HCL := veil hcells
        have HCM := veil hcalm
        have HS0 := veil hs
        have hfr : Calls Try.prog 16 #[.pointer (some ⟨g, 0, none⟩)] wr fun e w' => e = .returned (.int .u64 (s.fresh : Int)) ∧ Below wr.heap.size wr w' := by
          obtain ⟨_, _, _, _, _, h1, _⟩ := hs.sn
          exact fresh_any h1
        have HF := veil hfr
        have bI : (k : Int) < (len : Int) := by omega
        clear sm hcells hcalm hs hfr hlt hk
        obtain ⟨f, hf⟩ : ∃ f, s.fresh = f := ⟨_, rfl⟩
        rw [hf] at HF
        have HFE := veil hf
        clear hf
        go_wp2_with fail
        refine HF.out.mono ?_
        rintro e3 w3 ⟨rfl, hb3⟩
        have HS := veil ((HS0.out.below hb3).below ((Below.refl _ w3).drew))
        have HC2 := veil (fun W (hW : Below w3.drew.heap.size w3.drew W) => HCL.out W (HS.out.bel.trans (hW.mono HS.out.bel.size)))
        have HB := veil (show w.heap.size ≤ w3.drew.heap.size from HS.out.bel.size)
        clear hb3 HF HS0
        go_wp2_with fail
        refine (wpIn_wide (n := 4)).1 ?_
        refine wpIn_region_any (by kernel_rfl) ?_
        refine anyIn_calloc (valCr g lg lo len lc k N M) valCd aftCr 13 17 18 [0, 1, 2, 3, 4, 5, 6, 7, 8, 9, 10, 11, 12] 37 #[.int .u8 0, .int .u64 0, .int .u64 0, .int .u64 0, .int .u64 0, .bool false, .slice none 0 0, .slice none 0 0] csCr own (CrC w g (Sd.take s (N : Int) M) (more s (N : Int) M)) [46, 47, 48, 49, 50, 51, 52, 53, 54, 55, 56, 57, 58, 59, 45, 60, 61, 11, 100000, 12] depCr (by kernel_rfl) rfl (by decide) (by decide) (by decide) (by decide) (by decide) rfl rfl rfl (by decide) (by decide) (by decide) (by decide) (fun v => rfl) (snS_lt HS.out.sn) (fun v o W h => h.lt) (fun v o W W' st h => h.keep HB.out) (Below.refl _ _) ?fix ?call ?aftS ?all ?sto ?row ?done
        case fix =>
          intro x W i d n1 n2 ha hdi hpre hdep
          match i, n1, n2, ha, hdi, hpre, hdep with
          | 0, _, _, _, hdi, _, _ =>
            obtain rfl := Option.some.inj hdi
            exact OI_value rfl rfl (about_none (by intro c h; cases h)) (by intro c h; cases h) (.pointer (some ⟨g, 0, none⟩)) W (by kernel_rfl) ⟨rfl, rfl⟩
          | 1, _, _, _, hdi, _, _ =>
            obtain rfl := Option.some.inj hdi
            exact OI_value rfl rfl (about_none (by intro c h; cases h)) (by intro c h; cases h) (.slice (some ⟨lg, lo, none⟩) len lc) W (by kernel_rfl) ⟨rfl, rfl⟩
          | 2, _, _, _, hdi, _, _ =>
            obtain rfl := Option.some.inj hdi
            exact OI_value rfl rfl (about_none (by intro c h; cases h)) (by intro c h; cases h) (.int .i64 (k : Int)) W (by kernel_rfl) ⟨rfl, rfl⟩
          | 3, _, _, _, hdi, _, hdep =>
            obtain rfl := Option.some.inj hdi
            rw [updV_self (show x 1 = _ from hdep 1 (by decide) rfl (by decide) (by decide)), updV_self (show (updV x 1 _) 2 = _ from hdep 2 (by decide) rfl (by decide) (by decide))]
            exact OI_value rfl rfl (about_none (by intro c h; cases h)) (by intro c h; cases h) (.pointer (some ⟨lg, lo + k * 2, none⟩)) W (run_atK 48 49 _ _ lg lo len lc k rfl (by kernel_rfl) (by kernel_rfl) Try.underlying48 (by kernel_rfl) HLT.out W) ⟨rfl, rfl⟩
          | 4, _, _, _, hdi, _, hdep =>
            obtain rfl := Option.some.inj hdi
            rw [updV_self (show x 3 = _ from hdep 3 (by decide) rfl (by decide) (by decide))]
            exact OI_value rfl rfl (about_none (by intro c h; cases h)) (by intro c h; cases h) (.pointer (some ⟨lg, lo + k * 2, none⟩)) W (run_atB 49 5 2 _ _ lg (lo + k * 2) 0 rfl (by kernel_rfl) (by kernel_rfl) Try.underlying49 (by kernel_rfl) (by decide) W) ⟨rfl, rfl⟩
          | 5, _, _, _, hdi, hpre, hdep =>
            obtain rfl := Option.some.inj hdi
            rw [updV_self (show x 4 = _ from hdep 4 (by decide) rfl (by decide) (by decide))]
            exact OI_value rfl rfl (about_none (by intro c h; cases h)) (by intro c h; cases h) (.int .u8 (N : Int)) W (lgRun_cell 5 _ ⟨lg, lo + k * 2, none⟩ _ _ rfl (by kernel_rfl) Try.underlying5 rfl W (HC2.out W (hpre (by decide))).1) ⟨rfl, rfl⟩
          | 6, _, _, _, hdi, _, hdep =>
            obtain rfl := Option.some.inj hdi
            rw [updV_self (show x 5 = _ from hdep 5 (by decide) rfl (by decide) (by decide))]
            exact OI_value rfl rfl (about_none (by intro c h; cases h)) (by intro c h; cases h) (.int .i64 (N : Int)) W (run_conv8I _ _ _ N HN.out.1 rfl (by kernel_rfl) Try.underlying5 Try.underlying3 W) ⟨rfl, rfl⟩
          | 7, _, _, _, hdi, _, _ =>
            obtain rfl := Option.some.inj hdi
            exact OI_value rfl rfl (about_none (by intro c h; cases h)) (by intro c h; cases h) (.slice (some ⟨lg, lo, none⟩) len lc) W (by kernel_rfl) ⟨rfl, rfl⟩
          | 8, _, _, _, hdi, _, _ =>
            obtain rfl := Option.some.inj hdi
            exact OI_value rfl rfl (about_none (by intro c h; cases h)) (by intro c h; cases h) (.int .i64 (k : Int)) W (by kernel_rfl) ⟨rfl, rfl⟩
          | 9, _, _, _, hdi, _, hdep =>
            obtain rfl := Option.some.inj hdi
            rw [updV_self (show x 7 = _ from hdep 7 (by decide) rfl (by decide) (by decide)), updV_self (show (updV x 7 _) 8 = _ from hdep 8 (by decide) rfl (by decide) (by decide))]
            exact OI_value rfl rfl (about_none (by intro c h; cases h)) (by intro c h; cases h) (.pointer (some ⟨lg, lo + k * 2, none⟩)) W (run_atK 48 49 _ _ lg lo len lc k rfl (by kernel_rfl) (by kernel_rfl) Try.underlying48 (by kernel_rfl) HLT.out W) ⟨rfl, rfl⟩
          | 10, _, _, _, hdi, _, hdep =>
            obtain rfl := Option.some.inj hdi
            rw [updV_self (show x 9 = _ from hdep 9 (by decide) rfl (by decide) (by decide))]
            exact OI_value rfl rfl (about_none (by intro c h; cases h)) (by intro c h; cases h) (.pointer (some ⟨lg, lo + k * 2 + 1, none⟩)) W (run_atB 49 5 2 _ _ lg (lo + k * 2) 1 rfl (by kernel_rfl) (by kernel_rfl) Try.underlying49 (by kernel_rfl) (by decide) W) ⟨rfl, rfl⟩
          | 11, _, _, _, hdi, hpre, hdep =>
            obtain rfl := Option.some.inj hdi
            rw [updV_self (show x 10 = _ from hdep 10 (by decide) rfl (by decide) (by decide))]
            exact OI_value rfl rfl (about_none (by intro c h; cases h)) (by intro c h; cases h) (.int .u8 (M : Int)) W (lgRun_cell 5 _ ⟨lg, lo + k * 2 + 1, none⟩ _ _ rfl (by kernel_rfl) Try.underlying5 rfl W (HC2.out W (hpre (by decide))).2) ⟨rfl, rfl⟩
          | 12, _, _, _, hdi, _, hdep =>
            obtain rfl := Option.some.inj hdi
            rw [updV_self (show x 11 = _ from hdep 11 (by decide) rfl (by decide) (by decide))]
            exact OI_value rfl rfl (about_none (by intro c h; cases h)) (by intro c h; cases h) (.int .u64 (M : Int)) W (run_conv8U _ _ _ M HN.out.2 rfl (by kernel_rfl) Try.underlying5 Try.underlying28 W) ⟨rfl, rfl⟩
          | 13, _, _, ha, _, _, _ => exact absurd ha (by decide)
          | 14, _, _, ha, _, _, _ => exact absurd ha (by decide)
          | 15, _, _, ha, _, _, _ => exact absurd ha (by decide)
          | 16, _, _, ha, _, _, _ => exact absurd ha (by decide)
          | 17, n1, _, _, _, _, _ => exact absurd rfl n1
          | 18, _, n2, _, _, _, _ => exact absurd rfl n2
          | 19, _, _, ha, _, _, _ => exact absurd ha (by decide)
          | _ + 20, _, _, _, hdi, _, _ => simp at hdi
        case call =>
          intro x W d hdi hb hdep
          obtain rfl := Option.some.inj hdi
          rw [updV_self (show x 0 = _ from hdep 0 (by decide) rfl (by decide) (by decide)), updV_self (show (updV x 0 _) 6 = _ from hdep 6 (by decide) rfl (by decide) (by decide)), updV_self (show (updV (updV x 0 _) 6 _) 12 = _ from hdep 12 (by decide) rfl (by decide) (by decide))]
          refine OI_call rfl rfl (by intro c h; cases h) 9 #[.pointer (some ⟨g, 0, none⟩), .int .i64 (N : Int), .int .u64 (M : Int)] (fun _ _ => trivial) (by kernel_rfl) (by decide) ?_
          refine (callsIn_wide.2 (credit_take (HS.out.below hb) HCM.out N M HN.out.1 HN.out.2)).mono ?_
          rintro e w' ⟨v, o, rfl, h1, h2⟩
          exact ⟨v, rfl, v, o, rfl, h1, h2.1, h2.2⟩
        case aftS =>
          rintro x W i d v ha n1 hdi ⟨o, hC⟩ hdep
          obtain ⟨kd, st, of_, da, rfl, _⟩ := hC
          match i, ha, n1, hdi, hdep with
          | 0, ha, _, _, _ => exact absurd ha (by decide)
          | 1, ha, _, _, _ => exact absurd ha (by decide)
          | 2, ha, _, _, _ => exact absurd ha (by decide)
          | 3, ha, _, _, _ => exact absurd ha (by decide)
          | 4, ha, _, _, _ => exact absurd ha (by decide)
          | 5, ha, _, _, _ => exact absurd ha (by decide)
          | 6, ha, _, _, _ => exact absurd ha (by decide)
          | 7, ha, _, _, _ => exact absurd ha (by decide)
          | 8, ha, _, _, _ => exact absurd ha (by decide)
          | 9, ha, _, _, _ => exact absurd ha (by decide)
          | 10, ha, _, _, _ => exact absurd ha (by decide)
          | 11, ha, _, _, _ => exact absurd ha (by decide)
          | 12, ha, _, _, _ => exact absurd ha (by decide)
          | 13, _, n1, _, _ => exact absurd rfl n1
          | 14, _, _, hdi, hdep =>
            obtain rfl := Option.some.inj hdi
            rw [updV_self (show x 13 = _ from hdep 13 (by decide) rfl)]
            exact OI_value rfl rfl (about_none (by intro c h; cases h)) (by intro c h; cases h) _ W (by kernel_rfl) ⟨rfl, rfl⟩
          | 15, _, _, hdi, hdep =>
            obtain rfl := Option.some.inj hdi
            rw [updV_self (show x 14 = _ from hdep 14 (by decide) rfl)]
            exact OI_value rfl rfl (about_none (by intro c h; cases h)) (by intro c h; cases h) _ W (by kernel_rfl) ⟨rfl, rfl⟩
          | 16, _, _, hdi, hdep =>
            obtain rfl := Option.some.inj hdi
            rw [updV_self (show x 14 = _ from hdep 14 (by decide) rfl)]
            exact OI_value rfl rfl (about_none (by intro c h; cases h)) (by intro c h; cases h) _ W (by kernel_rfl) ⟨rfl, rfl⟩
          | 17, ha, _, _, _ => exact absurd ha (by decide)
          | 18, ha, _, _, _ => exact absurd ha (by decide)
          | 19, _, _, hdi, hdep =>
            obtain rfl := Option.some.inj hdi
            rw [updV_self (show x 16 = _ from hdep 16 (by decide) rfl)]
            exact OI_value rfl rfl (about_none (by intro c h; cases h)) (by intro c h; cases h) _ W (by kernel_rfl) ⟨rfl, rfl⟩
          | _ + 20, _, _, hdi, _ => simp at hdi
        case all =>
          intro x W d hdi
          obtain rfl := Option.some.inj hdi
          exact OI_value rfl rfl (about_none (by intro c h; cases h)) (by intro c h; cases h) (ptrC W.heap.size) _ (run_allocN 37 _ rfl (by kernel_rfl) W) ⟨rfl, rfl⟩
        case sto =>
          rintro x W d p v hdi h17 hrow ⟨o, hC⟩ hdep
          obtain ⟨kd, st, of_, da, rfl, _⟩ := hC
          obtain rfl := Option.some.inj hdi
          rw [updV_self (show x 17 = _ from h17), updV_self (show (updV x 17 _) 15 = _ from hdep 15 (by decide) rfl)]
          exact OI_skip rfl rfl (about_none (by intro c h; cases h)) (by intro c h; cases h) _ (run_store_row 37 _ _ rfl p (crCells kd st of_ da (more s (N : Int) M)) (by kernel_rfl) (by kernel_rfl) 37 _ hrow 8 (by kernel_rfl) rfl rfl (by simp [crCells, Value.oneCell'])) ⟨⟨undef, (lgPut_none _ _).trans (put_far _ _ _ (by rw [puts_size]; exact Nat.le_of_ble_eq_true rfl)).symm⟩, rfl⟩
        case row =>
          rintro W p v o hC hrow
          exact ⟨hrow.put _, KeepP.setRow (st := fun k => k = p) rfl W _⟩
        case done =>
          rintro x W v o p hC hV hU hp hpz hop hrow
          obtain ⟨kd, st, of_, da, rfl, hS2, hB2, hO2⟩ := hC
          have u19 : x 19 = .bool (decide (0 < more s (N : Int) M)) := hU 19 (by decide) rfl
          have h17 : x 17 = .pointer (some ⟨p, 0, none⟩) := hp
          simp only [putsV, Act.put, List.setIfInBounds_toArray, List.set_cons_succ, List.set_cons_zero, List.set_nil, Nat.reduceAdd, h17, u19]
          generalize x 0 = z0, x 1 = z1, x 2 = z2, x 3 = z3, x 4 = z4, x 5 = z5, x 6 = z6, x 7 = z7, x 8 = z8, x 9 = z9, x 10 = z10, x 11 = z11, x 12 = z12, x 13 = z13, x 14 = z14, x 15 = z15, x 16 = z16, x 18 = z18
          have HX := veil (show SnA w W g (Sd.take s (N : Int) M) o from ⟨hS2, hB2, hO2⟩)
          have HROW := veil (show Row W p 37 (crCells kd st of_ da (more s (N : Int) M)) from hrow)
          have hop := veil hop
          clear hV hU hp hpz hrow h17 u19 hS2 hB2 hO2 HC2 HS
          have hct := HCM.out.take (n := (N : Int)) (by omega) M
          obtain ⟨m, hm⟩ : ∃ m, more s (N : Int) M = m := ⟨_, rfl⟩
          obtain ⟨s2, hs2⟩ : ∃ s2, Sd.take s (N : Int) M = s2 := ⟨_, rfl⟩
          rw [hm, hs2] at hct
          rw [hs2] at HX
          rw [hm] at HROW ⊢
          rw [HFE.out] at hct
          obtain ⟨hc2, hg2, hm1, hm2, hm3⟩ := hct
          obtain ⟨G, hG⟩ : ∃ G, s2.fresh = G := ⟨_, rfl⟩
          rw [hG] at hg2
          have hfr : Calls Try.prog 16 #[.pointer (some ⟨g, 0, none⟩)] W fun e w' => e = .returned (.int .u64 (G : Int)) ∧ Below W.heap.size W w' := by
            obtain ⟨_, _, _, _, _, h1, _⟩ := HX.out.sn
            have h9 := fresh_any h1
            rw [hG] at h9
            exact h9
          have HF2 := veil hfr
          have HCA2 := veil hc2
          have hbl := HBS.out.hb
          simp only at hbl
          have q1 := HCB.out
          have q2 := HL.out
          have q3 := HN.out
          have e0 : decide ((G : Int) < (f : Int)) = false := by simp; omega
          have e0n : decide (G < f) = false := by simp; omega
          have e1 : IntKind.u64.wrap ((G : Int) - (f : Int)) = (m : Int) := by rw [IntKind.wrap_u64]; omega
          have e2 : decide ((M : Int) < (m : Int)) = false := by simp; omega
          have e2n : decide (M < m) = false := by simp; omega
          have wM : IntKind.u64.wrap (M : Int) = (M : Int) := by rw [IntKind.wrap_u64]; omega
          have e3 : decide ((c : Int) < (G : Int)) = false := by simp; omega
          have e3n : decide (c < G) = false := by simp; omega
          have e4 : decide ((bl : Int) < (G : Int)) = false := by simp; omega
          have e4n : decide (bl < G) = false := by simp; omega
          have wm : IntKind.u64.wrap (m : Int) = (m : Int) := by rw [IntKind.wrap_u64]; omega
          have HM := veil (show G = f + m from hg2)
          clear hm hs2 hc2 hg2 hm1 hm2 hm3 hG hfr hbl q1 q2 q3
          go_wp2_with fail
          refine HF2.out.mono ?_
          rintro e5 w5 ⟨rfl, hb5⟩
          have HX5 := veil (HX.out.below hb5)
          have x5 : w5.cell? ⟨p, 5, none⟩ = some (.bool false) := (HROW.out.below hb5 HROW.out.lt).cell 5
          have x6 : w5.cell? ⟨p, 6, none⟩ = some (.slice da m m) := (HROW.out.below hb5 HROW.out.lt).cell 6
          have x7 : w5.cell? ⟨lg, lo + k * 2 + 1, none⟩ = some (.int .u8 (M : Int)) := (HCL.out w5 HX5.out.bel).2
          clear hb5 HROW HX HF2 hop
          have hk5 : k < 500 := by have := HL.out; have := HLT.out; omega
          by_cases hm0 : 0 < m
          · have D1 : decide (0 < m) = true := decide_eq_true hm0
            have D2 : decide ((f : Int) < (G : Int)) = true := by have := HM.out; simp; omega
            have D3 : decide (f < G) = true := by have := HM.out; simp; omega
            rw [D1]
            clear D1 hm0
            go_wp2_with fail
            go_roundw
            case rel => exact ⟨k + 1, s2, o, HLT.out, by go_num, HX5.out, HCA2.out⟩
            case measure => have := HLT.out; simp [intOf]; omega
          · have D1 : decide (0 < m) = false := decide_eq_false hm0
            have D2 : decide ((f : Int) < (G : Int)) = false := by have := HM.out; simp; omega
            have D3 : decide (f < G) = false := by have := HM.out; simp; omega
            rw [D1]
            clear D1 hm0
            go_wp2_with fail
            go_roundw
            case rel => exact ⟨k + 1, s2, o, HLT.out, by go_num, HX5.out, HCA2.out⟩
            case measure => have := HLT.out; simp [intOf]; omega
      · obtain rfl : k = len := by omega
        have HS := veil hs
        clear hs hcalm hk hlt
        go_wp2_with fail
        refine (lives_any wr).mono ?_
        rintro e2 w2 ⟨rfl, hb2⟩
        have HB2 := veil (HS.out.bel.trans (hb2.mono HS.out.bel.size))
        clear hb2
        go_wp2
        go_ret
        exact ⟨rfl, HB2.out⟩
end Sr
end Go.Proofs.Ytnlckmopgkabpaa
