/-
  frame's reader: stream (written by mkgets.py).
-/
import Derived.Test.YtimhbjlmpojhoaaGreatDoorGg3
namespace Go.Proofs.YtimhbjlmpojhoaaGreatDoor
open Go Go.RowKit

theorem value_wpIn {F : Fence} {n : Nat} {P : Program} {a : Act} {o : Oper} {ops : Array Oper} {rest : List Oper} {w : World} {Q : Exit → Act → World → Prop} (hgd : o.guard = none) (hab : o.about P w a.eval = none) (hd : ∀ c, o.op ≠ .defer c) (v : Value) (he : (execOp a.eval o).run P w = .ok (.value v) w) (h : wpListIn F n P ops Q rest (a.put o.dst v) w) : wpListIn F n P ops Q (o :: rest) a w :=
  wpListIn_plain hgd fun _ hK => ⟨(fun f hf => by rw [hab] at hf; cases hf), by rw [Oper.semAt_eq _ _ _ hd, he]; exact hK _ _ h⟩
theorem rest_eq (off : Nat) (b : List By) : dataAtR off b.length b = Fr.restR off b := by
  unfold dataAtR Fr.restR Fr.dataR
  split
  · rfl
  · rw [if_neg (by omega), List.take_of_length_le (Nat.le_refl _), List.drop_of_length_le (Nat.le_refl _)]
theorem run_lenF {P : Program} {a : Act} {o : Oper} (x : Operand) (t : TypeId) (ad : Option Addr) (len cap : Nat) (ho : o.op = .call { callee := .builtin .len, args := #[x], argTypes := #[t] }) (hx : a.eval x = .slice ad len cap) (W : World) (ht : P.underlying t = some (.slice 5)) : (execOp a.eval o).run P W = .ok (.value (.int .i64 (len : Int))) W := by
  unfold execOp
  simp only [ho, resolve, invoke, builtin, List.map_toArray, List.map_cons, List.map_nil, hx]
  go_simp
theorem run_convU {P : Program} {a : Act} {o : Oper} (t t' : TypeId) (x : Operand) (m : Nat) (hw : IntKind.u64.wrap (m : Int) = (m : Int)) (ho : o.op = .convert t t' x) (hx : a.eval x = .int .i64 (m : Int)) (h1 : P.underlying t = some (.int .i64)) (h2 : P.underlying t' = some (.int .u64)) (W : World) : (execOp a.eval o).run P W = .ok (.value (.int .u64 (m : Int))) W := by
  unfold execOp
  simp only [ho, hx]
  go_simp
theorem run_storeS {P : Program} {a : Act} {o : Oper} (ty : TypeId) (x y : Operand) (p : Addr) (ad : Option Addr) (l c : Nat) (old : Value) (ho : o.op = .store ty x y) (hx : a.eval x = .pointer (some p)) (hy : a.eval y = .slice ad l c) (hi : (P.info? ty).map (·.size) = some 1) (w : World) (hc : w.cell? p = some old) (hz : w.frozen? p = false) : (execOp a.eval o).run P w = .ok .skip (w.setCell p (.slice ad l c)) := by
  have hsz : (sizeOf ty).run P w = .ok 1 w := by
    cases hq : P.info? ty with
    | none => simp [hq] at hi
    | some i =>
      have : i.size = 1 := by simpa [hq] using hi
      simp [sizeOf, typeInfo, hq, this]
  unfold execOp
  simp only [ho, hx, hy, Instr.storeAt, Instr.sureAddr, storeVar, Sem.run_bind, Sem.run_pure, Result.andThen_ok, hsz]
  simp [Value.cells, storeCells, Addr.add_zero', run_store P w p (.slice ad l c) _ rfl, hc, hz]
def depST : Nat → List Nat
  | 2 => [1]
  | 4 => [3]
  | 5 => [4]
  | 6 => [5]
  | 7 => [6]
  | 8 => [7]
  | 9 => [0, 2, 8]
  | 11 => [9, 10]
  | _ => []
def dclST : Nat → List Nat
  | 7 => [6]
  | 8 => [6]
  | 9 => [0, 2, 8, 6]
  | _ => []
def valST (g q of : Nat) (s : SL) : Nat → Value
  | 0 => .pointer (some ⟨g, 0, none⟩)
  | 1 => .pointer (some ⟨q, 2, none⟩)
  | 2 => .int .u64 (of : Int)
  | 3 => .pointer (some ⟨g, 0, none⟩)
  | 4 => .pointer (some ⟨g, 0, none⟩)
  | 5 => .pointer (some ⟨g, 0, none⟩)
  | 6 => .slice s.a s.len s.cap
  | 7 => .int .i64 (s.len : Int)
  | 8 => .int .u64 (s.len : Int)
  | 10 => .pointer (some ⟨q, 6, none⟩)
  | _ => undef

set_option maxRecDepth 20000 in
set_option maxHeartbeats 4000000 in
theorem rd_stream_00 (g : Nat) (s : SL) (tb : Nat) (w : World) (h : Rd w g s tb) (ht : tb < 32) (hO : decide (tb / 4 % 2 = 1) = false) (hS : decide (tb / 2 % 2 = 1) = false) :
    Calls Tryz.prog 142 #[.pointer (some ⟨g, 0, none⟩)] w (RdPost w g s tb (Fr.streamR tb) (frV w.heap.size)) := by
  have hgw := h.row.lt
  have hLl := h.lens.lt
  have H := veil h
  have b0 := veil ((Below.refl _ w).alloc (Nat.le_refl _) (.cells zF 37))
  have R0 := veil (Row.new w 37 zF)
  have hO' : (tb / 4 % 2 = 1) = False := by simpa using hO
  have hS' : (tb / 2 % 2 = 1) = False := by simpa using hS
  have E0 := veil (show Fr.streamR tb s.b = Fr.thenR Fr.numR (fun st => Fr.thenR (Fr.okR 0) fun off => Fr.thenR (Fr.restR off) fun d => Fr.okR { Fr.f0 with kind := 7, stream := st, offset := off, fin := decide (tb % 2 = 1), data := d }) s.b by unfold Fr.streamR; simp only [hO', hS', if_false])
  have A1 := veil (show (bits .and .u64 (tb : Int) ((1 : Nat) : Int) != 0) = decide (tb % 2 = 1) from and_1 ⟨tb, ht⟩)
  have A2 := veil (show (bits .and .u64 (tb : Int) ((2 : Nat) : Int) != 0) = false from (and_2 ⟨tb, ht⟩).trans hS)
  have A4 := veil (show (bits .and .u64 (tb : Int) ((4 : Nat) : Int) != 0) = false from (and_4 ⟨tb, ht⟩).trans hO)
  clear h hO hS hO' hS'
  refine (callsIn_wide (n := 4)).1 ?_
  refine callsIn_of_wp Tryz.func142 rfl trivial ?_ rfl
  simp only [Tryz.ntmps142, List.size_toArray, List.length_cons, List.length_nil, Nat.reduceAdd, Nat.reduceSub, Array.replicate_succ, Array.replicate_zero, List.push_toArray, List.append_toArray, List.nil_append, List.cons_append]
  gi_wp2_with fail
  refine ⟨trivial, (callsIn_wide.2 (rd_num g s tb (w.alloc (.cells zF 37)) (H.out.below b0.out))).mono ?_⟩
  rintro x1 w1 (⟨e, he, rfl, hg⟩ | ⟨n1, r1, v1, s1, he1, rfl, ⟨rfl, hv1⟩, hR1, hb1, hsg1, hsl1, hg1⟩)
  · exact ⟨rfl, .inl ⟨e, ch_err E0.out rfl he, rfl, grown_trans (grown_alloc (.cells zF 37) (some g)) hg⟩⟩
  have E1 := veil (ch_ok E0.out rfl he1)
  have G1 := veil (grown_trans (grown_alloc (.cells zF 37) (some g)) hg1)
  have Q1 := veil (Row.grown R0.out hg1 (show w.heap.size ≠ g by omega))
  have B1 := veil hb1
  have D1 := veil hR1
  have M1 := veil (show s1.g = s.g ∧ s1.len ≤ s.len from ⟨hsg1, hsl1⟩)
  have V1 := veil hv1
  have hq1 : w.heap.size + 1 ≤ w1.heap.size := by have := hg1.size; simp at this; exact this
  clear he1 hg1 hb1 hR1 hsg1 hsl1 hv1
  gi_wp2_with fail
  refine ⟨trivial, (callsIn_wide.2 (rd_has g s1 tb 1 w1 D1.out)).mono ?_⟩
  rintro x9 w9 ⟨rfl, hw9⟩
  obtain rfl := hw9.symm
  rw [A1.out]
  clear A1
  gi_wp2_with fail
  refine ⟨trivial, (callsIn_wide.2 (rd_has g s1 tb 4 (w1.alloc (.cells #[.int .u8 7, .int .u64 (n1 : Int), .int .u64 (0 : Int), .int .u64 0, .int .u64 0, .bool (decide (tb % 2 = 1)), .slice none 0 0, .slice none 0 0] 37)) (D1.out.below ((Below.refl _ w1).alloc (Nat.le_refl _) _)))).mono ?_⟩
  rintro x8 w8 ⟨rfl, hw8⟩
  obtain rfl := hw8.symm
  rw [A4.out]
  clear A4
  have EX := veil (show Fr.streamR tb s.b = Fr.thenR (Fr.restR 0) (fun d => Fr.okR { Fr.f0 with kind := 7, stream := n1, offset := 0, fin := decide (tb % 2 = 1), data := d }) r1 from E1.out)
  have RQX := veil (Row.new w1 37 #[.int .u8 7, .int .u64 (n1 : Int), .int .u64 (0 : Int), .int .u64 0, .int .u64 0, .bool (decide (tb % 2 = 1)), .slice none 0 0, .slice none 0 0])
  have RHX := veil (Q1.out.alloc (.cells #[.int .u8 7, .int .u64 (n1 : Int), .int .u64 (0 : Int), .int .u64 0, .int .u64 0, .bool (decide (tb % 2 = 1)), .slice none 0 0, .slice none 0 0] 37))
  have GX := veil (grown_trans G1.out (grown_alloc (.cells #[.int .u8 7, .int .u64 (n1 : Int), .int .u64 (0 : Int), .int .u64 0, .int .u64 0, .bool (decide (tb % 2 = 1)), .slice none 0 0, .slice none 0 0] 37) (some g)))
  have DX := veil (D1.out.below ((Below.refl _ w1).alloc (Nat.le_refl _) (.cells #[.int .u8 7, .int .u64 (n1 : Int), .int .u64 (0 : Int), .int .u64 0, .int .u64 0, .bool (decide (tb % 2 = 1)), .slice none 0 0, .slice none 0 0] 37)))
  have BX := B1
  have MX := M1
  have VX := veil (show 0 ≤ 4611686018427387903 from Nat.zero_le _)
  have hqX : w1.heap.size + 1 ≤ (w1.alloc (.cells #[.int .u8 7, .int .u64 (n1 : Int), .int .u64 (0 : Int), .int .u64 0, .int .u64 0, .bool (decide (tb % 2 = 1)), .slice none 0 0, .slice none 0 0] 37)).heap.size := by simp
  gi_wp2_with fail
  generalize (w1.alloc (.cells #[.int .u8 7, .int .u64 (n1 : Int), .int .u64 (0 : Int), .int .u64 0, .int .u64 0, .bool (decide (tb % 2 = 1)), .slice none 0 0, .slice none 0 0] 37)) = X at *
  refine ⟨trivial, (callsIn_wide.2 (rd_has g s1 tb 2 X DX.out)).mono ?_⟩
  rintro x7 w7 ⟨rfl, hw7⟩
  obtain rfl := hw7.symm
  rw [A2.out]
  clear A2
  have cX2 : X.cell? ⟨w1.heap.size, 2, none⟩ = some (.int .u64 (0 : Int)) := RQX.out.cell 2
  have hwl : IntKind.u64.wrap (s1.len : Int) = (s1.len : Int) := by have := DX.out.len; rw [IntKind.wrap_u64]; omega
  have hlX : s1.len ≤ 4611686018427387903 := by have := DX.out.len; omega
  have hbX := DX.out.ok.hb
  gi_wp2_with fail
  refine wpIn_region_any (by kernel_rfl) ?_
  refine anyIn_spine (valST g w1.heap.size 0 s1) (fun k W u => match k with
      | 0 => Below X.heap.size X W
      | 1 => ∃ d3 r3, ∃ s3 : SL, (dataAtR 0 s1.len s1.b = .ok (d3, r3) ∧ RowK X.heap.size d3 W u ∧ Rd W g s3 tb ∧ s3.b = r3 ∧ s3.g = s1.g ∧ s3.len ≤ s1.len ∧ X.grownBy W (some g))
      | _ => ∃ (w3 : World) (d3 r3 : List By) (v3 : Value), ∃ s3 : SL, (dataAtR 0 s1.len s1.b = .ok (d3, r3) ∧ RowK X.heap.size d3 w3 v3 ∧ Rd w3 g s3 tb ∧ s3.b = r3 ∧ s3.g = s1.g ∧ s3.len ≤ s1.len ∧ X.grownBy w3 (some g)) ∧ W = w3.setCell ⟨w1.heap.size, 6, none⟩ v3) undef [9, 11] [21, 22, 23, 24, 25, 26, 27, 28, 29, 30, 31, 100000] depST dclST (by kernel_rfl) (by decide) rfl (by decide) (by decide) ?hord (by decide) ((Below.refl _ _).drew) ?hfix ?hcal ?hdone
  case hord =>
    intro k i j hk hk1
    match k, hk, hk1 with
    | 0, hk, hk1 =>
      obtain rfl := Option.some.inj hk
      obtain rfl := Option.some.inj hk1
      decide
    | 1, _, hk1 => simp at hk1
    | _ + 2, hk, _ => simp at hk
  case hfix =>
    intro x W m ii d u hR hdi hni hdep hlo hhi
    have cW : W.cell? ⟨w1.heap.size, 2, none⟩ = some (.int .u64 (0 : Int)) ∨ ¬ (ii = 2) := by
      by_cases h2 : ii = 2
      · left
        subst h2
        have hm : m ≤ 0 := hhi 0 9 rfl (by decide)
        obtain rfl : m = 0 := by omega
        exact (hR : Below X.heap.size X W).cell (p := ⟨w1.heap.size, 2, none⟩) (by have := RQX.out.lt; exact this) |>.trans cX2
      · exact .inr h2
    have cG : ii = 6 → W.cell? ⟨g, 0, none⟩ = some (.slice s1.a s1.len s1.cap) := by
      intro h6
      subst h6
      have hm : m ≤ 0 := by
        exact hhi 0 9 rfl (by decide)
      obtain rfl : m = 0 := by omega
      exact ((hR : Below X.heap.size X W).cell (p := ⟨g, 0, none⟩) DX.out.row.lt).trans (DX.out.row.cell 0)
    match ii, hdi, hdep with
    | 0, hdi, hdep =>
      obtain rfl := Option.some.inj hdi
      exact OI_value rfl rfl (about_none (by intro c h; cases h)) (by intro c h; cases h) (.pointer (some ⟨g, 0, none⟩)) W (by kernel_rfl) ⟨rfl, rfl⟩
    | 1, hdi, hdep =>
      obtain rfl := Option.some.inj hdi
      exact OI_value rfl rfl (about_none (by intro c h; cases h)) (by intro c h; cases h) (.pointer (some ⟨w1.heap.size, 2, none⟩)) W (by kernel_rfl) ⟨rfl, rfl⟩
    | 2, hdi, hdep =>
      obtain rfl := Option.some.inj hdi
      rw [updV_self (show x 1 = _ from hdep 1 (by simp [depST]) (by decide))]
      exact OI_value rfl rfl (about_none (by intro c h; cases h)) (by intro c h; cases h) (.int .u64 (0 : Int)) W (run_cellF 34 _ ⟨w1.heap.size, 2, none⟩ _ _ rfl (by kernel_rfl) Tryz.underlying34 rfl W (cW.resolve_right (fun h => h rfl))) ⟨rfl, rfl⟩
    | 3, hdi, hdep =>
      obtain rfl := Option.some.inj hdi
      exact OI_value rfl rfl (about_none (by intro c h; cases h)) (by intro c h; cases h) (.pointer (some ⟨g, 0, none⟩)) W (by kernel_rfl) ⟨rfl, rfl⟩
    | 4, hdi, hdep =>
      obtain rfl := Option.some.inj hdi
      rw [updV_self (show x 3 = _ from hdep 3 (by simp [depST]) (by decide))]
      exact OI_value rfl rfl (about_none (by intro c h; cases h)) (by intro c h; cases h) (.pointer (some ⟨g, 0, none⟩)) W (by kernel_rfl) ⟨rfl, rfl⟩
    | 5, hdi, hdep =>
      obtain rfl := Option.some.inj hdi
      rw [updV_self (show x 4 = _ from hdep 4 (by simp [depST]) (by decide))]
      exact OI_value rfl rfl (about_none (by intro c h; cases h)) (by intro c h; cases h) (.pointer (some ⟨g, 0, none⟩)) W (by kernel_rfl) ⟨rfl, rfl⟩
    | 6, hdi, hdep =>
      obtain rfl := Option.some.inj hdi
      rw [updV_self (show x 5 = _ from hdep 5 (by simp [depST]) (by decide))]
      exact OI_value rfl rfl (about_none (by intro c h; cases h)) (by intro c h; cases h) (.slice s1.a s1.len s1.cap) W (run_cellF 26 _ ⟨g, 0, none⟩ _ _ rfl (by kernel_rfl) Tryz.underlying26 rfl W (cG rfl)) ⟨rfl, rfl⟩
    | 7, hdi, hdep =>
      obtain rfl := Option.some.inj hdi
      rw [updV_self (show x 6 = _ from hdep 6 (by simp [depST]) (by decide))]
      exact OI_value rfl rfl (about_builtin _ _ _ rfl) (by intro c h; cases h) (.int .i64 (s1.len : Int)) W (run_lenF _ 26 s1.a s1.len s1.cap rfl (by kernel_rfl) W Tryz.underlying26) ⟨rfl, rfl⟩
    | 8, hdi, hdep =>
      obtain rfl := Option.some.inj hdi
      rw [updV_self (show x 7 = _ from hdep 7 (by simp [depST]) (by decide))]
      exact OI_value rfl rfl (about_none (by intro c h; cases h)) (by intro c h; cases h) (.int .u64 (s1.len : Int)) W (run_convU _ _ _ s1.len hwl rfl (by kernel_rfl) Tryz.underlying3 Tryz.underlying34 W) ⟨rfl, rfl⟩
    | 9, _, _ => exact absurd (by decide) hni
    | 10, hdi, hdep =>
      obtain rfl := Option.some.inj hdi
      exact OI_value rfl rfl (about_none (by intro c h; cases h)) (by intro c h; cases h) (.pointer (some ⟨w1.heap.size, 6, none⟩)) W (by kernel_rfl) ⟨rfl, rfl⟩
    | 11, _, _ => exact absurd (by decide) hni
    | _ + 12, hdi, _ => simp at hdi
  case hcal =>
    intro x W k ii d u hR hk hdi hdep hu0 hup
    match k, hk, hR, hu0, hup with
    | 0, hk, hR, _, _ =>
      obtain rfl := Option.some.inj hk
      obtain rfl := Option.some.inj hdi
      rw [updV_self (show x 0 = _ from hdep 0 (by simp [depST]) (by decide)), updV_self (show updV x 0 _ 2 = _ from hdep 2 (by simp [depST]) (by decide)), updV_self (show updV (updV x 0 _) 2 _ 8 = _ from hdep 8 (by simp [depST]) (by decide))]
      refine OI_callP rfl rfl (by intro c h; cases h) 154 #[.pointer (some ⟨g, 0, none⟩), .int .u64 (0 : Int), .int .u64 (s1.len : Int)] (fun _ _ => trivial) (by kernel_rfl) (by decide) ?_
      have bW : Below X.heap.size X W := hR
      refine (callsIn_wide.2 (rd_dataAt g s1 tb 0 s1.len W (DX.out.below bW) VX.out hlX)).mono ?_
      rintro xx ww (⟨e, he, rfl, hg⟩ | ⟨d3, r3, v3, s3, he3, rfl, hV3, hR3, hb3, hsg3, hsl3, hg3⟩)
      · right
        refine ⟨_, rfl, rfl, .inl ⟨e, ch_err EX.out BX.out ((rest_eq 0 s1.b).symm.trans (by rw [hbX]; exact he)), rfl, grown_trans GX.out (grown_trans (grown_below bW) hg)⟩⟩
      · left
        exact ⟨v3, rfl, v3, rfl, d3, r3, s3, he3, own_low hV3 bW.size, hR3, hb3, hsg3, hsl3, grown_trans (grown_below bW) hg3⟩
    | 1, hk, hR, _, hup =>
      obtain rfl := Option.some.inj hk
      obtain rfl := Option.some.inj hdi
      obtain ⟨d3, r3, s3, hh⟩ := hR
      have hx9 : x 9 = u := hup 0 9 rfl rfl
      obtain ⟨aV, cV, rfl⟩ := own_shapeF hh.2.1
      rw [updV_self hx9, updV_self (show updV x 9 _ 10 = _ from hdep 10 (by simp [depST]) (by decide))]
      have rq : Row W w1.heap.size 37 _ := Row.grown RQX.out hh.2.2.2.2.2.2 (show w1.heap.size ≠ g by omega)
      refine OI_skip rfl rfl (about_none (by intro c h; cases h)) (by intro c h; cases h) (W.setCell ⟨w1.heap.size, 6, none⟩ (.slice aV d3.length cV)) ?_ ?_
      · exact run_storeS 26 _ _ ⟨w1.heap.size, 6, none⟩ aV d3.length cV _ rfl (by kernel_rfl) (by kernel_rfl) (by kernel_rfl) W (rq.cell 6) (rq.frozen 6)
      · refine ⟨undef, ?_, W, d3, r3, _, s3, hh, rfl⟩
        exact (put_none _ _).trans (put_far _ _ _ (by rw [puts_size]; exact Nat.le_of_ble_eq_true rfl)).symm
    | _ + 2, hk, _, _, _ => simp at hk
  case hdone =>
    intro x W u hR hx hup
    obtain ⟨w3, d3, r3, v3, s3, ⟨he3, hV3, hR3, hb3, hsg3, hsl3, hg3⟩, rfl⟩ := hR
    have z0 := hx 0 (by decide) (by decide)
    have z1 := hx 1 (by decide) (by decide)
    have z2 := hx 2 (by decide) (by decide)
    have z3 := hx 3 (by decide) (by decide)
    have z4 := hx 4 (by decide) (by decide)
    have z5 := hx 5 (by decide) (by decide)
    have z6 := hx 6 (by decide) (by decide)
    have z7 := hx 7 (by decide) (by decide)
    have z8 := hx 8 (by decide) (by decide)
    have z10 := hx 10 (by decide) (by decide)
    generalize x 9 = x9
    simp only [putsV, z0, z1, z2, z3, z4, z5, z6, z7, z8, z10, valST, Act.put, List.setIfInBounds_toArray, List.set_cons_succ, List.set_cons_zero, Nat.reduceAdd]
    clear z0 z1 z2 z3 z4 z5 z6 z7 z8 z10 hx hup
    replace he3 : Fr.restR 0 s1.b = .ok (d3, r3) := (rest_eq 0 s1.b).symm.trans (by rw [hbX]; exact he3)
    obtain ⟨aV, cV, rfl⟩ := own_shapeF hV3
    have E3 := veil (ch_ok EX.out BX.out he3)
    have RQ := veil (Row.grown RQX.out hg3 (show w1.heap.size ≠ g by omega))
    have RH := veil (Row.grown RHX.out hg3 (show w.heap.size ≠ g by omega))
    have G3 := veil (grown_trans GX.out hg3)
    have B3 := veil hb3
    have D3 := veil hR3
    have M3 := veil (show s3.g = s.g ∧ s3.len ≤ s.len from ⟨hsg3.trans MX.out.1, Nat.le_trans hsl3 MX.out.2⟩)
    have W3 := veil (show w3.ownsRow (w1.heap.size + 1) 5 1 (.slice aV d3.length cV) d3.length (vb d3) from own_low hV3 hqX)
    have cq6 : w3.cell? ⟨w1.heap.size, 6, none⟩ = some (.slice none 0 0) := RQ.out.cell 6
    have zq6 := RQ.out.frozen 6
    have RQ2 := veil (show Row (w3.setCell ⟨w1.heap.size, 6, none⟩ (.slice aV d3.length cV)) w1.heap.size 37 #[.int .u8 7, .int .u64 (n1 : Int), .int .u64 (0 : Int), .int .u64 0, .int .u64 0, .bool (decide (tb % 2 = 1)), .slice aV d3.length cV, .slice none 0 0] from RQ.out.set 6 _)
    have RH2 := veil (RH.out.other (a := ⟨w1.heap.size, 6, none⟩) (show w.heap.size ≠ w1.heap.size by omega) (.slice aV d3.length cV))
    clear he3 hV3 hR3 hb3 hsg3 hsl3 hg3
    gi_wp2_with (first
      | (with_reducible (show wpListIn _ _ _ _ _ (⟨_, Op.load 37 _, _, _, _, _⟩ :: _) _ _)
         refine value_wpIn rfl (about_none (by intro c h; cases h)) (by intro c h; cases h) _ (run_midF 37 _ w1.heap.size 0 #[.int .u8 7, .int .u64 (n1 : Int), .int .u64 (0 : Int), .int .u64 0, .int .u64 0, .bool (decide (tb % 2 = 1)), .slice aV d3.length cV, .slice none 0 0] _ rfl rfl Tryz.underlying37 rfl (by kernel_rfl) _ (range_row RQ2.out)) ?_)
      | (with_reducible (show wpListIn _ _ _ _ _ (⟨_, Op.store 37 _ _, _, _, _, _⟩ :: _) _ _)
         refine store_rowIn rfl 37 _ _ rfl w.heap.size #[.int .u8 7, .int .u64 (n1 : Int), .int .u64 (0 : Int), .int .u64 0, .int .u64 0, .bool (decide (tb % 2 = 1)), .slice aV d3.length cV, .slice none 0 0] rfl rfl _ _ RH2.out 8 (by kernel_rfl) rfl rfl (by kernel_rfl) ?_))
    refine bodyPost_ret (results_cell_row rfl _ _ w.heap.size _ #[.int .u8 7, .int .u64 (n1 : Int), .int .u64 (0 : Int), .int .u64 0, .int .u64 0, .bool (decide (tb % 2 = 1)), .slice aV d3.length cV, .slice none 0 0] (0, 0) _ rfl (RH2.out.put _) Tryz.underlying37 rfl (by kernel_rfl)) rfl ?_
    have OWN : World.ownsRow ((w3.setCell ⟨w1.heap.size, 6, none⟩ (.slice aV d3.length cV)).setRow w.heap.size #[.int .u8 7, .int .u64 (n1 : Int), .int .u64 (0 : Int), .int .u64 0, .int .u64 0, .bool (decide (tb % 2 = 1)), .slice aV d3.length cV, .slice none 0 0]) (w1.heap.size + 1) 5 1 (.slice aV d3.length cV) d3.length (vb d3) := own_setr (own_setc W3.out (by omega)) (by omega) _
    obtain ⟨sD, q1, q2, q3, q4, q5⟩ := SL.of_ownF OWN
    refine .inr ⟨_, _, _, s3, E3.out, rfl, ⟨⟨7, n1, 0, 0, 0, decide (tb % 2 = 1), sD, noRg⟩, by unfold FrM.cells; rw [q1, q2, q3]; rfl, new_data _ _ _ _ _ _ _ _ sD ?_ q5 (by decide) V1.out VX.out (Nat.zero_le _) (Nat.zero_le _), by show Fr.Frame.mk _ _ _ _ _ _ sD.b _ = _; rw [q4]; rfl⟩, (D3.out.setc (by omega) (fun p => by have := H.out.ok.lt (Nat.lt_of_lt_of_le p M3.out.2); rw [M3.out.1]; omega) (by omega) _).put (by omega) (fun p => by have := H.out.ok.lt (Nat.lt_of_lt_of_le p M3.out.2); rw [M3.out.1]; omega) (by omega) _, B3.out, M3.out.1, M3.out.2, grown_put (grown_setc G3.out (by omega) _) (Nat.le_refl _) _⟩
    unfold RowK
    rw [q1, q2, q3, q4]
    exact own_low OWN (by omega)

set_option maxRecDepth 20000 in
set_option maxHeartbeats 4000000 in
theorem rd_stream_01 (g : Nat) (s : SL) (tb : Nat) (w : World) (h : Rd w g s tb) (ht : tb < 32) (hO : decide (tb / 4 % 2 = 1) = false) (hS : decide (tb / 2 % 2 = 1) = true) :
    Calls Tryz.prog 142 #[.pointer (some ⟨g, 0, none⟩)] w (RdPost w g s tb (Fr.streamR tb) (frV w.heap.size)) := by
  have hgw := h.row.lt
  have hLl := h.lens.lt
  have H := veil h
  have b0 := veil ((Below.refl _ w).alloc (Nat.le_refl _) (.cells zF 37))
  have R0 := veil (Row.new w 37 zF)
  have hO' : (tb / 4 % 2 = 1) = False := by simpa using hO
  have hS' : (tb / 2 % 2 = 1) = True := by simpa using hS
  have E0 := veil (show Fr.streamR tb s.b = Fr.thenR Fr.numR (fun st => Fr.thenR (Fr.okR 0) fun off => Fr.thenR (Fr.placedR off) fun d => Fr.okR { Fr.f0 with kind := 7, stream := st, offset := off, fin := decide (tb % 2 = 1), data := d }) s.b by unfold Fr.streamR; simp only [hO', hS', if_true, if_false])
  have A1 := veil (show (bits .and .u64 (tb : Int) ((1 : Nat) : Int) != 0) = decide (tb % 2 = 1) from and_1 ⟨tb, ht⟩)
  have A2 := veil (show (bits .and .u64 (tb : Int) ((2 : Nat) : Int) != 0) = true from (and_2 ⟨tb, ht⟩).trans hS)
  have A4 := veil (show (bits .and .u64 (tb : Int) ((4 : Nat) : Int) != 0) = false from (and_4 ⟨tb, ht⟩).trans hO)
  clear h hO hS hO' hS'
  refine (callsIn_wide (n := 4)).1 ?_
  refine callsIn_of_wp Tryz.func142 rfl trivial ?_ rfl
  simp only [Tryz.ntmps142, List.size_toArray, List.length_cons, List.length_nil, Nat.reduceAdd, Nat.reduceSub, Array.replicate_succ, Array.replicate_zero, List.push_toArray, List.append_toArray, List.nil_append, List.cons_append]
  gi_wp2_with fail
  refine ⟨trivial, (callsIn_wide.2 (rd_num g s tb (w.alloc (.cells zF 37)) (H.out.below b0.out))).mono ?_⟩
  rintro x1 w1 (⟨e, he, rfl, hg⟩ | ⟨n1, r1, v1, s1, he1, rfl, ⟨rfl, hv1⟩, hR1, hb1, hsg1, hsl1, hg1⟩)
  · exact ⟨rfl, .inl ⟨e, ch_err E0.out rfl he, rfl, grown_trans (grown_alloc (.cells zF 37) (some g)) hg⟩⟩
  have E1 := veil (ch_ok E0.out rfl he1)
  have G1 := veil (grown_trans (grown_alloc (.cells zF 37) (some g)) hg1)
  have Q1 := veil (Row.grown R0.out hg1 (show w.heap.size ≠ g by omega))
  have B1 := veil hb1
  have D1 := veil hR1
  have M1 := veil (show s1.g = s.g ∧ s1.len ≤ s.len from ⟨hsg1, hsl1⟩)
  have V1 := veil hv1
  have hq1 : w.heap.size + 1 ≤ w1.heap.size := by have := hg1.size; simp at this; exact this
  clear he1 hg1 hb1 hR1 hsg1 hsl1 hv1
  gi_wp2_with fail
  refine ⟨trivial, (callsIn_wide.2 (rd_has g s1 tb 1 w1 D1.out)).mono ?_⟩
  rintro x9 w9 ⟨rfl, hw9⟩
  obtain rfl := hw9.symm
  rw [A1.out]
  clear A1
  gi_wp2_with fail
  refine ⟨trivial, (callsIn_wide.2 (rd_has g s1 tb 4 (w1.alloc (.cells #[.int .u8 7, .int .u64 (n1 : Int), .int .u64 (0 : Int), .int .u64 0, .int .u64 0, .bool (decide (tb % 2 = 1)), .slice none 0 0, .slice none 0 0] 37)) (D1.out.below ((Below.refl _ w1).alloc (Nat.le_refl _) _)))).mono ?_⟩
  rintro x8 w8 ⟨rfl, hw8⟩
  obtain rfl := hw8.symm
  rw [A4.out]
  clear A4
  have EX := veil (show Fr.streamR tb s.b = Fr.thenR (Fr.placedR 0) (fun d => Fr.okR { Fr.f0 with kind := 7, stream := n1, offset := 0, fin := decide (tb % 2 = 1), data := d }) r1 from E1.out)
  have RQX := veil (Row.new w1 37 #[.int .u8 7, .int .u64 (n1 : Int), .int .u64 (0 : Int), .int .u64 0, .int .u64 0, .bool (decide (tb % 2 = 1)), .slice none 0 0, .slice none 0 0])
  have RHX := veil (Q1.out.alloc (.cells #[.int .u8 7, .int .u64 (n1 : Int), .int .u64 (0 : Int), .int .u64 0, .int .u64 0, .bool (decide (tb % 2 = 1)), .slice none 0 0, .slice none 0 0] 37))
  have GX := veil (grown_trans G1.out (grown_alloc (.cells #[.int .u8 7, .int .u64 (n1 : Int), .int .u64 (0 : Int), .int .u64 0, .int .u64 0, .bool (decide (tb % 2 = 1)), .slice none 0 0, .slice none 0 0] 37) (some g)))
  have DX := veil (D1.out.below ((Below.refl _ w1).alloc (Nat.le_refl _) (.cells #[.int .u8 7, .int .u64 (n1 : Int), .int .u64 (0 : Int), .int .u64 0, .int .u64 0, .bool (decide (tb % 2 = 1)), .slice none 0 0, .slice none 0 0] 37)))
  have BX := B1
  have MX := M1
  have VX := veil (show 0 ≤ 4611686018427387903 from Nat.zero_le _)
  have hqX : w1.heap.size + 1 ≤ (w1.alloc (.cells #[.int .u8 7, .int .u64 (n1 : Int), .int .u64 (0 : Int), .int .u64 0, .int .u64 0, .bool (decide (tb % 2 = 1)), .slice none 0 0, .slice none 0 0] 37)).heap.size := by simp
  gi_wp2_with fail
  generalize (w1.alloc (.cells #[.int .u8 7, .int .u64 (n1 : Int), .int .u64 (0 : Int), .int .u64 0, .int .u64 0, .bool (decide (tb % 2 = 1)), .slice none 0 0, .slice none 0 0] 37)) = X at *
  refine ⟨trivial, (callsIn_wide.2 (rd_has g s1 tb 2 X DX.out)).mono ?_⟩
  rintro x7 w7 ⟨rfl, hw7⟩
  obtain rfl := hw7.symm
  rw [A2.out]
  clear A2
  have cX2 : X.cell? ⟨w1.heap.size, 2, none⟩ = some (.int .u64 (0 : Int)) := RQX.out.cell 2
  gi_wp2_with fail
  refine ⟨trivial, (callsIn_wide.2 (rd_sized g s1 tb 0 X DX.out VX.out)).mono ?_⟩
  rintro x3 w3 (⟨e, he, rfl, hg⟩ | ⟨d3, r3, v3, s3, he3, rfl, hV3, hR3, hb3, hsg3, hsl3, hg3⟩)
  · exact ⟨rfl, .inl ⟨e, ch_err EX.out BX.out he, rfl, grown_trans GX.out hg⟩⟩
  obtain ⟨aV, cV, rfl⟩ := own_shapeF hV3
  have E3 := veil (ch_ok EX.out BX.out he3)
  have RQ := veil (Row.grown RQX.out hg3 (show w1.heap.size ≠ g by omega))
  have RH := veil (Row.grown RHX.out hg3 (show w.heap.size ≠ g by omega))
  have G3 := veil (grown_trans GX.out hg3)
  have B3 := veil hb3
  have D3 := veil hR3
  have M3 := veil (show s3.g = s.g ∧ s3.len ≤ s.len from ⟨hsg3.trans MX.out.1, Nat.le_trans hsl3 MX.out.2⟩)
  have W3 := veil (show w3.ownsRow (w1.heap.size + 1) 5 1 (.slice aV d3.length cV) d3.length (vb d3) from own_low hV3 hqX)
  have cq6 : w3.cell? ⟨w1.heap.size, 6, none⟩ = some (.slice none 0 0) := RQ.out.cell 6
  have zq6 := RQ.out.frozen 6
  have RQ2 := veil (show Row (w3.setCell ⟨w1.heap.size, 6, none⟩ (.slice aV d3.length cV)) w1.heap.size 37 #[.int .u8 7, .int .u64 (n1 : Int), .int .u64 (0 : Int), .int .u64 0, .int .u64 0, .bool (decide (tb % 2 = 1)), .slice aV d3.length cV, .slice none 0 0] from RQ.out.set 6 _)
  have RH2 := veil (RH.out.other (a := ⟨w1.heap.size, 6, none⟩) (show w.heap.size ≠ w1.heap.size by omega) (.slice aV d3.length cV))
  clear he3 hV3 hR3 hb3 hsg3 hsl3 hg3
  gi_wp2_with (first
    | (with_reducible (show wpListIn _ _ _ _ _ (⟨_, Op.load 37 _, _, _, _, _⟩ :: _) _ _)
       refine value_wpIn rfl (about_none (by intro c h; cases h)) (by intro c h; cases h) _ (run_midF 37 _ w1.heap.size 0 #[.int .u8 7, .int .u64 (n1 : Int), .int .u64 (0 : Int), .int .u64 0, .int .u64 0, .bool (decide (tb % 2 = 1)), .slice aV d3.length cV, .slice none 0 0] _ rfl rfl Tryz.underlying37 rfl (by kernel_rfl) _ (range_row RQ2.out)) ?_)
    | (with_reducible (show wpListIn _ _ _ _ _ (⟨_, Op.store 37 _ _, _, _, _, _⟩ :: _) _ _)
       refine store_rowIn rfl 37 _ _ rfl w.heap.size #[.int .u8 7, .int .u64 (n1 : Int), .int .u64 (0 : Int), .int .u64 0, .int .u64 0, .bool (decide (tb % 2 = 1)), .slice aV d3.length cV, .slice none 0 0] rfl rfl _ _ RH2.out 8 (by kernel_rfl) rfl rfl (by kernel_rfl) ?_))
  refine bodyPost_ret (results_cell_row rfl _ _ w.heap.size _ #[.int .u8 7, .int .u64 (n1 : Int), .int .u64 (0 : Int), .int .u64 0, .int .u64 0, .bool (decide (tb % 2 = 1)), .slice aV d3.length cV, .slice none 0 0] (0, 0) _ rfl (RH2.out.put _) Tryz.underlying37 rfl (by kernel_rfl)) rfl ?_
  have OWN : World.ownsRow ((w3.setCell ⟨w1.heap.size, 6, none⟩ (.slice aV d3.length cV)).setRow w.heap.size #[.int .u8 7, .int .u64 (n1 : Int), .int .u64 (0 : Int), .int .u64 0, .int .u64 0, .bool (decide (tb % 2 = 1)), .slice aV d3.length cV, .slice none 0 0]) (w1.heap.size + 1) 5 1 (.slice aV d3.length cV) d3.length (vb d3) := own_setr (own_setc W3.out (by omega)) (by omega) _
  obtain ⟨sD, q1, q2, q3, q4, q5⟩ := SL.of_ownF OWN
  refine .inr ⟨_, _, _, s3, E3.out, rfl, ⟨⟨7, n1, 0, 0, 0, decide (tb % 2 = 1), sD, noRg⟩, by unfold FrM.cells; rw [q1, q2, q3]; rfl, new_data _ _ _ _ _ _ _ _ sD ?_ q5 (by decide) V1.out VX.out (Nat.zero_le _) (Nat.zero_le _), by show Fr.Frame.mk _ _ _ _ _ _ sD.b _ = _; rw [q4]; rfl⟩, (D3.out.setc (by omega) (fun p => by have := H.out.ok.lt (Nat.lt_of_lt_of_le p M3.out.2); rw [M3.out.1]; omega) (by omega) _).put (by omega) (fun p => by have := H.out.ok.lt (Nat.lt_of_lt_of_le p M3.out.2); rw [M3.out.1]; omega) (by omega) _, B3.out, M3.out.1, M3.out.2, grown_put (grown_setc G3.out (by omega) _) (Nat.le_refl _) _⟩
  unfold RowK
  rw [q1, q2, q3, q4]
  exact own_low OWN (by omega)

set_option maxRecDepth 20000 in
set_option maxHeartbeats 4000000 in
theorem rd_stream_10 (g : Nat) (s : SL) (tb : Nat) (w : World) (h : Rd w g s tb) (ht : tb < 32) (hO : decide (tb / 4 % 2 = 1) = true) (hS : decide (tb / 2 % 2 = 1) = false) :
    Calls Tryz.prog 142 #[.pointer (some ⟨g, 0, none⟩)] w (RdPost w g s tb (Fr.streamR tb) (frV w.heap.size)) := by
  have hgw := h.row.lt
  have hLl := h.lens.lt
  have H := veil h
  have b0 := veil ((Below.refl _ w).alloc (Nat.le_refl _) (.cells zF 37))
  have R0 := veil (Row.new w 37 zF)
  have hO' : (tb / 4 % 2 = 1) = True := by simpa using hO
  have hS' : (tb / 2 % 2 = 1) = False := by simpa using hS
  have E0 := veil (show Fr.streamR tb s.b = Fr.thenR Fr.numR (fun st => Fr.thenR (Fr.numR) fun off => Fr.thenR (Fr.restR off) fun d => Fr.okR { Fr.f0 with kind := 7, stream := st, offset := off, fin := decide (tb % 2 = 1), data := d }) s.b by unfold Fr.streamR; simp only [hO', hS', if_true, if_false])
  have A1 := veil (show (bits .and .u64 (tb : Int) ((1 : Nat) : Int) != 0) = decide (tb % 2 = 1) from and_1 ⟨tb, ht⟩)
  have A2 := veil (show (bits .and .u64 (tb : Int) ((2 : Nat) : Int) != 0) = false from (and_2 ⟨tb, ht⟩).trans hS)
  have A4 := veil (show (bits .and .u64 (tb : Int) ((4 : Nat) : Int) != 0) = true from (and_4 ⟨tb, ht⟩).trans hO)
  clear h hO hS hO' hS'
  refine (callsIn_wide (n := 4)).1 ?_
  refine callsIn_of_wp Tryz.func142 rfl trivial ?_ rfl
  simp only [Tryz.ntmps142, List.size_toArray, List.length_cons, List.length_nil, Nat.reduceAdd, Nat.reduceSub, Array.replicate_succ, Array.replicate_zero, List.push_toArray, List.append_toArray, List.nil_append, List.cons_append]
  gi_wp2_with fail
  refine ⟨trivial, (callsIn_wide.2 (rd_num g s tb (w.alloc (.cells zF 37)) (H.out.below b0.out))).mono ?_⟩
  rintro x1 w1 (⟨e, he, rfl, hg⟩ | ⟨n1, r1, v1, s1, he1, rfl, ⟨rfl, hv1⟩, hR1, hb1, hsg1, hsl1, hg1⟩)
  · exact ⟨rfl, .inl ⟨e, ch_err E0.out rfl he, rfl, grown_trans (grown_alloc (.cells zF 37) (some g)) hg⟩⟩
  have E1 := veil (ch_ok E0.out rfl he1)
  have G1 := veil (grown_trans (grown_alloc (.cells zF 37) (some g)) hg1)
  have Q1 := veil (Row.grown R0.out hg1 (show w.heap.size ≠ g by omega))
  have B1 := veil hb1
  have D1 := veil hR1
  have M1 := veil (show s1.g = s.g ∧ s1.len ≤ s.len from ⟨hsg1, hsl1⟩)
  have V1 := veil hv1
  have hq1 : w.heap.size + 1 ≤ w1.heap.size := by have := hg1.size; simp at this; exact this
  clear he1 hg1 hb1 hR1 hsg1 hsl1 hv1
  gi_wp2_with fail
  refine ⟨trivial, (callsIn_wide.2 (rd_has g s1 tb 1 w1 D1.out)).mono ?_⟩
  rintro x9 w9 ⟨rfl, hw9⟩
  obtain rfl := hw9.symm
  rw [A1.out]
  clear A1
  gi_wp2_with fail
  refine ⟨trivial, (callsIn_wide.2 (rd_has g s1 tb 4 (w1.alloc (.cells #[.int .u8 7, .int .u64 (n1 : Int), .int .u64 (0 : Int), .int .u64 0, .int .u64 0, .bool (decide (tb % 2 = 1)), .slice none 0 0, .slice none 0 0] 37)) (D1.out.below ((Below.refl _ w1).alloc (Nat.le_refl _) _)))).mono ?_⟩
  rintro x8 w8 ⟨rfl, hw8⟩
  obtain rfl := hw8.symm
  rw [A4.out]
  clear A4
  gi_wp2_with fail
  refine ⟨trivial, (callsIn_wide.2 (rd_num g s1 tb (w1.alloc (.cells #[.int .u8 7, .int .u64 (n1 : Int), .int .u64 (0 : Int), .int .u64 0, .int .u64 0, .bool (decide (tb % 2 = 1)), .slice none 0 0, .slice none 0 0] 37)) (D1.out.below ((Below.refl _ w1).alloc (Nat.le_refl _) _)))).mono ?_⟩
  rintro x2 w2 (⟨e, he, rfl, hg⟩ | ⟨n2, r2, v2, s2, he2, rfl, ⟨rfl, hv2⟩, hR2, hb2, hsg2, hsl2, hg2⟩)
  · exact ⟨rfl, .inl ⟨e, ch_err E1.out B1.out he, rfl, grown_trans (grown_trans G1.out (grown_alloc (.cells #[.int .u8 7, .int .u64 (n1 : Int), .int .u64 (0 : Int), .int .u64 0, .int .u64 0, .bool (decide (tb % 2 = 1)), .slice none 0 0, .slice none 0 0] 37) (some g))) hg⟩⟩
  have EX := veil (ch_ok E1.out B1.out he2)
  have RQ2 := veil (Row.grown (Row.new w1 37 #[.int .u8 7, .int .u64 (n1 : Int), .int .u64 (0 : Int), .int .u64 0, .int .u64 0, .bool (decide (tb % 2 = 1)), .slice none 0 0, .slice none 0 0]) hg2 (show w1.heap.size ≠ g by omega))
  have RH2 := veil (Row.grown (Q1.out.alloc (.cells #[.int .u8 7, .int .u64 (n1 : Int), .int .u64 (0 : Int), .int .u64 0, .int .u64 0, .bool (decide (tb % 2 = 1)), .slice none 0 0, .slice none 0 0] 37)) hg2 (show w.heap.size ≠ g by omega))
  have cq2 : w2.cell? ⟨w1.heap.size, 2, none⟩ = some (.int .u64 0) := RQ2.out.cell 2
  have zq2 := RQ2.out.frozen 2
  have RQX := veil (show Row (w2.setCell ⟨w1.heap.size, 2, none⟩ (.int .u64 (n2 : Int))) w1.heap.size 37 #[.int .u8 7, .int .u64 (n1 : Int), .int .u64 (n2 : Int), .int .u64 0, .int .u64 0, .bool (decide (tb % 2 = 1)), .slice none 0 0, .slice none 0 0] from RQ2.out.set 2 _)
  have RHX := veil (RH2.out.other (a := ⟨w1.heap.size, 2, none⟩) (show w.heap.size ≠ w1.heap.size by omega) (.int .u64 (n2 : Int)))
  have GX := veil (show w.grownBy (w2.setCell ⟨w1.heap.size, 2, none⟩ (.int .u64 (n2 : Int))) (some g) from grown_setc (grown_trans (grown_trans G1.out (grown_alloc (.cells #[.int .u8 7, .int .u64 (n1 : Int), .int .u64 (0 : Int), .int .u64 0, .int .u64 0, .bool (decide (tb % 2 = 1)), .slice none 0 0, .slice none 0 0] 37) (some g))) hg2) (by omega) _)
  have DX := veil (show Rd (w2.setCell ⟨w1.heap.size, 2, none⟩ (.int .u64 (n2 : Int))) g s2 tb from hR2.setc (by omega) (fun p => by have := H.out.ok.lt (Nat.lt_of_lt_of_le p (Nat.le_trans hsl2 M1.out.2)); rw [hsg2, M1.out.1]; omega) (by omega) _)
  have BX := veil hb2
  have MX := veil (show s2.g = s.g ∧ s2.len ≤ s.len from ⟨hsg2.trans M1.out.1, Nat.le_trans hsl2 M1.out.2⟩)
  have VX := veil hv2
  have hqX : w1.heap.size + 1 ≤ (w2.setCell ⟨w1.heap.size, 2, none⟩ (.int .u64 (n2 : Int))).heap.size := by have := hg2.size; simp at this; simp [World.setCell]; exact this
  clear he2 hg2 hb2 hR2 hsg2 hsl2 hv2 RQ2 RH2
  gi_wp2_with fail
  clear cq2 zq2
  generalize (w2.setCell ⟨w1.heap.size, 2, none⟩ (.int .u64 (n2 : Int))) = X at *
  refine ⟨trivial, (callsIn_wide.2 (rd_has g s2 tb 2 X DX.out)).mono ?_⟩
  rintro x7 w7 ⟨rfl, hw7⟩
  obtain rfl := hw7.symm
  rw [A2.out]
  clear A2
  have cX2 : X.cell? ⟨w1.heap.size, 2, none⟩ = some (.int .u64 (n2 : Int)) := RQX.out.cell 2
  have hwl : IntKind.u64.wrap (s2.len : Int) = (s2.len : Int) := by have := DX.out.len; rw [IntKind.wrap_u64]; omega
  have hlX : s2.len ≤ 4611686018427387903 := by have := DX.out.len; omega
  have hbX := DX.out.ok.hb
  gi_wp2_with fail
  refine wpIn_region_any (by kernel_rfl) ?_
  refine anyIn_spine (valST g w1.heap.size n2 s2) (fun k W u => match k with
      | 0 => Below X.heap.size X W
      | 1 => ∃ d3 r3, ∃ s3 : SL, (dataAtR n2 s2.len s2.b = .ok (d3, r3) ∧ RowK X.heap.size d3 W u ∧ Rd W g s3 tb ∧ s3.b = r3 ∧ s3.g = s2.g ∧ s3.len ≤ s2.len ∧ X.grownBy W (some g))
      | _ => ∃ (w3 : World) (d3 r3 : List By) (v3 : Value), ∃ s3 : SL, (dataAtR n2 s2.len s2.b = .ok (d3, r3) ∧ RowK X.heap.size d3 w3 v3 ∧ Rd w3 g s3 tb ∧ s3.b = r3 ∧ s3.g = s2.g ∧ s3.len ≤ s2.len ∧ X.grownBy w3 (some g)) ∧ W = w3.setCell ⟨w1.heap.size, 6, none⟩ v3) undef [9, 11] [21, 22, 23, 24, 25, 26, 27, 28, 29, 30, 31, 100000] depST dclST (by kernel_rfl) (by decide) rfl (by decide) (by decide) ?hord (by decide) ((Below.refl _ _).drew) ?hfix ?hcal ?hdone
  case hord =>
    intro k i j hk hk1
    match k, hk, hk1 with
    | 0, hk, hk1 =>
      obtain rfl := Option.some.inj hk
      obtain rfl := Option.some.inj hk1
      decide
    | 1, _, hk1 => simp at hk1
    | _ + 2, hk, _ => simp at hk
  case hfix =>
    intro x W m ii d u hR hdi hni hdep hlo hhi
    have cW : W.cell? ⟨w1.heap.size, 2, none⟩ = some (.int .u64 (n2 : Int)) ∨ ¬ (ii = 2) := by
      by_cases h2 : ii = 2
      · left
        subst h2
        have hm : m ≤ 0 := hhi 0 9 rfl (by decide)
        obtain rfl : m = 0 := by omega
        exact (hR : Below X.heap.size X W).cell (p := ⟨w1.heap.size, 2, none⟩) (by have := RQX.out.lt; exact this) |>.trans cX2
      · exact .inr h2
    have cG : ii = 6 → W.cell? ⟨g, 0, none⟩ = some (.slice s2.a s2.len s2.cap) := by
      intro h6
      subst h6
      have hm : m ≤ 0 := by
        exact hhi 0 9 rfl (by decide)
      obtain rfl : m = 0 := by omega
      exact ((hR : Below X.heap.size X W).cell (p := ⟨g, 0, none⟩) DX.out.row.lt).trans (DX.out.row.cell 0)
    match ii, hdi, hdep with
    | 0, hdi, hdep =>
      obtain rfl := Option.some.inj hdi
      exact OI_value rfl rfl (about_none (by intro c h; cases h)) (by intro c h; cases h) (.pointer (some ⟨g, 0, none⟩)) W (by kernel_rfl) ⟨rfl, rfl⟩
    | 1, hdi, hdep =>
      obtain rfl := Option.some.inj hdi
      exact OI_value rfl rfl (about_none (by intro c h; cases h)) (by intro c h; cases h) (.pointer (some ⟨w1.heap.size, 2, none⟩)) W (by kernel_rfl) ⟨rfl, rfl⟩
    | 2, hdi, hdep =>
      obtain rfl := Option.some.inj hdi
      rw [updV_self (show x 1 = _ from hdep 1 (by simp [depST]) (by decide))]
      exact OI_value rfl rfl (about_none (by intro c h; cases h)) (by intro c h; cases h) (.int .u64 (n2 : Int)) W (run_cellF 34 _ ⟨w1.heap.size, 2, none⟩ _ _ rfl (by kernel_rfl) Tryz.underlying34 rfl W (cW.resolve_right (fun h => h rfl))) ⟨rfl, rfl⟩
    | 3, hdi, hdep =>
      obtain rfl := Option.some.inj hdi
      exact OI_value rfl rfl (about_none (by intro c h; cases h)) (by intro c h; cases h) (.pointer (some ⟨g, 0, none⟩)) W (by kernel_rfl) ⟨rfl, rfl⟩
    | 4, hdi, hdep =>
      obtain rfl := Option.some.inj hdi
      rw [updV_self (show x 3 = _ from hdep 3 (by simp [depST]) (by decide))]
      exact OI_value rfl rfl (about_none (by intro c h; cases h)) (by intro c h; cases h) (.pointer (some ⟨g, 0, none⟩)) W (by kernel_rfl) ⟨rfl, rfl⟩
    | 5, hdi, hdep =>
      obtain rfl := Option.some.inj hdi
      rw [updV_self (show x 4 = _ from hdep 4 (by simp [depST]) (by decide))]
      exact OI_value rfl rfl (about_none (by intro c h; cases h)) (by intro c h; cases h) (.pointer (some ⟨g, 0, none⟩)) W (by kernel_rfl) ⟨rfl, rfl⟩
    | 6, hdi, hdep =>
      obtain rfl := Option.some.inj hdi
      rw [updV_self (show x 5 = _ from hdep 5 (by simp [depST]) (by decide))]
      exact OI_value rfl rfl (about_none (by intro c h; cases h)) (by intro c h; cases h) (.slice s2.a s2.len s2.cap) W (run_cellF 26 _ ⟨g, 0, none⟩ _ _ rfl (by kernel_rfl) Tryz.underlying26 rfl W (cG rfl)) ⟨rfl, rfl⟩
    | 7, hdi, hdep =>
      obtain rfl := Option.some.inj hdi
      rw [updV_self (show x 6 = _ from hdep 6 (by simp [depST]) (by decide))]
      exact OI_value rfl rfl (about_builtin _ _ _ rfl) (by intro c h; cases h) (.int .i64 (s2.len : Int)) W (run_lenF _ 26 s2.a s2.len s2.cap rfl (by kernel_rfl) W Tryz.underlying26) ⟨rfl, rfl⟩
    | 8, hdi, hdep =>
      obtain rfl := Option.some.inj hdi
      rw [updV_self (show x 7 = _ from hdep 7 (by simp [depST]) (by decide))]
      exact OI_value rfl rfl (about_none (by intro c h; cases h)) (by intro c h; cases h) (.int .u64 (s2.len : Int)) W (run_convU _ _ _ s2.len hwl rfl (by kernel_rfl) Tryz.underlying3 Tryz.underlying34 W) ⟨rfl, rfl⟩
    | 9, _, _ => exact absurd (by decide) hni
    | 10, hdi, hdep =>
      obtain rfl := Option.some.inj hdi
      exact OI_value rfl rfl (about_none (by intro c h; cases h)) (by intro c h; cases h) (.pointer (some ⟨w1.heap.size, 6, none⟩)) W (by kernel_rfl) ⟨rfl, rfl⟩
    | 11, _, _ => exact absurd (by decide) hni
    | _ + 12, hdi, _ => simp at hdi
  case hcal =>
    intro x W k ii d u hR hk hdi hdep hu0 hup
    match k, hk, hR, hu0, hup with
    | 0, hk, hR, _, _ =>
      obtain rfl := Option.some.inj hk
      obtain rfl := Option.some.inj hdi
      rw [updV_self (show x 0 = _ from hdep 0 (by simp [depST]) (by decide)), updV_self (show updV x 0 _ 2 = _ from hdep 2 (by simp [depST]) (by decide)), updV_self (show updV (updV x 0 _) 2 _ 8 = _ from hdep 8 (by simp [depST]) (by decide))]
      refine OI_callP rfl rfl (by intro c h; cases h) 154 #[.pointer (some ⟨g, 0, none⟩), .int .u64 (n2 : Int), .int .u64 (s2.len : Int)] (fun _ _ => trivial) (by kernel_rfl) (by decide) ?_
      have bW : Below X.heap.size X W := hR
      refine (callsIn_wide.2 (rd_dataAt g s2 tb n2 s2.len W (DX.out.below bW) VX.out hlX)).mono ?_
      rintro xx ww (⟨e, he, rfl, hg⟩ | ⟨d3, r3, v3, s3, he3, rfl, hV3, hR3, hb3, hsg3, hsl3, hg3⟩)
      · right
        refine ⟨_, rfl, rfl, .inl ⟨e, ch_err EX.out BX.out ((rest_eq n2 s2.b).symm.trans (by rw [hbX]; exact he)), rfl, grown_trans GX.out (grown_trans (grown_below bW) hg)⟩⟩
      · left
        exact ⟨v3, rfl, v3, rfl, d3, r3, s3, he3, own_low hV3 bW.size, hR3, hb3, hsg3, hsl3, grown_trans (grown_below bW) hg3⟩
    | 1, hk, hR, _, hup =>
      obtain rfl := Option.some.inj hk
      obtain rfl := Option.some.inj hdi
      obtain ⟨d3, r3, s3, hh⟩ := hR
      have hx9 : x 9 = u := hup 0 9 rfl rfl
      obtain ⟨aV, cV, rfl⟩ := own_shapeF hh.2.1
      rw [updV_self hx9, updV_self (show updV x 9 _ 10 = _ from hdep 10 (by simp [depST]) (by decide))]
      have rq : Row W w1.heap.size 37 _ := Row.grown RQX.out hh.2.2.2.2.2.2 (show w1.heap.size ≠ g by omega)
      refine OI_skip rfl rfl (about_none (by intro c h; cases h)) (by intro c h; cases h) (W.setCell ⟨w1.heap.size, 6, none⟩ (.slice aV d3.length cV)) ?_ ?_
      · exact run_storeS 26 _ _ ⟨w1.heap.size, 6, none⟩ aV d3.length cV _ rfl (by kernel_rfl) (by kernel_rfl) (by kernel_rfl) W (rq.cell 6) (rq.frozen 6)
      · refine ⟨undef, ?_, W, d3, r3, _, s3, hh, rfl⟩
        exact (put_none _ _).trans (put_far _ _ _ (by rw [puts_size]; exact Nat.le_of_ble_eq_true rfl)).symm
    | _ + 2, hk, _, _, _ => simp at hk
  case hdone =>
    intro x W u hR hx hup
    obtain ⟨w3, d3, r3, v3, s3, ⟨he3, hV3, hR3, hb3, hsg3, hsl3, hg3⟩, rfl⟩ := hR
    have z0 := hx 0 (by decide) (by decide)
    have z1 := hx 1 (by decide) (by decide)
    have z2 := hx 2 (by decide) (by decide)
    have z3 := hx 3 (by decide) (by decide)
    have z4 := hx 4 (by decide) (by decide)
    have z5 := hx 5 (by decide) (by decide)
    have z6 := hx 6 (by decide) (by decide)
    have z7 := hx 7 (by decide) (by decide)
    have z8 := hx 8 (by decide) (by decide)
    have z10 := hx 10 (by decide) (by decide)
    generalize x 9 = x9
    simp only [putsV, z0, z1, z2, z3, z4, z5, z6, z7, z8, z10, valST, Act.put, List.setIfInBounds_toArray, List.set_cons_succ, List.set_cons_zero, Nat.reduceAdd]
    clear z0 z1 z2 z3 z4 z5 z6 z7 z8 z10 hx hup
    replace he3 : Fr.restR n2 s2.b = .ok (d3, r3) := (rest_eq n2 s2.b).symm.trans (by rw [hbX]; exact he3)
    obtain ⟨aV, cV, rfl⟩ := own_shapeF hV3
    have E3 := veil (ch_ok EX.out BX.out he3)
    have RQ := veil (Row.grown RQX.out hg3 (show w1.heap.size ≠ g by omega))
    have RH := veil (Row.grown RHX.out hg3 (show w.heap.size ≠ g by omega))
    have G3 := veil (grown_trans GX.out hg3)
    have B3 := veil hb3
    have D3 := veil hR3
    have M3 := veil (show s3.g = s.g ∧ s3.len ≤ s.len from ⟨hsg3.trans MX.out.1, Nat.le_trans hsl3 MX.out.2⟩)
    have W3 := veil (show w3.ownsRow (w1.heap.size + 1) 5 1 (.slice aV d3.length cV) d3.length (vb d3) from own_low hV3 hqX)
    have cq6 : w3.cell? ⟨w1.heap.size, 6, none⟩ = some (.slice none 0 0) := RQ.out.cell 6
    have zq6 := RQ.out.frozen 6
    have RQ2 := veil (show Row (w3.setCell ⟨w1.heap.size, 6, none⟩ (.slice aV d3.length cV)) w1.heap.size 37 #[.int .u8 7, .int .u64 (n1 : Int), .int .u64 (n2 : Int), .int .u64 0, .int .u64 0, .bool (decide (tb % 2 = 1)), .slice aV d3.length cV, .slice none 0 0] from RQ.out.set 6 _)
    have RH2 := veil (RH.out.other (a := ⟨w1.heap.size, 6, none⟩) (show w.heap.size ≠ w1.heap.size by omega) (.slice aV d3.length cV))
    clear he3 hV3 hR3 hb3 hsg3 hsl3 hg3
    gi_wp2_with (first
      | (with_reducible (show wpListIn _ _ _ _ _ (⟨_, Op.load 37 _, _, _, _, _⟩ :: _) _ _)
         refine value_wpIn rfl (about_none (by intro c h; cases h)) (by intro c h; cases h) _ (run_midF 37 _ w1.heap.size 0 #[.int .u8 7, .int .u64 (n1 : Int), .int .u64 (n2 : Int), .int .u64 0, .int .u64 0, .bool (decide (tb % 2 = 1)), .slice aV d3.length cV, .slice none 0 0] _ rfl rfl Tryz.underlying37 rfl (by kernel_rfl) _ (range_row RQ2.out)) ?_)
      | (with_reducible (show wpListIn _ _ _ _ _ (⟨_, Op.store 37 _ _, _, _, _, _⟩ :: _) _ _)
         refine store_rowIn rfl 37 _ _ rfl w.heap.size #[.int .u8 7, .int .u64 (n1 : Int), .int .u64 (n2 : Int), .int .u64 0, .int .u64 0, .bool (decide (tb % 2 = 1)), .slice aV d3.length cV, .slice none 0 0] rfl rfl _ _ RH2.out 8 (by kernel_rfl) rfl rfl (by kernel_rfl) ?_))
    refine bodyPost_ret (results_cell_row rfl _ _ w.heap.size _ #[.int .u8 7, .int .u64 (n1 : Int), .int .u64 (n2 : Int), .int .u64 0, .int .u64 0, .bool (decide (tb % 2 = 1)), .slice aV d3.length cV, .slice none 0 0] (0, 0) _ rfl (RH2.out.put _) Tryz.underlying37 rfl (by kernel_rfl)) rfl ?_
    have OWN : World.ownsRow ((w3.setCell ⟨w1.heap.size, 6, none⟩ (.slice aV d3.length cV)).setRow w.heap.size #[.int .u8 7, .int .u64 (n1 : Int), .int .u64 (n2 : Int), .int .u64 0, .int .u64 0, .bool (decide (tb % 2 = 1)), .slice aV d3.length cV, .slice none 0 0]) (w1.heap.size + 1) 5 1 (.slice aV d3.length cV) d3.length (vb d3) := own_setr (own_setc W3.out (by omega)) (by omega) _
    obtain ⟨sD, q1, q2, q3, q4, q5⟩ := SL.of_ownF OWN
    refine .inr ⟨_, _, _, s3, E3.out, rfl, ⟨⟨7, n1, n2, 0, 0, decide (tb % 2 = 1), sD, noRg⟩, by unfold FrM.cells; rw [q1, q2, q3]; rfl, new_data _ _ _ _ _ _ _ _ sD ?_ q5 (by decide) V1.out VX.out (Nat.zero_le _) (Nat.zero_le _), by show Fr.Frame.mk _ _ _ _ _ _ sD.b _ = _; rw [q4]; rfl⟩, (D3.out.setc (by omega) (fun p => by have := H.out.ok.lt (Nat.lt_of_lt_of_le p M3.out.2); rw [M3.out.1]; omega) (by omega) _).put (by omega) (fun p => by have := H.out.ok.lt (Nat.lt_of_lt_of_le p M3.out.2); rw [M3.out.1]; omega) (by omega) _, B3.out, M3.out.1, M3.out.2, grown_put (grown_setc G3.out (by omega) _) (Nat.le_refl _) _⟩
    unfold RowK
    rw [q1, q2, q3, q4]
    exact own_low OWN (by omega)

set_option maxRecDepth 20000 in
set_option maxHeartbeats 4000000 in
theorem rd_stream_11 (g : Nat) (s : SL) (tb : Nat) (w : World) (h : Rd w g s tb) (ht : tb < 32) (hO : decide (tb / 4 % 2 = 1) = true) (hS : decide (tb / 2 % 2 = 1) = true) :
    Calls Tryz.prog 142 #[.pointer (some ⟨g, 0, none⟩)] w (RdPost w g s tb (Fr.streamR tb) (frV w.heap.size)) := by
  have hgw := h.row.lt
  have hLl := h.lens.lt
  have H := veil h
  have b0 := veil ((Below.refl _ w).alloc (Nat.le_refl _) (.cells zF 37))
  have R0 := veil (Row.new w 37 zF)
  have hO' : (tb / 4 % 2 = 1) = True := by simpa using hO
  have hS' : (tb / 2 % 2 = 1) = True := by simpa using hS
  have E0 := veil (show Fr.streamR tb s.b = Fr.thenR Fr.numR (fun st => Fr.thenR (Fr.numR) fun off => Fr.thenR (Fr.placedR off) fun d => Fr.okR { Fr.f0 with kind := 7, stream := st, offset := off, fin := decide (tb % 2 = 1), data := d }) s.b by unfold Fr.streamR; simp only [hO', hS', if_true])
  have A1 := veil (show (bits .and .u64 (tb : Int) ((1 : Nat) : Int) != 0) = decide (tb % 2 = 1) from and_1 ⟨tb, ht⟩)
  have A2 := veil (show (bits .and .u64 (tb : Int) ((2 : Nat) : Int) != 0) = true from (and_2 ⟨tb, ht⟩).trans hS)
  have A4 := veil (show (bits .and .u64 (tb : Int) ((4 : Nat) : Int) != 0) = true from (and_4 ⟨tb, ht⟩).trans hO)
  clear h hO hS hO' hS'
  refine (callsIn_wide (n := 4)).1 ?_
  refine callsIn_of_wp Tryz.func142 rfl trivial ?_ rfl
  simp only [Tryz.ntmps142, List.size_toArray, List.length_cons, List.length_nil, Nat.reduceAdd, Nat.reduceSub, Array.replicate_succ, Array.replicate_zero, List.push_toArray, List.append_toArray, List.nil_append, List.cons_append]
  gi_wp2_with fail
  refine ⟨trivial, (callsIn_wide.2 (rd_num g s tb (w.alloc (.cells zF 37)) (H.out.below b0.out))).mono ?_⟩
  rintro x1 w1 (⟨e, he, rfl, hg⟩ | ⟨n1, r1, v1, s1, he1, rfl, ⟨rfl, hv1⟩, hR1, hb1, hsg1, hsl1, hg1⟩)
  · exact ⟨rfl, .inl ⟨e, ch_err E0.out rfl he, rfl, grown_trans (grown_alloc (.cells zF 37) (some g)) hg⟩⟩
  have E1 := veil (ch_ok E0.out rfl he1)
  have G1 := veil (grown_trans (grown_alloc (.cells zF 37) (some g)) hg1)
  have Q1 := veil (Row.grown R0.out hg1 (show w.heap.size ≠ g by omega))
  have B1 := veil hb1
  have D1 := veil hR1
  have M1 := veil (show s1.g = s.g ∧ s1.len ≤ s.len from ⟨hsg1, hsl1⟩)
  have V1 := veil hv1
  have hq1 : w.heap.size + 1 ≤ w1.heap.size := by have := hg1.size; simp at this; exact this
  clear he1 hg1 hb1 hR1 hsg1 hsl1 hv1
  gi_wp2_with fail
  refine ⟨trivial, (callsIn_wide.2 (rd_has g s1 tb 1 w1 D1.out)).mono ?_⟩
  rintro x9 w9 ⟨rfl, hw9⟩
  obtain rfl := hw9.symm
  rw [A1.out]
  clear A1
  gi_wp2_with fail
  refine ⟨trivial, (callsIn_wide.2 (rd_has g s1 tb 4 (w1.alloc (.cells #[.int .u8 7, .int .u64 (n1 : Int), .int .u64 (0 : Int), .int .u64 0, .int .u64 0, .bool (decide (tb % 2 = 1)), .slice none 0 0, .slice none 0 0] 37)) (D1.out.below ((Below.refl _ w1).alloc (Nat.le_refl _) _)))).mono ?_⟩
  rintro x8 w8 ⟨rfl, hw8⟩
  obtain rfl := hw8.symm
  rw [A4.out]
  clear A4
  gi_wp2_with fail
  refine ⟨trivial, (callsIn_wide.2 (rd_num g s1 tb (w1.alloc (.cells #[.int .u8 7, .int .u64 (n1 : Int), .int .u64 (0 : Int), .int .u64 0, .int .u64 0, .bool (decide (tb % 2 = 1)), .slice none 0 0, .slice none 0 0] 37)) (D1.out.below ((Below.refl _ w1).alloc (Nat.le_refl _) _)))).mono ?_⟩
  rintro x2 w2 (⟨e, he, rfl, hg⟩ | ⟨n2, r2, v2, s2, he2, rfl, ⟨rfl, hv2⟩, hR2, hb2, hsg2, hsl2, hg2⟩)
  · exact ⟨rfl, .inl ⟨e, ch_err E1.out B1.out he, rfl, grown_trans (grown_trans G1.out (grown_alloc (.cells #[.int .u8 7, .int .u64 (n1 : Int), .int .u64 (0 : Int), .int .u64 0, .int .u64 0, .bool (decide (tb % 2 = 1)), .slice none 0 0, .slice none 0 0] 37) (some g))) hg⟩⟩
  have EX := veil (ch_ok E1.out B1.out he2)
  have RQ2 := veil (Row.grown (Row.new w1 37 #[.int .u8 7, .int .u64 (n1 : Int), .int .u64 (0 : Int), .int .u64 0, .int .u64 0, .bool (decide (tb % 2 = 1)), .slice none 0 0, .slice none 0 0]) hg2 (show w1.heap.size ≠ g by omega))
  have RH2 := veil (Row.grown (Q1.out.alloc (.cells #[.int .u8 7, .int .u64 (n1 : Int), .int .u64 (0 : Int), .int .u64 0, .int .u64 0, .bool (decide (tb % 2 = 1)), .slice none 0 0, .slice none 0 0] 37)) hg2 (show w.heap.size ≠ g by omega))
  have cq2 : w2.cell? ⟨w1.heap.size, 2, none⟩ = some (.int .u64 0) := RQ2.out.cell 2
  have zq2 := RQ2.out.frozen 2
  have RQX := veil (show Row (w2.setCell ⟨w1.heap.size, 2, none⟩ (.int .u64 (n2 : Int))) w1.heap.size 37 #[.int .u8 7, .int .u64 (n1 : Int), .int .u64 (n2 : Int), .int .u64 0, .int .u64 0, .bool (decide (tb % 2 = 1)), .slice none 0 0, .slice none 0 0] from RQ2.out.set 2 _)
  have RHX := veil (RH2.out.other (a := ⟨w1.heap.size, 2, none⟩) (show w.heap.size ≠ w1.heap.size by omega) (.int .u64 (n2 : Int)))
  have GX := veil (show w.grownBy (w2.setCell ⟨w1.heap.size, 2, none⟩ (.int .u64 (n2 : Int))) (some g) from grown_setc (grown_trans (grown_trans G1.out (grown_alloc (.cells #[.int .u8 7, .int .u64 (n1 : Int), .int .u64 (0 : Int), .int .u64 0, .int .u64 0, .bool (decide (tb % 2 = 1)), .slice none 0 0, .slice none 0 0] 37) (some g))) hg2) (by omega) _)
  have DX := veil (show Rd (w2.setCell ⟨w1.heap.size, 2, none⟩ (.int .u64 (n2 : Int))) g s2 tb from hR2.setc (by omega) (fun p => by have := H.out.ok.lt (Nat.lt_of_lt_of_le p (Nat.le_trans hsl2 M1.out.2)); rw [hsg2, M1.out.1]; omega) (by omega) _)
  have BX := veil hb2
  have MX := veil (show s2.g = s.g ∧ s2.len ≤ s.len from ⟨hsg2.trans M1.out.1, Nat.le_trans hsl2 M1.out.2⟩)
  have VX := veil hv2
  have hqX : w1.heap.size + 1 ≤ (w2.setCell ⟨w1.heap.size, 2, none⟩ (.int .u64 (n2 : Int))).heap.size := by have := hg2.size; simp at this; simp [World.setCell]; exact this
  clear he2 hg2 hb2 hR2 hsg2 hsl2 hv2 RQ2 RH2
  gi_wp2_with fail
  clear cq2 zq2
  generalize (w2.setCell ⟨w1.heap.size, 2, none⟩ (.int .u64 (n2 : Int))) = X at *
  refine ⟨trivial, (callsIn_wide.2 (rd_has g s2 tb 2 X DX.out)).mono ?_⟩
  rintro x7 w7 ⟨rfl, hw7⟩
  obtain rfl := hw7.symm
  rw [A2.out]
  clear A2
  have cX2 : X.cell? ⟨w1.heap.size, 2, none⟩ = some (.int .u64 (n2 : Int)) := RQX.out.cell 2
  gi_wp2_with fail
  refine ⟨trivial, (callsIn_wide.2 (rd_sized g s2 tb n2 X DX.out VX.out)).mono ?_⟩
  rintro x3 w3 (⟨e, he, rfl, hg⟩ | ⟨d3, r3, v3, s3, he3, rfl, hV3, hR3, hb3, hsg3, hsl3, hg3⟩)
  · exact ⟨rfl, .inl ⟨e, ch_err EX.out BX.out he, rfl, grown_trans GX.out hg⟩⟩
  obtain ⟨aV, cV, rfl⟩ := own_shapeF hV3
  have E3 := veil (ch_ok EX.out BX.out he3)
  have RQ := veil (Row.grown RQX.out hg3 (show w1.heap.size ≠ g by omega))
  have RH := veil (Row.grown RHX.out hg3 (show w.heap.size ≠ g by omega))
  have G3 := veil (grown_trans GX.out hg3)
  have B3 := veil hb3
  have D3 := veil hR3
  have M3 := veil (show s3.g = s.g ∧ s3.len ≤ s.len from ⟨hsg3.trans MX.out.1, Nat.le_trans hsl3 MX.out.2⟩)
  have W3 := veil (show w3.ownsRow (w1.heap.size + 1) 5 1 (.slice aV d3.length cV) d3.length (vb d3) from own_low hV3 hqX)
  have cq6 : w3.cell? ⟨w1.heap.size, 6, none⟩ = some (.slice none 0 0) := RQ.out.cell 6
  have zq6 := RQ.out.frozen 6
  have RQ2 := veil (show Row (w3.setCell ⟨w1.heap.size, 6, none⟩ (.slice aV d3.length cV)) w1.heap.size 37 #[.int .u8 7, .int .u64 (n1 : Int), .int .u64 (n2 : Int), .int .u64 0, .int .u64 0, .bool (decide (tb % 2 = 1)), .slice aV d3.length cV, .slice none 0 0] from RQ.out.set 6 _)
  have RH2 := veil (RH.out.other (a := ⟨w1.heap.size, 6, none⟩) (show w.heap.size ≠ w1.heap.size by omega) (.slice aV d3.length cV))
  clear he3 hV3 hR3 hb3 hsg3 hsl3 hg3
  gi_wp2_with (first
    | (with_reducible (show wpListIn _ _ _ _ _ (⟨_, Op.load 37 _, _, _, _, _⟩ :: _) _ _)
       refine value_wpIn rfl (about_none (by intro c h; cases h)) (by intro c h; cases h) _ (run_midF 37 _ w1.heap.size 0 #[.int .u8 7, .int .u64 (n1 : Int), .int .u64 (n2 : Int), .int .u64 0, .int .u64 0, .bool (decide (tb % 2 = 1)), .slice aV d3.length cV, .slice none 0 0] _ rfl rfl Tryz.underlying37 rfl (by kernel_rfl) _ (range_row RQ2.out)) ?_)
    | (with_reducible (show wpListIn _ _ _ _ _ (⟨_, Op.store 37 _ _, _, _, _, _⟩ :: _) _ _)
       refine store_rowIn rfl 37 _ _ rfl w.heap.size #[.int .u8 7, .int .u64 (n1 : Int), .int .u64 (n2 : Int), .int .u64 0, .int .u64 0, .bool (decide (tb % 2 = 1)), .slice aV d3.length cV, .slice none 0 0] rfl rfl _ _ RH2.out 8 (by kernel_rfl) rfl rfl (by kernel_rfl) ?_))
  refine bodyPost_ret (results_cell_row rfl _ _ w.heap.size _ #[.int .u8 7, .int .u64 (n1 : Int), .int .u64 (n2 : Int), .int .u64 0, .int .u64 0, .bool (decide (tb % 2 = 1)), .slice aV d3.length cV, .slice none 0 0] (0, 0) _ rfl (RH2.out.put _) Tryz.underlying37 rfl (by kernel_rfl)) rfl ?_
  have OWN : World.ownsRow ((w3.setCell ⟨w1.heap.size, 6, none⟩ (.slice aV d3.length cV)).setRow w.heap.size #[.int .u8 7, .int .u64 (n1 : Int), .int .u64 (n2 : Int), .int .u64 0, .int .u64 0, .bool (decide (tb % 2 = 1)), .slice aV d3.length cV, .slice none 0 0]) (w1.heap.size + 1) 5 1 (.slice aV d3.length cV) d3.length (vb d3) := own_setr (own_setc W3.out (by omega)) (by omega) _
  obtain ⟨sD, q1, q2, q3, q4, q5⟩ := SL.of_ownF OWN
  refine .inr ⟨_, _, _, s3, E3.out, rfl, ⟨⟨7, n1, n2, 0, 0, decide (tb % 2 = 1), sD, noRg⟩, by unfold FrM.cells; rw [q1, q2, q3]; rfl, new_data _ _ _ _ _ _ _ _ sD ?_ q5 (by decide) V1.out VX.out (Nat.zero_le _) (Nat.zero_le _), by show Fr.Frame.mk _ _ _ _ _ _ sD.b _ = _; rw [q4]; rfl⟩, (D3.out.setc (by omega) (fun p => by have := H.out.ok.lt (Nat.lt_of_lt_of_le p M3.out.2); rw [M3.out.1]; omega) (by omega) _).put (by omega) (fun p => by have := H.out.ok.lt (Nat.lt_of_lt_of_le p M3.out.2); rw [M3.out.1]; omega) (by omega) _, B3.out, M3.out.1, M3.out.2, grown_put (grown_setc G3.out (by omega) _) (Nat.le_refl _) _⟩
  unfold RowK
  rw [q1, q2, q3, q4]
  exact own_low OWN (by omega)
end Go.Proofs.YtimhbjlmpojhoaaGreatDoor
