/-
  The document's ack: an answer's ranges behind bytes.
-/
import Derived.Test.YtaighdppemnglaaGreatDoorGf9
import Derived.Test.YtaighdppemnglaaGreatDoorGf7
namespace Go.Proofs.YtaighdppemnglaaGreatDoor
open Go Go.RowKit

section
variable {P : Program} {a : Act} {o : Oper}
theorem run_subA (t t' : TypeId) (x y : Operand) (m r : Nat) (hr : r ≤ m) (hm : m < 18446744073709551616) (ho : o.op = .binOp .sub t x y t') (hx : a.eval x = .int .u64 (m : Int)) (hy : a.eval y = .int .u64 (r : Int)) (W : World) :
    (execOp a.eval o).run P W = .ok (.value (.int .u64 ((m - r : Nat) : Int))) W := by
  have hw : IntKind.u64.wrap ((m : Int) - (r : Int)) = ((m - r : Nat) : Int) := by rw [IntKind.wrap_u64]; omega
  unfold execOp
  simp only [ho, hx, hy]
  go_simp
theorem run_oneN (t t' : TypeId) (x y : Operand) (m : Nat) (hm : m < 140737488355328) (ho : o.op = .binOp .add t x y t') (hx : a.eval x = .int .i64 (m : Int)) (hy : a.eval y = .int .i64 1) (W : World) :
    (execOp a.eval o).run P W = .ok (.value (.int .i64 ((m + 1 : Nat) : Int))) W := by
  have hw : IntKind.i64.wrap ((m : Int) + 1) = ((m + 1 : Nat) : Int) := by rw [IntKind.wrap_i64]; omega
  unfold execOp
  simp only [ho, hx, hy]
  go_simp
end
def lstAA (xs : List By) (li : Nat) (rl : List (Nat × Nat)) (rlen j m : Nat) : Nat → List By
  | 0 => xs ++ ackAll li rl rlen m
  | _ => xs ++ ackAll li rl rlen m ++ Fr.numL ((gr rl (j + 1)).1 - (gr rl j).2 - 2)
def lstAB (xs : List By) (li : Nat) (rl : List (Nat × Nat)) (rlen j m : Nat) : Nat → List By
  | 0 => xs ++ ackAll li rl rlen m ++ Fr.numL ((gr rl (j + 1)).1 - (gr rl j).2 - 2)
  | _ => xs ++ ackAll li rl rlen m ++ Fr.numL ((gr rl (j + 1)).1 - (gr rl j).2 - 2) ++ Fr.numL ((gr rl j).2 - (gr rl j).1)
def depAA : Nat → List Nat
  | 3 => [2]
  | 4 => [1, 3]
  | 5 => [4]
  | 6 => [5]
  | 9 => [7, 8]
  | 10 => [9]
  | 11 => [10]
  | 12 => [6, 11]
  | 13 => [12]
  | 14 => [0, 13]
  | 15 => [0, 1, 2, 3, 4, 5, 6, 7, 8, 9, 10, 11, 12, 13, 14]
  | _ => []
def valAA (rg ro rlen rcap j : Nat) (rl : List (Nat × Nat)) : Nat → Value
  | 1 => .slice (some ⟨rg, ro, none⟩) rlen rcap
  | 2 => .int .i64 (j : Int)
  | 3 => .int .i64 ((j + 1 : Nat) : Int)
  | 4 => .pointer (some ⟨rg, ro + (j + 1) * 2, none⟩)
  | 5 => .pointer (some ⟨rg, ro + (j + 1) * 2, none⟩)
  | 6 => .int .u64 ((gr rl (j + 1)).1 : Int)
  | 7 => .slice (some ⟨rg, ro, none⟩) rlen rcap
  | 8 => .int .i64 (j : Int)
  | 9 => .pointer (some ⟨rg, ro + j * 2, none⟩)
  | 10 => .pointer (some ⟨rg, ro + j * 2 + 1, none⟩)
  | 11 => .int .u64 ((gr rl j).2 : Int)
  | 12 => .int .u64 (((gr rl (j + 1)).1 - (gr rl j).2 : Nat) : Int)
  | 13 => .int .u64 (((gr rl (j + 1)).1 - (gr rl j).2 - 2 : Nat) : Int)
  | _ => undef
def depAB : Nat → List Nat
  | 3 => [1, 2]
  | 4 => [3]
  | 5 => [4]
  | 8 => [6, 7]
  | 9 => [8]
  | 10 => [9]
  | 11 => [5, 10]
  | 12 => [0, 11]
  | 13 => [0, 1, 2, 3, 4, 5, 6, 7, 8, 9, 10, 11, 12]
  | _ => []
def valAB (rg ro rlen rcap j : Nat) (rl : List (Nat × Nat)) : Nat → Value
  | 1 => .slice (some ⟨rg, ro, none⟩) rlen rcap
  | 2 => .int .i64 (j : Int)
  | 3 => .pointer (some ⟨rg, ro + j * 2, none⟩)
  | 4 => .pointer (some ⟨rg, ro + j * 2 + 1, none⟩)
  | 5 => .int .u64 ((gr rl j).2 : Int)
  | 6 => .slice (some ⟨rg, ro, none⟩) rlen rcap
  | 7 => .int .i64 (j : Int)
  | 8 => .pointer (some ⟨rg, ro + j * 2, none⟩)
  | 9 => .pointer (some ⟨rg, ro + j * 2, none⟩)
  | 10 => .int .u64 ((gr rl j).1 : Int)
  | 11 => .int .u64 (((gr rl j).2 - (gr rl j).1 : Nat) : Int)
  | _ => undef

set_option maxRecDepth 20000 in
set_option maxHeartbeats 8000000 in
theorem ref_ack (v : Value) (base : Nat) (f : FrM) (xs : List By) (w : World) (hne : f.ranges.l ≠ []) (hset : Fr.setL f.ranges.l) (hown : RowK base xs w v) (hbase : base ≤ w.heap.size) (hl : xs.length ≤ 3000100) (hlim : f.limit ≤ 4611686018427387903) (hf : f.Ok w) (hrl : f.ranges.len ≤ 64) (hrb : 0 < f.ranges.len → f.ranges.g < base) :
    Calls Tryz.prog 85 #[v, .agg f.cells] w fun e w' => ∃ v', e = .returned v' ∧ RowK base (xs ++ Fr.ackB f.limit f.ranges.l.reverse) w' v' ∧ Keep base w w' := by
  obtain ⟨k, st, of, li, co, fi, da, ⟨ra, rlen, rcap, rg, ro, rl⟩⟩ := f
  simp only at hne hset hlim hrl hrb ⊢
  have hrlen : rl.length = rlen := hf.ranges.hb
  have hp : 0 < rlen := by rw [← hrlen]; exact List.length_pos_iff.2 hne
  have ea : ra = some ⟨rg, ro, none⟩ := hf.ranges.at_ hp
  subst ea
  have HE := veil (ackAll_eq li rl hne)
  rw [← HE.out, hrlen]
  have r0 : Row (w.alloc (.cells (FrM.mk k st of li co fi da ⟨some ⟨rg, ro, none⟩, rlen, rcap, rg, ro, rl⟩).cells 37)) w.heap.size 37 (FrM.mk k st of li co fi da ⟨some ⟨rg, ro, none⟩, rlen, rcap, rg, ro, rl⟩).cells := Row.new _ _ _
  have b0 : Below w.heap.size w (w.alloc (.cells (FrM.mk k st of li co fi da ⟨some ⟨rg, ro, none⟩, rlen, rcap, rg, ro, rl⟩).cells 37)) := (Below.refl _ w).alloc (Nat.le_refl _) _
  have rb1 : Row ((w.alloc (.cells (FrM.mk k st of li co fi da ⟨some ⟨rg, ro, none⟩, rlen, rcap, rg, ro, rl⟩).cells 37)).alloc (.cells #[.int .u64 ((gr rl (rlen - 1)).1 : Int), .int .u64 ((gr rl (rlen - 1)).2 : Int)] 114)) w.heap.size 37 (FrM.mk k st of li co fi da ⟨some ⟨rg, ro, none⟩, rlen, rcap, rg, ro, rl⟩).cells := r0.alloc _
  have rl1 : Row ((w.alloc (.cells (FrM.mk k st of li co fi da ⟨some ⟨rg, ro, none⟩, rlen, rcap, rg, ro, rl⟩).cells 37)).alloc (.cells #[.int .u64 ((gr rl (rlen - 1)).1 : Int), .int .u64 ((gr rl (rlen - 1)).2 : Int)] 114)) (w.heap.size + 1) 114 #[.int .u64 ((gr rl (rlen - 1)).1 : Int), .int .u64 ((gr rl (rlen - 1)).2 : Int)] := Row.new1 _ _ _ _
  have b1 : Below w.heap.size w ((w.alloc (.cells (FrM.mk k st of li co fi da ⟨some ⟨rg, ro, none⟩, rlen, rcap, rg, ro, rl⟩).cells 37)).alloc (.cells #[.int .u64 ((gr rl (rlen - 1)).1 : Int), .int .u64 ((gr rl (rlen - 1)).2 : Int)] 114)) := b0.alloc (by simp) _
  have c7 := (fr_cells r0).2.2.2.2.2.2.2
  simp only at c7
  obtain ⟨d1, d2⟩ := (hf.ranges.below b0).cell (rlen - 1) (show rlen - 1 < rlen by omega)
  simp only at d1 d2
  have hlast : (rlen : Int) - 1 = ((rlen - 1 : Nat) : Int) := by omega
  have hs1 := set_at rl hset (rlen - 1) (by omega)
  have HK1 := veil (Keep.of_below b1 hbase)
  have HO1 := veil (show RowK base xs ((w.alloc (.cells (FrM.mk k st of li co fi da ⟨some ⟨rg, ro, none⟩, rlen, rcap, rg, ro, rl⟩).cells 37)).alloc (.cells #[.int .u64 ((gr rl (rlen - 1)).1 : Int), .int .u64 ((gr rl (rlen - 1)).2 : Int)] 114)) v from own_below hown b1)
  have HB1 := veil (Nat.le_trans hbase b1.size)
  have HRB1 := veil rb1
  have HRL1 := veil rl1
  have HF := veil hf.ranges
  have HS := veil (set_at rl hset)
  have HSM := veil hf.ranges.small
  have HRB := veil hrb
  have hT := hs1.2.1
  have hFT := hs1.1
  clear hown r0 b0 hf hset rb1 rl1 b1 hs1 hrb
  refine (callsIn_wide (n := 4)).1 ?_
  refine callsIn_of_wp Tryz.func85 rfl trivial ?_ rfl
  simp only [Tryz.ntmps85, List.size_toArray, List.length_cons, List.length_nil, Nat.reduceAdd, Nat.reduceSub, Array.replicate_succ, Array.replicate_zero, List.push_toArray, List.append_toArray, List.nil_append, List.cons_append]
  gi_wp2_with fail
  clear c7 d1 d2
  refine ⟨trivial, (callsIn_wide.2 (ref_numberK v base _ xs _ hT HO1.out HB1.out (Nat.le_trans hl (by decide)))).mono ?_⟩
  rintro e2 w2 ⟨v2, rfl, ho2, hk2⟩
  have HO2 := veil ho2
  have HK2 := veil (HK1.out.trans hk2)
  have HB2 := veil (Nat.le_trans HB1.out hk2.size)
  have HRB2 := veil (hk2.row (by decide) HRB1.out)
  have HRL2 := veil (hk2.row (by decide) HRL1.out)
  have c3 := (fr_cells HRB2.out).2.2.2.1
  simp only at c3
  clear ho2 hk2 HO1 HK1 HB1 HRB1 HRL1
  gi_wp2_with fail
  clear c3
  refine ⟨trivial, (callsIn_wide.2 (ref_numberK v2 base li _ w2 hlim HO2.out HB2.out (Nat.le_trans (len_num hl) (by decide)))).mono ?_⟩
  rintro e3 w3 ⟨v3, rfl, ho3, hk3⟩
  have HO3 := veil ho3
  have HK3 := veil (HK2.out.trans hk3)
  have HB3 := veil (Nat.le_trans HB2.out hk3.size)
  have HRL3 := veil (hk3.row (by decide) HRL2.out)
  clear ho3 hk3 HO2 HK2 HB2 HRB2 HRL2
  gi_wp2_with fail
  refine ⟨trivial, (callsIn_wide.2 (ref_numberK v3 base (rlen - 1) _ w3 (by omega) HO3.out HB3.out (Nat.le_trans (len_num (len_num hl)) (by decide)))).mono ?_⟩
  rintro e4 w4 ⟨v4, rfl, ho4, hk4⟩
  have HO4 := veil ho4
  have HK4 := veil (HK3.out.trans hk4)
  have HB4 := veil (Nat.le_trans HB3.out hk4.size)
  have rl4 := hk4.row (by decide) HRL3.out
  have l0 : w4.cell? ⟨w.heap.size + 1, 0, none⟩ = some (.int .u64 ((gr rl (rlen - 1)).1 : Int)) := rl4.cell 0
  have l1 : w4.cell? ⟨w.heap.size + 1, 1, none⟩ = some (.int .u64 ((gr rl (rlen - 1)).2 : Int)) := rl4.cell 1
  have hw4 : IntKind.u64.wrap (((gr rl (rlen - 1)).2 : Int) - ((gr rl (rlen - 1)).1 : Int)) = (((gr rl (rlen - 1)).2 - (gr rl (rlen - 1)).1 : Nat) : Int) := by rw [IntKind.wrap_u64]; omega
  clear ho4 hk4 HO3 HK3 HB3 HRL3 rl4
  gi_wp2_with fail
  clear l0 l1 hw4
  refine ⟨trivial, (callsIn_wide.2 (ref_numberK v4 base ((gr rl (rlen - 1)).2 - (gr rl (rlen - 1)).1) _ w4 (by omega) HO4.out HB4.out (Nat.le_trans (len_num (len_num (len_num hl))) (by decide)))).mono ?_⟩
  rintro e5 w5 ⟨v5, rfl, ho5, hk5⟩
  have HO5 := veil (show RowK base (xs ++ ackAll li rl rlen 0) w5 v5 by
    have e : xs ++ ackAll li rl rlen 0 = xs ++ Fr.numL (gr rl (rlen - 1)).2 ++ Fr.numL li ++ Fr.numL (rlen - 1) ++ Fr.numL ((gr rl (rlen - 1)).2 - (gr rl (rlen - 1)).1) := by unfold ackAll; rw [ackU, List.append_nil]; simp only [List.append_assoc]
    rw [e]; exact ho5)
  have HK5 := veil (HK4.out.trans hk5)
  clear ho5 hk5 HO4 HK4 HB4 hlast hT hFT
  gi_wp2_with fail
  gi_loopw [0, 7] (fun b i wr => ∃ m : Nat, m + 1 ≤ rlen ∧ i = .int .i64 ((rlen : Int) - 2 - m) ∧ RowK base (xs ++ ackAll li rl rlen m) wr b ∧ Keep base w wr)
    (fun _ i _ => (intOf i + 1).toNat)
  case atStart => exact ⟨0, by omega, by simp, HO5.out, HK5.out⟩
  case round =>
    clear HO5 HK5
    obtain ⟨m, hm, rfl, hrow, hkeep⟩ := hrel
    by_cases hlt : m + 1 < rlen
    · obtain ⟨j, hj⟩ : ∃ j : Nat, j + 2 + m = rlen := ⟨rlen - 2 - m, by omega⟩
      have hij : (rlen : Int) - 2 - m = (j : Int) := by omega
      rw [hij]
      clear hij
      have hge : decide ((j : Int) ≥ 0) = true := by simp
      have hge' : decide ((0 : Int) ≤ (j : Int)) = true := by simp
      obtain ⟨s1, s2, s3⟩ := HS.out j (by omega)
      have s3 := s3 (by omega)
      obtain ⟨q1, q2, _⟩ := HS.out (j + 1) (by omega)
      have hlenA : (xs ++ ackAll li rl rlen m).length ≤ 3002000 := by
        have := ackAll_len li rl rlen m
        rw [List.length_append]
        omega
      have HRU := veil hrow
      have HKU := veil hkeep
      have HBU := veil (Nat.le_trans hbase hkeep.size)
      have HOKU := veil (HF.out.keep hkeep HRB.out)
      clear hrow hkeep
      gi_wp2_with fail
      refine wpIn_region_any (by kernel_rfl) ?_
      refine anyIn_chain (w0 := wr) (Keep base) (fun _ _ _ h1 h2 => h1.trans h2) (valAA rg ro rlen rcap j rl) (fun k W u => RowK base (lstAA xs li rl rlen j m (k - 1)) W u) u0 [0, 14, 15] [44, 45, 46, 47, 48, 49, 50, 51, 52, 53, 54, 55, 56, 57, 58, 0] depAA (by kernel_rfl) rfl (by decide) (by decide) ?ordAA (own_below HRU.out ((Below.refl _ _).drew)) (Keep.of_below ((Below.refl _ _).drew) HBU.out) ?fixAA ?calAA ?doneAA (by decide)
      case ordAA =>
        intro k i j hj hi
        match k with
        | 0 => obtain rfl := Option.some.inj hj; obtain rfl := Option.some.inj hi; decide
        | 1 => obtain rfl := Option.some.inj hj; obtain rfl := Option.some.inj hi; decide
        | _ + 2 => simp at hi
      case fixAA =>
        intro x W i d hW hdi hni hfx _
        have okW := HOKU.out.keep hW HRB.out
        match i, hdi, hni, hfx with
        | 0, hdi, hni, hfx => exact absurd (by decide) hni
        | 1, hdi, hni, hfx =>
          obtain rfl := Option.some.inj hdi
          exact OI_value rfl rfl (about_none (by intro c h; cases h)) (by intro c h; cases h) (valAA rg ro rlen rcap j rl 1) W (by kernel_rfl) ⟨rfl, rfl⟩
        | 2, hdi, hni, hfx =>
          obtain rfl := Option.some.inj hdi
          exact OI_value rfl rfl (about_none (by intro c h; cases h)) (by intro c h; cases h) (valAA rg ro rlen rcap j rl 2) W (by kernel_rfl) ⟨rfl, rfl⟩
        | 3, hdi, hni, hfx =>
          obtain rfl := Option.some.inj hdi
          rw [updV_self (hfx 2 (by decide) (by decide))]
          exact OI_value rfl rfl (about_none (by intro c h; cases h)) (by intro c h; cases h) _ W (run_oneN _ _ _ _ j (by omega) rfl (by kernel_rfl) (by kernel_rfl) W) ⟨rfl, rfl⟩
        | 4, hdi, hni, hfx =>
          obtain rfl := Option.some.inj hdi
          rw [updV_self (hfx 1 (by decide) (by decide)), updV_self (show updV x 1 _ 3 = _ from hfx 3 (by decide) (by decide))]
          exact OI_value rfl rfl (about_none (by intro c h; cases h)) (by intro c h; cases h) _ W (run_atF 35 114 2 _ _ rg ro rlen rcap (j + 1) rfl (by kernel_rfl) (by kernel_rfl) Tryz.underlying35 (by kernel_rfl) (by omega) W) ⟨rfl, rfl⟩
        | 5, hdi, hni, hfx =>
          obtain rfl := Option.some.inj hdi
          rw [updV_self (hfx 4 (by decide) (by decide))]
          exact OI_value rfl rfl (about_none (by intro c h; cases h)) (by intro c h; cases h) (valAA rg ro rlen rcap j rl 5) W (by kernel_rfl) ⟨rfl, rfl⟩
        | 6, hdi, hni, hfx =>
          obtain rfl := Option.some.inj hdi
          rw [updV_self (hfx 5 (by decide) (by decide))]
          exact OI_value rfl rfl (about_none (by intro c h; cases h)) (by intro c h; cases h) _ W (run_cellF 34 _ ⟨rg, ro + (j + 1) * 2, none⟩ _ _ rfl (by kernel_rfl) Tryz.underlying34 rfl W (okW.cell (j + 1) (show (j + 1) < rlen by omega)).1) ⟨rfl, rfl⟩
        | 7, hdi, hni, hfx =>
          obtain rfl := Option.some.inj hdi
          exact OI_value rfl rfl (about_none (by intro c h; cases h)) (by intro c h; cases h) (valAA rg ro rlen rcap j rl 7) W (by kernel_rfl) ⟨rfl, rfl⟩
        | 8, hdi, hni, hfx =>
          obtain rfl := Option.some.inj hdi
          exact OI_value rfl rfl (about_none (by intro c h; cases h)) (by intro c h; cases h) (valAA rg ro rlen rcap j rl 8) W (by kernel_rfl) ⟨rfl, rfl⟩
        | 9, hdi, hni, hfx =>
          obtain rfl := Option.some.inj hdi
          rw [updV_self (hfx 7 (by decide) (by decide)), updV_self (show updV x 7 _ 8 = _ from hfx 8 (by decide) (by decide))]
          exact OI_value rfl rfl (about_none (by intro c h; cases h)) (by intro c h; cases h) _ W (run_atF 35 114 2 _ _ rg ro rlen rcap j rfl (by kernel_rfl) (by kernel_rfl) Tryz.underlying35 (by kernel_rfl) (by omega) W) ⟨rfl, rfl⟩
        | 10, hdi, hni, hfx =>
          obtain rfl := Option.some.inj hdi
          rw [updV_self (hfx 9 (by decide) (by decide))]
          exact OI_value rfl rfl (about_none (by intro c h; cases h)) (by intro c h; cases h) (valAA rg ro rlen rcap j rl 10) W (by kernel_rfl) ⟨rfl, rfl⟩
        | 11, hdi, hni, hfx =>
          obtain rfl := Option.some.inj hdi
          rw [updV_self (hfx 10 (by decide) (by decide))]
          exact OI_value rfl rfl (about_none (by intro c h; cases h)) (by intro c h; cases h) _ W (run_cellF 34 _ ⟨rg, ro + j * 2 + 1, none⟩ _ _ rfl (by kernel_rfl) Tryz.underlying34 rfl W (okW.cell j (show j < rlen by omega)).2) ⟨rfl, rfl⟩
        | 12, hdi, hni, hfx =>
          obtain rfl := Option.some.inj hdi
          rw [updV_self (hfx 6 (by decide) (by decide)), updV_self (show updV x 6 _ 11 = _ from hfx 11 (by decide) (by decide))]
          exact OI_value rfl rfl (about_none (by intro c h; cases h)) (by intro c h; cases h) _ W (run_subA _ _ _ _ (gr rl (j + 1)).1 (gr rl j).2 (by omega) (by omega) rfl (by kernel_rfl) (by kernel_rfl) W) ⟨rfl, rfl⟩
        | 13, hdi, hni, hfx =>
          obtain rfl := Option.some.inj hdi
          rw [updV_self (hfx 12 (by decide) (by decide))]
          exact OI_value rfl rfl (about_none (by intro c h; cases h)) (by intro c h; cases h) _ W (run_subA _ _ _ _ ((gr rl (j + 1)).1 - (gr rl j).2) 2 (by omega) (by omega) rfl (by kernel_rfl) (by kernel_rfl) W) ⟨rfl, rfl⟩
        | 14, hdi, hni, hfx => exact absurd (by decide) hni
        | 15, hdi, hni, hfx => exact absurd (by decide) hni
        | _ + 16, hdi, _, _ => simp at hdi
      case calAA =>
        intro x W k i d u hW hck hdi hfx hsl hu0 hup hR
        have hbW : base ≤ W.heap.size := Nat.le_trans HBU.out hW.size
        match k, hck, hu0, hup, hR with
        | 0, hck, hu0, hup, hR =>
          obtain rfl := Option.some.inj hck
          obtain rfl := Option.some.inj hdi
          obtain rfl := hu0 rfl
          rw [updV_self (show x 15 = u from hsl 15 (by decide))]
          exact OI_value rfl rfl (about_none (by intro c h; cases h)) (by intro c h; cases h) u W (by kernel_rfl) ⟨u, rfl, Keep.refl _ _, hR⟩
        | 1, hck, hu0, hup, hR =>
          obtain rfl := Option.some.inj hck
          obtain rfl := Option.some.inj hdi
          obtain rfl := hup 0 0 rfl rfl
          refine OI_call rfl rfl (by intro c h; cases h) 84 #[x 0, x 13] (fun _ _ => trivial) (by kernel_rfl) (by decide) ?_
          rw [show x 13 = valAA rg ro rlen rcap j rl 13 from hfx 13 (by decide) (by decide)]
          refine (callsIn_wide.2 (ref_numberK (x 0) base _ _ W (by omega) hR hbW (Nat.le_trans hlenA (by decide)))).mono ?_
          rintro e W' ⟨v', rfl, ho, hk⟩
          exact ⟨_, rfl, v', rfl, hk, ho⟩
        | 2, hck, hu0, hup, hR =>
          obtain rfl := Option.some.inj hck
          obtain rfl := Option.some.inj hdi
          obtain rfl := hup 1 14 rfl rfl
          exact OI_value rfl rfl (about_none (by intro c h; cases h)) (by intro c h; cases h) (x 14) W (by kernel_rfl) ⟨_, rfl, Keep.refl _ _, hR⟩
        | _ + 3, hck, _, _, _ => simp at hck
      case doneAA =>
        intro x W u hW hfx hup hR
        have hu := hup 2 15 rfl rfl
        have HRU2 := veil hR
        have HKU2 := veil (HKU.out.trans hW)
        have HBU2 := veil (Nat.le_trans HBU.out hW.size)
        have HOKU2 := veil (HOKU.out.keep hW HRB.out)
        have HFX := veil hfx
        clear hR hfx hup hW HRU HKU HBU HOKU
        simp only [putsV, Act.put, List.setIfInBounds_toArray, List.set_cons_succ, List.set_cons_zero, Nat.reduceAdd]
        rw [hu]
        clear hu HFX
        have HRU := HRU2
        have HKU := HKU2
        have HBU := HBU2
        have HOKU := HOKU2
        clear HRU2 HKU2 HBU2 HOKU2
        gi_wp2_with fail
        refine wpIn_region_any (by kernel_rfl) ?_
        refine anyIn_chain (w0 := W) (Keep base) (fun _ _ _ h1 h2 => h1.trans h2) (valAB rg ro rlen rcap j rl) (fun k W u => RowK base (lstAB xs li rl rlen j m (k - 1)) W u) u [0, 12, 13] [59, 60, 61, 62, 63, 64, 65, 66, 67, 68, 69, 70, 71, 0] depAB (by kernel_rfl) rfl (by decide) (by decide) ?ordAB (own_below HRU.out ((Below.refl _ _).drew)) (Keep.of_below ((Below.refl _ _).drew) HBU.out) ?fixAB ?calAB ?doneAB (by decide)
        case ordAB =>
          intro k i j hj hi
          match k with
          | 0 => obtain rfl := Option.some.inj hj; obtain rfl := Option.some.inj hi; decide
          | 1 => obtain rfl := Option.some.inj hj; obtain rfl := Option.some.inj hi; decide
          | _ + 2 => simp at hi
        case fixAB =>
          intro x W i d hW hdi hni hfx _
          have okW := HOKU.out.keep hW HRB.out
          match i, hdi, hni, hfx with
          | 0, hdi, hni, hfx => exact absurd (by decide) hni
          | 1, hdi, hni, hfx =>
            obtain rfl := Option.some.inj hdi
            exact OI_value rfl rfl (about_none (by intro c h; cases h)) (by intro c h; cases h) (valAB rg ro rlen rcap j rl 1) W (by kernel_rfl) ⟨rfl, rfl⟩
          | 2, hdi, hni, hfx =>
            obtain rfl := Option.some.inj hdi
            exact OI_value rfl rfl (about_none (by intro c h; cases h)) (by intro c h; cases h) (valAB rg ro rlen rcap j rl 2) W (by kernel_rfl) ⟨rfl, rfl⟩
          | 3, hdi, hni, hfx =>
            obtain rfl := Option.some.inj hdi
            rw [updV_self (hfx 1 (by decide) (by decide)), updV_self (show updV x 1 _ 2 = _ from hfx 2 (by decide) (by decide))]
            exact OI_value rfl rfl (about_none (by intro c h; cases h)) (by intro c h; cases h) _ W (run_atF 35 114 2 _ _ rg ro rlen rcap j rfl (by kernel_rfl) (by kernel_rfl) Tryz.underlying35 (by kernel_rfl) (by omega) W) ⟨rfl, rfl⟩
          | 4, hdi, hni, hfx =>
            obtain rfl := Option.some.inj hdi
            rw [updV_self (hfx 3 (by decide) (by decide))]
            exact OI_value rfl rfl (about_none (by intro c h; cases h)) (by intro c h; cases h) (valAB rg ro rlen rcap j rl 4) W (by kernel_rfl) ⟨rfl, rfl⟩
          | 5, hdi, hni, hfx =>
            obtain rfl := Option.some.inj hdi
            rw [updV_self (hfx 4 (by decide) (by decide))]
            exact OI_value rfl rfl (about_none (by intro c h; cases h)) (by intro c h; cases h) _ W (run_cellF 34 _ ⟨rg, ro + j * 2 + 1, none⟩ _ _ rfl (by kernel_rfl) Tryz.underlying34 rfl W (okW.cell j (show j < rlen by omega)).2) ⟨rfl, rfl⟩
          | 6, hdi, hni, hfx =>
            obtain rfl := Option.some.inj hdi
            exact OI_value rfl rfl (about_none (by intro c h; cases h)) (by intro c h; cases h) (valAB rg ro rlen rcap j rl 6) W (by kernel_rfl) ⟨rfl, rfl⟩
          | 7, hdi, hni, hfx =>
            obtain rfl := Option.some.inj hdi
            exact OI_value rfl rfl (about_none (by intro c h; cases h)) (by intro c h; cases h) (valAB rg ro rlen rcap j rl 7) W (by kernel_rfl) ⟨rfl, rfl⟩
          | 8, hdi, hni, hfx =>
            obtain rfl := Option.some.inj hdi
            rw [updV_self (hfx 6 (by decide) (by decide)), updV_self (show updV x 6 _ 7 = _ from hfx 7 (by decide) (by decide))]
            exact OI_value rfl rfl (about_none (by intro c h; cases h)) (by intro c h; cases h) _ W (run_atF 35 114 2 _ _ rg ro rlen rcap j rfl (by kernel_rfl) (by kernel_rfl) Tryz.underlying35 (by kernel_rfl) (by omega) W) ⟨rfl, rfl⟩
          | 9, hdi, hni, hfx =>
            obtain rfl := Option.some.inj hdi
            rw [updV_self (hfx 8 (by decide) (by decide))]
            exact OI_value rfl rfl (about_none (by intro c h; cases h)) (by intro c h; cases h) (valAB rg ro rlen rcap j rl 9) W (by kernel_rfl) ⟨rfl, rfl⟩
          | 10, hdi, hni, hfx =>
            obtain rfl := Option.some.inj hdi
            rw [updV_self (hfx 9 (by decide) (by decide))]
            exact OI_value rfl rfl (about_none (by intro c h; cases h)) (by intro c h; cases h) _ W (run_cellF 34 _ ⟨rg, ro + j * 2, none⟩ _ _ rfl (by kernel_rfl) Tryz.underlying34 rfl W (okW.cell j (show j < rlen by omega)).1) ⟨rfl, rfl⟩
          | 11, hdi, hni, hfx =>
            obtain rfl := Option.some.inj hdi
            rw [updV_self (hfx 5 (by decide) (by decide)), updV_self (show updV x 5 _ 10 = _ from hfx 10 (by decide) (by decide))]
            exact OI_value rfl rfl (about_none (by intro c h; cases h)) (by intro c h; cases h) _ W (run_subA _ _ _ _ (gr rl j).2 (gr rl j).1 (by omega) (by omega) rfl (by kernel_rfl) (by kernel_rfl) W) ⟨rfl, rfl⟩
          | 12, hdi, hni, hfx => exact absurd (by decide) hni
          | 13, hdi, hni, hfx => exact absurd (by decide) hni
          | _ + 14, hdi, _, _ => simp at hdi
        case calAB =>
          intro x W k i d u hW hck hdi hfx hsl hu0 hup hR
          have hbW : base ≤ W.heap.size := Nat.le_trans HBU.out hW.size
          match k, hck, hu0, hup, hR with
          | 0, hck, hu0, hup, hR =>
            obtain rfl := Option.some.inj hck
            obtain rfl := Option.some.inj hdi
            obtain rfl := hu0 rfl
            rw [updV_self (show x 13 = u from hsl 13 (by decide))]
            exact OI_value rfl rfl (about_none (by intro c h; cases h)) (by intro c h; cases h) u W (by kernel_rfl) ⟨u, rfl, Keep.refl _ _, hR⟩
          | 1, hck, hu0, hup, hR =>
            obtain rfl := Option.some.inj hck
            obtain rfl := Option.some.inj hdi
            obtain rfl := hup 0 0 rfl rfl
            refine OI_call rfl rfl (by intro c h; cases h) 84 #[x 0, x 11] (fun _ _ => trivial) (by kernel_rfl) (by decide) ?_
            rw [show x 11 = valAB rg ro rlen rcap j rl 11 from hfx 11 (by decide) (by decide)]
            refine (callsIn_wide.2 (ref_numberK (x 0) base _ _ W (by omega) hR hbW (Nat.le_trans (len_num hlenA) (by decide)))).mono ?_
            rintro e W' ⟨v', rfl, ho, hk⟩
            exact ⟨_, rfl, v', rfl, hk, ho⟩
          | 2, hck, hu0, hup, hR =>
            obtain rfl := Option.some.inj hck
            obtain rfl := Option.some.inj hdi
            obtain rfl := hup 1 12 rfl rfl
            exact OI_value rfl rfl (about_none (by intro c h; cases h)) (by intro c h; cases h) (x 12) W (by kernel_rfl) ⟨_, rfl, Keep.refl _ _, hR⟩
          | _ + 3, hck, _, _, _ => simp at hck
        case doneAB =>
          intro x W' u' hW hfx hup hR
          have hu := hup 2 13 rfl rfl
          have HRU2 := veil hR
          have HKU2 := veil (HKU.out.trans hW)
          have HFX := veil hfx
          clear hR hfx hup hW HRU HKU HBU HOKU
          simp only [putsV, Act.put, List.setIfInBounds_toArray, List.set_cons_succ, List.set_cons_zero, Nat.reduceAdd]
          rw [hu]
          clear hu HFX
          gi_wp2_with fail
          go_roundw
          case rel =>
            refine ⟨m + 1, by omega, ?_, ?_, HKU2.out⟩
            · go_num
            · have e := ackAll_succ li rl m j (by omega) xs
              rw [hrlen] at e
              rw [← e]
              exact HRU2.out
          case measure => simp [intOf]
    · have hm1 : m = rlen - 1 := by omega
      have hij : (rlen : Int) - 2 - m = -1 := by omega
      rw [hij]
      clear hij
      rw [hm1] at hrow
      have HRU := veil hrow
      have HKU := veil hkeep
      clear hrow hkeep hm1
      gi_wp2_with fail
      go_ret
      exact ⟨_, rfl, HRU.out, HKU.out⟩
end Go.Proofs.YtaighdppemnglaaGreatDoor
