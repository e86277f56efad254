/-
  StreamPlays: the walk. Written by mksp.py.
-/
import Derived.Test.YtehadfidenejdaaGreatDoorGp32
import Derived.Deep.CutBlock
namespace Go.Proofs.YtehadfidenejdaaGreatDoor
open Go Go.RowKit

namespace Sr
open Sd
theorem store_rowN {ops : Array Oper} {rest : List Oper} {op : Oper} {a : Act} {w : World} {Q : Exit → Act → World → Prop} (hgd : op.guard = none) (hds : op.dst = none) (ty : TypeId) (x y : Operand) (ho : op.op = .store ty x y)
    (g : Nat) (cs : Array Value) (hx : a.eval x = .pointer (some ⟨g, 0, none⟩)) (hy : a.eval y = .agg cs) (t : TypeId) (old : Array Value) (hg : Row w g t old)
    (n : Nat) (hi : (Tryz.prog.info? ty).map (·.size) = some n) (hs : old.size = n) (hc : cs.size = n) (h1 : cs.all (·.oneCell') = true)
    (h : wpList Tryz.prog ops Q rest a (w.setRow g cs)) : wpList Tryz.prog ops Q (op :: rest) a w :=
  store_row hgd ty x y ho g cs hx hy t old hg n hi hs hc h1 (by rw [hds]; exact h)
theorem rsp_two {w W : World} {g h B nn : Nat} {s s' : Snd} {v : Value} {l : List FrM} {bx bg bh g1 g2 : Nat} {cs : Array Value} {G : FrM} {E : (Nat → Nat → Prop) → World → Prop} (x : RSp w g h B nn s s' v l bx bg bh g1 g2 cs G E 2 W) :
    ∃ z, SpI w W g h B nn s' s' v l z ∧ RvI w W z bx bg bh g1 g2 cs G ∧ E z W := x
theorem wpL_val {ops : Array Oper} {rest : List Oper} {o : Oper} {a : Act} {w : World} {Q : Exit → Act → World → Prop} (hgd : o.guard = none) (v : Value) (w' : World) (he : (execOp a.eval o).run Tryz.prog w = .ok (.value v) w')
    (k : wpList Tryz.prog ops Q rest (a.put o.dst v) w') : wpList Tryz.prog ops Q (o :: rest) a w :=
  wpList_plain hgd fun _ hK => by
    unfold Oper.wp
    rw [he]
    exact hK _ _ k
theorem twin_cells_eq (f : FrM) (g1 g2 : Nat) : (f.twin g1 g2).cells = #[.int .u8 (f.kind : Int), .int .u64 (f.stream : Int), .int .u64 (f.offset : Int), .int .u64 (f.limit : Int), .int .u64 (f.code : Int), .bool f.fin, .slice (some ⟨g1, 0, none⟩) f.data.len (f.data.len + 1 : Nat), .slice (some ⟨g2, 0, none⟩) f.ranges.len (f.ranges.len + 1 : Nat)] := rfl
def depRa : Nat → List Nat
  | 2 => [1]
  | 3 => [0, 2]
  | 6 => [5]
  | 7 => [3, 4, 6]
  | 8 => [3, 7]
  | _ => []
def dsRa : List Nat := [253, 254, 255, 256, 257, 258, 259, 260, 261]
def valRa (g h bx fresh : Nat) : Nat → Value
  | 0 => .pointer (some ⟨g, 0, none⟩)
  | 1 => .pointer (some ⟨bx, 4, none⟩)
  | 2 => .int .u64 (fresh : Int)
  | 3 => .int .i64 (raiseE fresh : Nat)
  | 4 => .pointer (some ⟨h, 0, none⟩)
  | 5 => .pointer (some ⟨bx, 4, none⟩)
  | 6 => .int .u64 (fresh : Int)
  | 7 => .int .i64 (raiseE fresh : Nat)
  | 8 => .bool false
  | _ => undef
def depGo : Nat → List Nat
  | 2 => [0, 1]
  | 5 => [2, 3, 4]
  | 6 => [2, 5]
  | _ => []
def dsGo : List Nat := [234, 235, 236, 237, 238, 239, 240]
def valGo (g h g1 g2 : Nat) (s : Snd) (f : FrM) : Nat → Value
  | 0 => .pointer (some ⟨g, 0, none⟩)
  | 1 => .agg (f.twin g1 g2).cells
  | 2 => .int .i64 (hE s f : Nat)
  | 3 => .pointer (some ⟨h, 0, none⟩)
  | 4 => .agg f.cells
  | 5 => .int .i64 (hE s f : Nat)
  | 6 => .bool false
  | _ => undef
def depLoS : Nat → List Nat
  | 2 => [0, 1]
  | 5 => [2, 3, 4]
  | 6 => [2, 5]
  | _ => []
def dsLoS : List Nat := [244, 245, 246, 247, 248, 249, 250]
def valLoS (g h g1 g2 : Nat) (s : Snd) (f : FrM) : Nat → Value
  | 0 => .pointer (some ⟨g, 0, none⟩)
  | 1 => .agg (f.twin g1 g2).cells
  | 2 => .int .i64 (hE s f : Nat)
  | 3 => .pointer (some ⟨h, 0, none⟩)
  | 4 => .agg f.cells
  | 5 => .int .i64 (hE s f : Nat)
  | 6 => .bool false
  | _ => undef
def depWr : Nat → List Nat
  | 3 => [2]
  | 4 => [0, 1, 3]
  | 7 => [6]
  | 9 => [8]
  | 10 => [4, 5, 7, 9]
  | 11 => [4, 10]
  | 12 => [10, 11]
  | 13 => [12]
  | 14 => [12]
  | 15 => [12, 14]
  | 16 => [12, 13, 15]
  | 17 => [12, 16]
  | 18 => [12, 17]
  | _ => []
def dsWr : List Nat := [174, 175, 176, 177, 178, 179, 180, 181, 182, 183, 184, 185, 186, 187, 188, 189, 190, 191, 192]
def valWr (g h bx nb : Nat) (bb : SL) (last : Bool) (s : Snd) : Nat → Value
  | 0 => .pointer (some ⟨g, 0, none⟩)
  | 1 => .slice (some ⟨nb, 0, none⟩) bb.len (bb.len + 1)
  | 2 => .pointer (some ⟨bx, 2, none⟩)
  | 3 => .bool last
  | 4 => .int .i64 (writeE s bb.len : Nat)
  | 5 => .pointer (some ⟨h, 0, none⟩)
  | 6 => .pointer (some ⟨bx, 1, none⟩)
  | 7 => .slice bb.a bb.len bb.cap
  | 8 => .pointer (some ⟨bx, 2, none⟩)
  | 9 => .bool last
  | 10 => .int .i64 (writeE s bb.len : Nat)
  | 11 => .bool false
  | 12 => .bool false
  | 13 => .slice (some ⟨nb, 0, none⟩) bb.len (bb.len + 1)
  | 14 => .pointer (some ⟨bx, 1, none⟩)
  | 15 => .slice bb.a bb.len bb.cap
  | 16 => .bool true
  | 17 => .bool false
  | 18 => .bool false
  | _ => undef
theorem below_drewN' {w w' : World} {m : Nat} (h : Below (w.drewN m).heap.size (w.drewN m) w') : Below w.heap.size w w' := (below_drewN (Below.refl w.heap.size w) m).trans (h.mono (below_drewN (Below.refl w.heap.size w) m).size)
set_option maxRecDepth 200000 in
set_option maxHeartbeats 200000000 in
theorem plays_walk (id credit : Nat) (acts : S16) (w : World) (hid : id < 18446744073709551616) (hcr : credit < 18446744073709551616) (hacts : acts.Ok w) (hl : acts.len ≤ 1048576) (hrl : ∀ j, j < acts.len → (gc acts.l j).Small 1048576) :
    Calls Tryz.prog 3 #[.int .u64 (id : Int), .int .u64 (credit : Int), .slice acts.a acts.len acts.cap] w fun e w' => e = .returned (.bool true) ∧ Below w.heap.size w w' := by
  obtain ⟨aa, n, acap, ag, aoff, al⟩ := acts
  simp only at hl hrl ⊢
  have HA := veil hacts
  have HRL := veil hrl
  have HID := veil (show id < 18446744073709551616 ∧ credit < 18446744073709551616 from ⟨hid, hcr⟩)
  have HNL := veil hl
  clear hacts hrl hid hcr hl
  go_enter Tryz.func3, Tryz.ntmps3
  go_wp2_with fail
  go_loopw [7, 8] (fun nv iv wr => ∃ k N : Nat, k ≤ n ∧ iv = .int .i64 (k : Int) ∧ nv = .int .i64 (N : Int) ∧ k ≤ N ∧ N ≤ k * 3145729 ∧ (∀ j, j < k → (gc al j).Small N) ∧ ∃ m, wr = w.drewN m)
    (fun _ iv _ => n - (intOf iv).toNat)
  case atStart => exact ⟨0, 0, Nat.zero_le _, rfl, rfl, Nat.le_refl _, Nat.zero_le _, fun j hj => absurd hj (Nat.not_lt_zero _), 0, rfl⟩
  case round =>
    obtain ⟨k, N, hk, rfl, rfl, hkN, hNk, hall, m, rfl⟩ := hrel
    by_cases hlt : k < n
    · have hat : aa = some ⟨ag, aoff, none⟩ := HA.out.at_ (show 0 < n by omega)
      subst hat
      have hc := HA.out.cell k hlt
      have hL := HRL.out k hlt
      simp only at hc
      obtain ⟨a, hae⟩ : ∃ a, gc al k = a := ⟨_, rfl⟩
      rw [hae] at hc hL
      have HS := veil (show ∀ j, j < k + 1 → (gc al j).Small (N + 1 + a.b.len + a.f.data.len + a.f.ranges.len) from fun j hj => by
        rcases Nat.lt_or_ge j k with e | e
        · have := hall j e
          exact ⟨by have := this.b; omega, by have := this.d; omega, by have := this.r; omega⟩
        · obtain rfl : j = k := by omega
          rw [hae]
          exact ⟨by omega, by omega, by omega⟩)
      clear hae hall
      obtain ⟨kd, ⟨ba, L1, bc, bg, bo, bl⟩, last, num, fresh, ⟨fk, fs, fo, fli, fcd, ffn, ⟨da, L2, dc, dg, dd, dl⟩, ⟨ra, L3, rc, rg, ro, rl⟩⟩⟩ := a
      have x1 : w.cell? ⟨ag, aoff + k * 13 + 1, none⟩ = some (.slice ba L1 bc) := hc 1 _ rfl
      have x11 : w.cell? ⟨ag, aoff + k * 13 + 11, none⟩ = some (.slice da L2 dc) := hc 11 _ rfl
      have x12 : w.cell? ⟨ag, aoff + k * 13 + 12, none⟩ = some (.slice ra L3 rc) := hc 12 _ rfl
      have q1 := hL.b
      have q2 := hL.d
      have q3 := hL.r
      simp only at q1 q2 q3 HS
      have w1 : IntKind.i64.wrap ((N : Int) + 1) = ((N + 1 : Nat) : Int) := by have := HNL.out; rw [IntKind.wrap_i64]; omega
      have w2 : IntKind.i64.wrap (((N + 1 : Nat) : Int) + (L1 : Int)) = ((N + 1 + L1 : Nat) : Int) := by have := HNL.out; rw [IntKind.wrap_i64]; omega
      have w3 : IntKind.i64.wrap (((N + 1 + L1 : Nat) : Int) + (L2 : Int)) = ((N + 1 + L1 + L2 : Nat) : Int) := by have := HNL.out; rw [IntKind.wrap_i64]; omega
      have w4 : IntKind.i64.wrap (((N + 1 + L1 + L2 : Nat) : Int) + (L3 : Int)) = ((N + 1 + L1 + L2 + L3 : Nat) : Int) := by have := HNL.out; rw [IntKind.wrap_i64]; omega
      have w5 : IntKind.i64.wrap ((k : Int) + 1) = ((k + 1 : Nat) : Int) := by have := HNL.out; rw [IntKind.wrap_i64]; omega
      have HF := veil (show k + 1 ≤ N + 1 + L1 + L2 + L3 ∧ N + 1 + L1 + L2 + L3 ≤ (k + 1) * 3145729 by omega)
      have HLT := veil hlt
      have bI : (k : Int) < (n : Int) := by omega
      clear hc hL hNk hkN q1 q2 q3
      generalize N + 1 = N1 at *
      generalize N1 + L1 = N2 at *
      generalize N2 + L2 = N3 at *
      generalize N3 + L3 = N4 at *
      go_wp2_with fail
      go_quiet (fail)
      go_wp2_with fail
      go_roundw
      case rel => exact ⟨k + 1, N4, HLT.out, (by first | rfl | go_num), rfl, HF.out.1, HF.out.2, HS.out, _, rfl⟩
      case measure => have := HLT.out; have := HNL.out; simp [intOf]; omega
    · obtain rfl : k = n := by omega
      have HNK := veil hNk
      have hkn : k * N < 9223372036854775808 ∧ N < 9223372036854775808 := by
        have h1 := HNL.out
        constructor
        · have := Nat.mul_le_mul h1 (Nat.le_trans hNk (Nat.mul_le_mul_right 3145729 h1)); omega
        · omega
      by_cases h1000 : 20000 < N
      · have d1 : decide ((20000 : Int) < (N : Int)) = true := by simp; omega
        have d2 : decide (20000 < N) = true := by simp; omega
        clear h1000 hall hNk hkN HNK hkn
        go_wp2_with fail
        refine (lives_any _).mono ?_
        rintro e1 w1 ⟨rfl, hb1⟩
        have HB1 := veil (below_drewN' hb1)
        clear hb1
        go_wp2
        go_ret
        exact ⟨rfl, HB1.out⟩
      · by_cases h400 : 400000 < N * k
        · have d1 : decide ((20000 : Int) < (N : Int)) = false := by simp; omega
          have d2 : decide (20000 < N) = false := by simp; omega
          have p1 : IntKind.i64.wrap ((N : Int) * (k : Int)) = ((N * k : Nat) : Int) := by rw [IntKind.wrap_i64, Nat.mul_comm N k, ← Int.natCast_mul, Nat.mul_comm N k]; omega
          have d3 : decide ((400000 : Int) < ((N * k : Nat) : Int)) = true := by simp only [decide_eq_true_eq]; omega
          have d4 : decide (400000 < N * k) = true := by simp; omega
          clear h1000 h400 hall hNk hkN HNK hkn
          generalize N * k = NK at *
          go_wp2_with fail
          refine (lives_any _).mono ?_
          rintro e1 w1 ⟨rfl, hb1⟩
          have HB1 := veil (below_drewN' hb1)
          clear hb1
          go_wp2
          go_ret
          exact ⟨rfl, HB1.out⟩
        · have d1 : decide ((20000 : Int) < (N : Int)) = false := by simp; omega
          have d2 : decide (20000 < N) = false := by simp; omega
          have p1 : IntKind.i64.wrap ((N : Int) * (k : Int)) = ((N * k : Nat) : Int) := by rw [IntKind.wrap_i64, Nat.mul_comm N k, ← Int.natCast_mul, Nat.mul_comm N k]; omega
          have d3 : decide ((400000 : Int) < ((N * k : Nat) : Int)) = false := by simp only [decide_eq_false_iff_not]; omega
          have d4 : decide (400000 < N * k) = false := by simp; omega
          have HR1 := veil (show ∀ j, j < k → (gc al j).Small 20000 from fun j hj => by have := hall j hj; exact ⟨by have := this.b; omega, by have := this.d; omega, by have := this.r; omega⟩)
          have HK1 := veil (show k ≤ 20000 by omega)
          clear h1000 h400 hall hNk hkN HNK hkn HRL HNL hlt hk
          generalize N * k = NK at *
          obtain ⟨wm, hwm⟩ : ∃ wm, w.drewN m = wm := ⟨_, rfl⟩
          have hbm : Below w.heap.size w wm := by rw [← hwm]; exact below_drewN (Below.refl _ w) m
          rw [hwm]
          have HBM := veil hbm
          have HAM := veil (HA.out.below hbm)
          clear hwm hbm HA
          by_cases hv : 4611686018427387903 < id ∨ 4611686018427387903 < credit
          · go_wp2_with fail
            refine (new_no id credit wm hv).mono ?_
            rintro e1 w1 ⟨rfl, hb1⟩
            have HB1 := veil hb1
            clear hb1
            go_wp2_with fail
            refine (refNew_no id credit w1 hv).mono ?_
            rintro e2 w2 ⟨rfl, hb2⟩
            have HB2 := veil (HB1.out.trans (hb2.mono HB1.out.size))
            clear hb2 hv
            go_wp2_with fail
            refine (write_nil w2 true).mono ?_
            rintro e3 w3 ⟨rfl, hw3⟩
            obtain rfl := hw3
            go_wp2_with fail
            refine (done_nil w3).mono ?_
            rintro e4 w4 ⟨rfl, hw4⟩
            obtain rfl := hw4
            go_wp2_with fail
            refine (fresh_nil w4).mono ?_
            rintro e5 w5 ⟨rfl, hw5⟩
            obtain rfl := hw5
            go_wp2_with fail
            refine (lives_any w5).mono ?_
            rintro e6 w6 ⟨rfl, hb6⟩
            have HB6 := veil (HB2.out.trans (hb6.mono HB2.out.size))
            clear hb6
            go_wp2
            go_ret
            exact ⟨rfl, HBM.out.trans (HB6.out.mono HBM.out.size)⟩
          · have h1 : id ≤ 4611686018427387903 := by omega
            have h2 : credit ≤ 4611686018427387903 := by omega
            go_wp2_with fail
            refine (new_any id credit wm h1 h2).mono ?_
            intro e1 w1 hq
            obtain ⟨g, hg⟩ : ∃ g, wm.heap.size = g := ⟨_, rfl⟩
            have hS0 := hq.2.1
            have hb1 := hq.2.2
            have hq := hq.1
            rw [hg] at hq
            subst hq
            have HS0 := veil hS0
            have HB1 := veil hb1
            clear hS0 hb1
            go_wp2_with fail
            refine (refNew_any id credit w1 h1 h2).mono ?_
            intro e2 w2 hq
            obtain ⟨h, hh⟩ : ∃ h, w1.heap.size = h := ⟨_, rfl⟩
            obtain ⟨B, hB⟩ : ∃ B, B = w2.heap.size := ⟨_, rfl⟩
            obtain ⟨z0, hP0⟩ := SpI.start HS0.out HB1.out hq.2.1 hq.2.2 54
            have hq := hq.1
            rw [hh] at hq
            subst hq
            rw [hg, hh, ← hB] at hP0
            have HP0 := veil hP0
            clear hP0 HS0 HB1 h1 h2 hv hg hh
            obtain ⟨s0, hs0⟩ : ∃ s0, new id credit = s0 := ⟨_, rfl⟩
            rw [hs0] at HP0
            clear hs0
            go_wp2_with fail
            rw [← hB]
            clear hB
            generalize w2.alloc (.cells #[.int .i64 0, .slice none 0 0, .slice none 0 0, .slice none 0 0, .slice none 0 0, .slice none 0 0, .slice none 0 0, .slice none 0 0, .slice none 0 0, .slice none 0 0, .slice none 0 0, .slice none 0 0, .slice none 0 0] 54) = wz at *
            go_loopw [14, 15] (fun tv iv wr => ∃ (i nn : Nat) (s : Snd) (l : List FrM) (z : Nat → Nat → Prop), i ≤ k ∧ iv = .int .i64 (i : Int) ∧ nn ≤ 2 * i ∧ l.length ≤ i ∧ SpI wm wr g h B nn s s tv l z)
              (fun _ iv _ => k - (intOf iv).toNat)
            case atStart => exact ⟨0, 0, _, _, _, Nat.zero_le _, rfl, Nat.le_refl _, Nat.le_refl _, HP0.out⟩
            case round =>
              as_aux_lemma =>
                clear HP0
                obtain ⟨i, nn, s, l, z, hi, rfl, hnn, hll, hP⟩ := hrel
                by_cases hlt : i < k
                · have hat : aa = some ⟨ag, aoff, none⟩ := HAM.out.at_ (show 0 < k by omega)
                  subst hat
                  have hAw := HAM.out.below hP.zs.bel
                  have hc := hAw.cell i hlt
                  have ha := hAw.each i hlt
                  have ha0 := HAM.out.each i hlt
                  have hr1 := HR1.out i hlt
                  simp only at hc ha hr1 ha0
                  obtain ⟨a, hae⟩ : ∃ a, gc al i = a := ⟨_, rfl⟩
                  rw [hae] at hc ha hr1 ha0
                  clear hae
                  obtain ⟨kd, bb, last, num, fresh, f⟩ := a
                  have x0 : wr.cell? ⟨ag, aoff + i * 13, none⟩ = some (.int .u8 (kd : Int)) := hc 0 _ rfl
                  have x1 : wr.cell? ⟨ag, aoff + i * 13 + 1, none⟩ = some (.slice bb.a bb.len bb.cap) := hc 1 _ rfl
                  have x2 : wr.cell? ⟨ag, aoff + i * 13 + 2, none⟩ = some (.bool last) := hc 2 _ rfl
                  have x3 : wr.cell? ⟨ag, aoff + i * 13 + 3, none⟩ = some (.int .i64 num) := hc 3 _ rfl
                  have x4 : wr.cell? ⟨ag, aoff + i * 13 + 4, none⟩ = some (.int .u64 (fresh : Int)) := hc 4 _ rfl
                  have x5 : wr.cell? ⟨ag, aoff + i * 13 + 5, none⟩ = some (.int .u8 (f.kind : Int)) := hc 5 _ rfl
                  have x6 : wr.cell? ⟨ag, aoff + i * 13 + 6, none⟩ = some (.int .u64 (f.stream : Int)) := hc 6 _ rfl
                  have x7 : wr.cell? ⟨ag, aoff + i * 13 + 7, none⟩ = some (.int .u64 (f.offset : Int)) := hc 7 _ rfl
                  have x8 : wr.cell? ⟨ag, aoff + i * 13 + 8, none⟩ = some (.int .u64 (f.limit : Int)) := hc 8 _ rfl
                  have x9 : wr.cell? ⟨ag, aoff + i * 13 + 9, none⟩ = some (.int .u64 (f.code : Int)) := hc 9 _ rfl
                  have x10 : wr.cell? ⟨ag, aoff + i * 13 + 10, none⟩ = some (.bool f.fin) := hc 10 _ rfl
                  have x11 : wr.cell? ⟨ag, aoff + i * 13 + 11, none⟩ = some (.slice f.data.a f.data.len f.data.cap) := hc 11 _ rfl
                  have x12 : wr.cell? ⟨ag, aoff + i * 13 + 12, none⟩ = some (.slice f.ranges.a f.ranges.len f.ranges.cap) := hc 12 _ rfl
                  have HP := veil hP
                  have HG0 := veil (show GOk wm (z 4) wr f from ⟨ha.f, fun p => .inl (ha0.f.data.lt p), fun p => ha0.f.ranges.lt p, by have := hr1.d; simp only at this; omega, by have := hr1.r; simp only at this; omega⟩)
                  have HBB := veil (show bb.Ok wm ∧ bb.len ≤ 20000 from ⟨ha0.b, hr1.b⟩)
                  have HNU := veil (show (-9223372036854775808 ≤ num ∧ num ≤ 9223372036854775807) ∧ fresh < 18446744073709551616 ∧ kd < 256 from ⟨ha0.n, ha0.fresh, ha0.kind⟩)
                  have HLT := veil hlt
                  have HNN := veil hnn
                  have HLL := veil hll
                  have bI : (i : Int) < (k : Int) := by omega
                  obtain ⟨tva, tvc, htv, _, _⟩ := hP.tk.shape
                  subst htv
                  have m0 : Int.tmod (kd : Int) 8 = ((kd % 8 : Nat) : Int) := by rw [Int.tmod_eq_emod_of_nonneg (by omega)]; omega
                  have m1 : IntKind.u8.wrap ((kd % 8 : Nat) : Int) = ((kd % 8 : Nat) : Int) := by rw [IntKind.wrap_u8]; omega
                  obtain ⟨km, hkm⟩ : ∃ km, kd % 8 = km := ⟨_, rfl⟩
                  have hk3 : km = 0 ∨ km = 1 ∨ km = 2 ∨ km = 3 ∨ km = 4 ∨ km = 5 ∨ km = 6 ∨ km = 7 := by omega
                  rw [hkm] at m0 m1
                  clear hkm
                  clear hAw hc ha ha0 hr1 hP hnn hll hlt hi
                  go_upto_region 20 with fail
                  have HBX := veil (show Row (wr.alloc (.cells #[.int .u8 (kd : Int), .slice bb.a bb.len bb.cap, .bool last, .int .i64 num, .int .u64 (fresh : Int), .int .u8 (f.kind : Int), .int .u64 (f.stream : Int), .int .u64 (f.offset : Int), .int .u64 (f.limit : Int), .int .u64 (f.code : Int), .bool f.fin, .slice f.data.a f.data.len f.data.cap, .slice f.ranges.a f.ranges.len f.ranges.cap] 30)) wr.heap.size 30 #[.int .u8 (kd : Int), .slice bb.a bb.len bb.cap, .bool last, .int .i64 num, .int .u64 (fresh : Int), .int .u8 (f.kind : Int), .int .u64 (f.stream : Int), .int .u64 (f.offset : Int), .int .u64 (f.limit : Int), .int .u64 (f.code : Int), .bool f.fin, .slice f.data.a f.data.len f.data.cap, .slice f.ranges.a f.ranges.len f.ranges.cap] from Row.new _ _ _)
                  have HB1 := veil ((Below.refl wr.heap.size wr).alloc (Nat.le_refl _) (.cells #[.int .u8 (kd : Int), .slice bb.a bb.len bb.cap, .bool last, .int .i64 num, .int .u64 (fresh : Int), .int .u8 (f.kind : Int), .int .u64 (f.stream : Int), .int .u64 (f.offset : Int), .int .u64 (f.limit : Int), .int .u64 (f.code : Int), .bool f.fin, .slice f.data.a f.data.len f.data.cap, .slice f.ranges.a f.ranges.len f.ranges.cap] 30))
                  obtain ⟨bx, hbx⟩ : ∃ bx, wr.heap.size = bx := ⟨_, rfl⟩
                  rw [hbx] at HBX ⊢
                  generalize (wr.alloc (.cells #[.int .u8 (kd : Int), .slice bb.a bb.len bb.cap, .bool last, .int .i64 num, .int .u64 (fresh : Int), .int .u8 (f.kind : Int), .int .u64 (f.stream : Int), .int .u64 (f.offset : Int), .int .u64 (f.limit : Int), .int .u64 (f.code : Int), .bool f.fin, .slice f.data.a f.data.len f.data.cap, .slice f.ranges.a f.ranges.len f.ranges.cap] 30)) = W1 at *
                  have y5 : W1.cell? ⟨bx, 5, none⟩ = some (.int .u8 (f.kind : Int)) := HBX.out.cell 5
                  have y6 : W1.cell? ⟨bx, 6, none⟩ = some (.int .u64 (f.stream : Int)) := HBX.out.cell 6
                  have y7 : W1.cell? ⟨bx, 7, none⟩ = some (.int .u64 (f.offset : Int)) := HBX.out.cell 7
                  have y8 : W1.cell? ⟨bx, 8, none⟩ = some (.int .u64 (f.limit : Int)) := HBX.out.cell 8
                  have y9 : W1.cell? ⟨bx, 9, none⟩ = some (.int .u64 (f.code : Int)) := HBX.out.cell 9
                  have y10 : W1.cell? ⟨bx, 10, none⟩ = some (.bool f.fin) := HBX.out.cell 10
                  have y11 : W1.cell? ⟨bx, 11, none⟩ = some (.slice f.data.a f.data.len f.data.cap) := HBX.out.cell 11
                  have y12 : W1.cell? ⟨bx, 12, none⟩ = some (.slice f.ranges.a f.ranges.len f.ranges.cap) := HBX.out.cell 12
                  clear x0 x1 x2 x3 x4 x5 x6 x7 x8 x9 x10 x11 x12
                  go_upto_region 21 with fail
                  have HGX := veil (show Row (W1.alloc (.cells #[.int .u8 (f.kind : Int), .int .u64 (f.stream : Int), .int .u64 (f.offset : Int), .int .u64 (f.limit : Int), .int .u64 (f.code : Int), .bool f.fin, .slice f.data.a f.data.len f.data.cap, .slice f.ranges.a f.ranges.len f.ranges.cap] 28)) W1.heap.size 28 f.cells from Row.new _ _ _)
                  have HBX2 := veil (HBX.out.alloc (.cells #[.int .u8 (f.kind : Int), .int .u64 (f.stream : Int), .int .u64 (f.offset : Int), .int .u64 (f.limit : Int), .int .u64 (f.code : Int), .bool f.fin, .slice f.data.a f.data.len f.data.cap, .slice f.ranges.a f.ranges.len f.ranges.cap] 28))
                  have HB2 := veil (HB1.out.alloc HB1.out.size (.cells #[.int .u8 (f.kind : Int), .int .u64 (f.stream : Int), .int .u64 (f.offset : Int), .int .u64 (f.limit : Int), .int .u64 (f.code : Int), .bool f.fin, .slice f.data.a f.data.len f.data.cap, .slice f.ranges.a f.ranges.len f.ranges.cap] 28))
                  obtain ⟨bg, hbg⟩ : ∃ bg, W1.heap.size = bg := ⟨_, rfl⟩
                  have HLX := veil (show wr.heap.size ≤ bx ∧ wr.heap.size ≤ bg ∧ bx ≠ bg from ⟨by rw [hbx]; exact Nat.le_refl _, by rw [← hbg]; exact HB1.out.size, by have := HBX.out.lt; omega⟩)
                  rw [hbg] at HGX ⊢
                  clear hbg hbx
                  generalize (W1.alloc (.cells #[.int .u8 (f.kind : Int), .int .u64 (f.stream : Int), .int .u64 (f.offset : Int), .int .u64 (f.limit : Int), .int .u64 (f.code : Int), .bool f.fin, .slice f.data.a f.data.len f.data.cap, .slice f.ranges.a f.ranges.len f.ranges.cap] 28)) = W2 at *
                  clear y5 y6 y7 y8 y9 y10 y11 y12 HBX HB1
                  have y0 : W2.cell? ⟨bx, 0, none⟩ = some (.int .u8 (kd : Int)) := HBX2.out.cell 0
                  obtain ⟨L, hL⟩ : ∃ L, l.length = L := ⟨_, rfl⟩
                  rw [hL] at HP ⊢
                  obtain ⟨cT, hcT⟩ : ∃ c, decide (0 < L ∧ (km = 2 ∨ km = 3)) = c := ⟨_, rfl⟩
                  go_cut [135] from 109 to 279 (fun cv wx => cv = .bool cT ∧ wx = W2)
                  case first =>
                    as_aux_lemma =>
                      by_cases hT : 0 < L ∧ (km = 2 ∨ km = 3)
                      · obtain rfl : cT = true := by rw [← hcT]; exact decide_eq_true hT
                        obtain ⟨hL0, hkm⟩ := hT
                        have d1 : decide ((0 : Int) < (L : Int)) = true := by simp; omega
                        have d2 : decide (0 < L) = true := by simp; omega
                        clear hL0 hk3 hL hcT
                        rcases hkm with rfl | rfl
                        · go_wp2_with fail
                          go_meet
                          case rel => exact ⟨rfl, rfl⟩
                        · go_wp2_with fail
                          go_meet
                          case rel => exact ⟨rfl, rfl⟩
                      · obtain rfl : cT = false := by rw [← hcT]; exact decide_eq_false hT
                        clear hcT
                        by_cases hL0 : 0 < L
                        · have e2 : ¬ (km : Int) = 2 := by omega
                          have e3 : ¬ (km : Int) = 3 := by omega
                          have b2 : ((km : Int) == 2) = false := by simp; omega
                          have b3 : ((km : Int) == 3) = false := by simp; omega
                          have d1 : decide ((0 : Int) < (L : Int)) = true := by simp; omega
                          have d2 : decide (0 < L) = true := by simp; omega
                          clear hT hL0 hk3 hL
                          go_wp2_with fail
                          go_meet
                          case rel => exact ⟨rfl, rfl⟩
                        · have d1 : decide ((0 : Int) < (L : Int)) = false := by simp; omega
                          have d2 : decide (0 < L) = false := by simp; omega
                          clear hT hL0 hk3 hL
                          go_wp2_with fail
                          go_meet
                          case rel => exact ⟨rfl, rfl⟩
                  case rest =>
                    as_aux_lemma =>
                      obtain ⟨rfl, hwc⟩ := hcut
                      symm at hwc
                      subst hwc
                      go_upto_if 135 with fail
                      go_cut [135] from 109 to 279 (fun _ wx => ∃ G : FrM, Row wx bg 28 G.cells ∧ Row wx bx 30 #[.int .u8 (kd : Int), .slice bb.a bb.len bb.cap, .bool last, .int .i64 num, .int .u64 (fresh : Int), .int .u8 (f.kind : Int), .int .u64 (f.stream : Int), .int .u64 (f.offset : Int), .int .u64 (f.limit : Int), .int .u64 (f.code : Int), .bool f.fin, .slice f.data.a f.data.len f.data.cap, .slice f.ranges.a f.ranges.len f.ranges.cap] ∧ Below wr.heap.size wr wx ∧ GOk wm (z 4) wr G)
                      case first =>
                        as_aux_lemma =>
                          cases cT with
                          | false =>
                            clear hcT hk3 hL
                            go_wp2_with fail
                            go_meet
                            case rel => exact ⟨f, HGX.out, HBX2.out, HB2.out, HG0.out⟩
                          | true =>
                            have hT := of_decide_eq_true hcT
                            clear hcT
                            obtain ⟨hL0, hkm⟩ := hT
                            obtain ⟨idx, hidx⟩ : ∃ idx, fresh % L = idx := ⟨_, rfl⟩
                            have hil : idx < L := by rw [← hidx]; exact Nat.mod_lt _ hL0
                            obtain ⟨G0, hG0⟩ : ∃ G0, l[idx]? = some G0 := ⟨_, List.getElem?_eq_getElem (by omega)⟩
                            have hTk := HP.out.fr G0 (List.mem_of_getElem? hG0)
                            have HGG := veil (show GOk wm (z 4) wr G0 from ⟨hTk.ok, fun p => .inr (hTk.zo p), fun p => absurd p (by rw [hTk.nil]; decide), hTk.len, by rw [hTk.nil]; decide⟩)
                            obtain ⟨tg, tw, hta, tc⟩ := tk_cells (HP.out.tk.below HB2.out) hL hG0
                            have hpt := HP.out.tv
                            subst hta
                            have ce0 : W2.cell? ⟨tg, tw + idx * 8, none⟩ = some (.int .u8 (G0.kind : Int)) := tc 0 _ (by decide) rfl
                            have ce1 : W2.cell? ⟨tg, tw + idx * 8 + 1, none⟩ = some (.int .u64 (G0.stream : Int)) := tc 1 _ (by decide) rfl
                            have ce2 : W2.cell? ⟨tg, tw + idx * 8 + 2, none⟩ = some (.int .u64 (G0.offset : Int)) := tc 2 _ (by decide) rfl
                            have ce3 : W2.cell? ⟨tg, tw + idx * 8 + 3, none⟩ = some (.int .u64 (G0.limit : Int)) := tc 3 _ (by decide) rfl
                            have ce4 : W2.cell? ⟨tg, tw + idx * 8 + 4, none⟩ = some (.int .u64 (G0.code : Int)) := tc 4 _ (by decide) rfl
                            have ce5 : W2.cell? ⟨tg, tw + idx * 8 + 5, none⟩ = some (.bool G0.fin) := tc 5 _ (by decide) rfl
                            have ce6 : W2.cell? ⟨tg, tw + idx * 8 + 6, none⟩ = some (.slice G0.data.a G0.data.len G0.data.cap) := tc 6 _ (by decide) rfl
                            have ce7 : W2.cell? ⟨tg, tw + idx * 8 + 7, none⟩ = some (.slice G0.ranges.a G0.ranges.len G0.ranges.cap) := tc 7 _ (by decide) rfl
                            have y4 : W2.cell? ⟨bx, 4, none⟩ = some (.int .u64 (fresh : Int)) := HBX2.out.cell 4
                            have n0 : ¬ (L : Int) = 0 := by omega
                            have n1 : ((L : Int) == 0) = false := by simp; omega
                            have hL9 : L ≤ 20000 := by have := HLL.out; have := HLT.out; have := HK1.out; omega
                            have v1 : IntKind.u64.wrap (L : Int) = (L : Int) := by rw [IntKind.wrap_u64]; omega
                            have v2 : Int.tmod (fresh : Int) (L : Int) = (idx : Int) := by rw [Int.tmod_eq_emod_of_nonneg (by omega), ← hidx]; simp
                            have v3 : IntKind.u64.wrap (idx : Int) = (idx : Int) := by rw [IntKind.wrap_u64]; omega
                            have v4 : IntKind.i64.wrap (idx : Int) = (idx : Int) := by rw [IntKind.wrap_i64]; omega
                            have d1 : decide ((0 : Int) < (L : Int)) = true := by simp; omega
                            have d2 : decide (0 < L) = true := by simp; omega
                            have bJ : (idx : Int) < (L : Int) := by omega
                            have HGX9 := veil (HGX.out.put G0.cells)
                            clear hidx hG0 hTk tc hpt hk3 HG0 hL9 hkm
                            have hb3 : Below wr.heap.size wr (W2.setRow bg G0.cells) := by exact bSetRow HB2.out HLX.out.2.1 _
                            have HBX3 := veil (show Row (W2.setRow bg G0.cells) bx 30 #[.int .u8 (kd : Int), .slice bb.a bb.len bb.cap, .bool last, .int .i64 num, .int .u64 (fresh : Int), .int .u8 (f.kind : Int), .int .u64 (f.stream : Int), .int .u64 (f.offset : Int), .int .u64 (f.limit : Int), .int .u64 (f.code : Int), .bool f.fin, .slice f.data.a f.data.len f.data.cap, .slice f.ranges.a f.ranges.len f.ranges.cap] from by exact (setRow_other W2 bg bx _ HLX.out.2.2).trans HBX2.out)
                            have HBT := veil hb3
                            have HCZ := veil (show (G0.cells.all (·.oneCell')) = true from by simp [FrM.cells, Value.oneCell'])
                            clear hb3
                            go_wp2_with ((with_reducible (show wpList _ _ _ (⟨_, Op.store 28 _ _, _, _, _, _⟩ :: _) _ _)); (refine store_rowN rfl rfl 28 _ _ rfl bg G0.cells ?_ ?_ 28 f.cells HGX.out 8 ?_ ?_ ?_ HCZ.out ?_; rfl; rfl; (as_aux_lemma => kernel_rfl); rfl; rfl))
                            go_meet
                            case rel => exact ⟨G0, HGX9.out, HBX3.out, HBT.out, HGG.out⟩
                      case rest =>
                        as_aux_lemma =>
                          obtain ⟨G0, hg0, hx0, hb0, hok0⟩ := hcut
                          have HGF := veil (hok0.keep (KeepP.of_below (st := fun _ => False) hb0) (fun _ _ q => q) (fun _ _ q => q) (fun _ q => q))
                          have HGX9 := veil hg0
                          have HBX3 := veil hx0
                          have HBT := veil hb0
                          have HGG := veil hok0
                          clear hg0 hx0 hb0 hok0 HGX HBX2 HB2 HG0 y0 hcT cT hL
                          have y0 : wc.cell? ⟨bx, 0, none⟩ = some (.int .u8 (kd : Int)) := HBX3.out.cell 0
                          obtain ⟨q0, q1, q2, q3, q4, q5, q6, q7⟩ := fr_cells HGX9.out
                          go_wp2_with fail
                          refine (twin_fr G0 wc HGF.out.ok HGF.out.dl HGF.out.rl).mono ?_
                          rintro e4 w4 ⟨g1, g2, rfl, t1, t2, hb4⟩
                          rw [twin_cells_eq]
                          have t1' := t1.below ((Below.refl w4.heap.size w4).alloc (Nat.le_refl _) (.cells (G0.twin g1 g2).cells 28))
                          have t2' := t2.below ((Below.refl w4.heap.size w4).alloc (Nat.le_refl _) (.cells (G0.twin g1 g2).cells 28))
                          obtain ⟨zz, hP5, hR5, e5⟩ := rv_make HP.out (HBT.out.trans ((hb4.mono HBT.out.size).alloc (by have := HBT.out.size; have := hb4.size; omega) (.cells (G0.twin g1 g2).cells 28))) ((HBX3.out.below hb4 HBX3.out.lt).alloc _) ((HGX9.out.below hb4 HGX9.out.lt).alloc _) (Row.new _ _ _) HLX.out.1 HLX.out.2.1 (by have := HBT.out.size; have := hb4.size; omega) (t1'.low HBT.out.size) (t2'.low HBT.out.size) HGG.out
                          rw [twin_cells_eq] at hP5 hR5
                          have HP5 := veil hP5
                          have HR5 := veil hR5
                          clear t1 t2 t1' t2' hb4 hP5 hR5 e5 q0 q1 q2 q3 q4 q5 q6 q7 y0 HBX3 HGX9 HGF HBT HP HLX HGG
                          obtain ⟨bh, hbh⟩ : ∃ bh, w4.heap.size = bh := ⟨_, rfl⟩
                          go_upto_region 24 with fail
                          rw [hbh] at HR5
                          clear hbh
                          generalize (w4.alloc (.cells #[.int .u8 (G0.kind : Int), .int .u64 (G0.stream : Int), .int .u64 (G0.offset : Int), .int .u64 (G0.limit : Int), .int .u64 (G0.code : Int), .bool G0.fin, .slice (some ⟨g1, 0, none⟩) G0.data.len (G0.data.len + 1 : Nat), .slice (some ⟨g2, 0, none⟩) G0.ranges.len (G0.ranges.len + 1 : Nat)] 28)) = W5 at *
                          generalize hvl : Value.slice tva L tvc = tv at *
                          have c0 := HR5.out.x.cell 0
                          have c1 := HR5.out.x.cell 1
                          have c2 := HR5.out.x.cell 2
                          have c3 := HR5.out.x.cell 3
                          have c4 := HR5.out.x.cell 4
                          clear hvl
                          go_upto_block 4 with fail
                          go_cut [14, 19, 20, 21, 22, 23, 24, 25, 26, 27] from 109 to 279 (fun v14 _ _ _ _ _ _ _ _ _ wx => ∃ (N9 : Nat) (s9 : Snd) (l9 : List FrM) (z9 : Nat → Nat → Prop), N9 ≤ 2 * (i + 1) ∧ l9.length ≤ i + 1 ∧ SpI wm wx g h B N9 s9 s9 v14 l9 z9 ∧ RvI wm wx z9 bx bg bh g1 g2 #[.int .u8 (kd : Int), .slice bb.a bb.len bb.cap, .bool last, .int .i64 num, .int .u64 (fresh : Int), .int .u8 (f.kind : Int), .int .u64 (f.stream : Int), .int .u64 (f.offset : Int), .int .u64 (f.limit : Int), .int .u64 (f.code : Int), .bool f.fin, .slice f.data.a f.data.len f.data.cap, .slice f.ranges.a f.ranges.len f.ranges.cap] G0)
                          case first =>
                            rcases hk3 with rfl | rfl | rfl | rfl | rfl | rfl | rfl | rfl
                            · as_aux_lemma =>
                                go_wp2_with fail
                                refine (twb_own bb W5 (HBB.out.1.below HP5.out.zs.bel) (by have := HBB.out.2; omega)).mono ?_
                                rintro e5 w5 ⟨nb, rfl, tw, hb5⟩
                                obtain ⟨hp6, hr6⟩ := zone_new HP5.out HR5.out hb5 6 (by decide) (fun q => q = nb) (fun q e => by rw [e]; exact ⟨tw.ge, tw.lt⟩)
                                have HR0 := veil (show RSp wm g h B nn s (write s bb.b last) tv l bx bg bh g1 g2 #[.int .u8 (kd : Int), .slice bb.a bb.len bb.cap, .bool last, .int .i64 num, .int .u64 (fresh : Int), .int .u8 (f.kind : Int), .int .u64 (f.stream : Int), .int .u64 (f.offset : Int), .int .u64 (f.limit : Int), .int .u64 (f.code : Int), .bool f.fin, .slice f.data.a f.data.len f.data.cap, .slice f.ranges.a f.ranges.len f.ranges.cap] G0 (ETw wm nb bb) 0 (w5).drew from ⟨_, hp6.below ((Below.refl _ _).drew), hr6.below ((Below.refl _ _).drew), (tw.low HP5.out.zs.bel.size).below ((Below.refl _ _).drew), by rw [zset_self]⟩)
                                clear tw hb5 hp6 hr6 HP5 HR5 c0 c1 c2 c3 c4
                                go_wp2_with fail
                                refine (wpIn_wide (n := 4)).1 ?_
                                refine wpIn_region_any (by as_aux_lemma => kernel_rfl) ?_
                                refine anyIn_line (valWr g h bx nb bb last s) (RSp wm g h B nn s (write s bb.b last) tv l bx bg bh g1 g2 #[.int .u8 (kd : Int), .slice bb.a bb.len bb.cap, .bool last, .int .i64 num, .int .u64 (fresh : Int), .int .u8 (f.kind : Int), .int .u64 (f.stream : Int), .int .u64 (f.offset : Int), .int .u64 (f.limit : Int), .int .u64 (f.code : Int), .bool f.fin, .slice f.data.a f.data.len f.data.cap, .slice f.ranges.a f.ranges.len f.ranges.cap] G0 (ETw wm nb bb)) [4, 10, 16] dsWr depWr (by as_aux_lemma => kernel_rfl) rfl (by decide) (by decide) ?ord ?inn ?h0 ?fix ?cal ?done
                                case ord =>
                                  intro k i j h1 h2
                                  match k, h1, h2 with
                                  | 0, h1, h2 => obtain rfl := Option.some.inj h1; obtain rfl := Option.some.inj h2; exact .inl (by decide)
                                  | 1, h1, h2 => obtain rfl := Option.some.inj h1; obtain rfl := Option.some.inj h2; exact .inr ⟨12, by decide, by decide⟩
                                  | k + 2, _, h2 => simp at h2
                                case inn => intro j hj; simp at hj; show j < 19; omega
                                case h0 => exact HR0.out
                                case fix =>
                                  intro x W m ii d hR hdi hc hdep
                                  obtain ⟨_, rv⟩ := hR.rv
                                  clear hR
                                  match ii, hdi, hc, hdep with
                                  | 0, hdi, _, _ =>
                                    obtain rfl := Option.some.inj hdi
                                    exact OI_value rfl rfl (about_none (by intro c h; cases h)) (by intro c h; cases h) (.pointer (some ⟨g, 0, none⟩)) W (by as_aux_lemma => kernel_rfl) ⟨rfl, rfl⟩
                                  | 1, hdi, _, _ =>
                                    obtain rfl := Option.some.inj hdi
                                    exact OI_value rfl rfl (about_none (by intro c h; cases h)) (by intro c h; cases h) (.slice (some ⟨nb, 0, none⟩) bb.len (bb.len + 1)) W (by as_aux_lemma => kernel_rfl) ⟨rfl, rfl⟩
                                  | 2, hdi, _, _ =>
                                    obtain rfl := Option.some.inj hdi
                                    exact OI_value rfl rfl (about_none (by intro c h; cases h)) (by intro c h; cases h) (.pointer (some ⟨bx, 2, none⟩)) W (by as_aux_lemma => kernel_rfl) ⟨rfl, rfl⟩
                                  | 3, hdi, _, hdep =>
                                    obtain rfl := Option.some.inj hdi
                                    rw [updV_self (show x 2 = _ from hdep 2 (by simp [depWr]))]
                                    exact OI_value rfl rfl (about_none (by intro c h; cases h)) (by intro c h; cases h) (.bool last) W (lgRun_cell 4 _ ⟨bx, 2, none⟩ _ _ rfl (by as_aux_lemma => kernel_rfl) Tryz.underlying4 rfl W (rv.x.cell 2)) ⟨rfl, rfl⟩
                                  | 4, _, hc, _ => exact (hc (by simp)).elim
                                  | 5, hdi, _, _ =>
                                    obtain rfl := Option.some.inj hdi
                                    exact OI_value rfl rfl (about_none (by intro c h; cases h)) (by intro c h; cases h) (.pointer (some ⟨h, 0, none⟩)) W (by as_aux_lemma => kernel_rfl) ⟨rfl, rfl⟩
                                  | 6, hdi, _, _ =>
                                    obtain rfl := Option.some.inj hdi
                                    exact OI_value rfl rfl (about_none (by intro c h; cases h)) (by intro c h; cases h) (.pointer (some ⟨bx, 1, none⟩)) W (by as_aux_lemma => kernel_rfl) ⟨rfl, rfl⟩
                                  | 7, hdi, _, hdep =>
                                    obtain rfl := Option.some.inj hdi
                                    rw [updV_self (show x 6 = _ from hdep 6 (by simp [depWr]))]
                                    exact OI_value rfl rfl (about_none (by intro c h; cases h)) (by intro c h; cases h) (.slice bb.a bb.len bb.cap) W (lgRun_cell 24 _ ⟨bx, 1, none⟩ _ _ rfl (by as_aux_lemma => kernel_rfl) Tryz.underlying24 rfl W (rv.x.cell 1)) ⟨rfl, rfl⟩
                                  | 8, hdi, _, _ =>
                                    obtain rfl := Option.some.inj hdi
                                    exact OI_value rfl rfl (about_none (by intro c h; cases h)) (by intro c h; cases h) (.pointer (some ⟨bx, 2, none⟩)) W (by as_aux_lemma => kernel_rfl) ⟨rfl, rfl⟩
                                  | 9, hdi, _, hdep =>
                                    obtain rfl := Option.some.inj hdi
                                    rw [updV_self (show x 8 = _ from hdep 8 (by simp [depWr]))]
                                    exact OI_value rfl rfl (about_none (by intro c h; cases h)) (by intro c h; cases h) (.bool last) W (lgRun_cell 4 _ ⟨bx, 2, none⟩ _ _ rfl (by as_aux_lemma => kernel_rfl) Tryz.underlying4 rfl W (rv.x.cell 2)) ⟨rfl, rfl⟩
                                  | 10, _, hc, _ => exact (hc (by simp)).elim
                                  | 11, hdi, _, hdep =>
                                    obtain rfl := Option.some.inj hdi
                                    rw [updV_self (show x 4 = _ from hdep 4 (by simp [depWr])), updV_self (show (updV x 4 _) 10 = _ from hdep 10 (by simp [depWr]))]
                                    exact OI_value rfl rfl (about_none (by intro c h; cases h)) (by intro c h; cases h) (.bool false) W (run_neqS _ _ _ _ (writeE s bb.len : Nat) rfl (by as_aux_lemma => kernel_rfl) (by as_aux_lemma => kernel_rfl) W) ⟨rfl, rfl⟩
                                  | 12, hdi, _, hdep =>
                                    obtain rfl := Option.some.inj hdi
                                    rw [updV_self (show x 10 = _ from hdep 10 (by simp [depWr])), updV_self (show (updV x 10 _) 11 = _ from hdep 11 (by simp [depWr]))]
                                    exact OI_value rfl rfl (about_none (by intro c h; cases h)) (by intro c h; cases h) (.bool false) W (by as_aux_lemma => kernel_rfl) ⟨rfl, rfl⟩
                                  | 13, hdi, _, hdep =>
                                    obtain rfl := Option.some.inj hdi
                                    rw [updV_self (show x 12 = _ from hdep 12 (by simp [depWr]))]
                                    with_reducible refine OI_value2 ?_ ?_ ?_ ?_ (.slice (some ⟨nb, 0, none⟩) bb.len (bb.len + 1)) W ?_ ?_
                                    · decide
                                    · as_aux_lemma => kernel_rfl
                                    · exact about_none (by intro c h; cases h)
                                    · intro c h; cases h
                                    · as_aux_lemma => kernel_rfl
                                    · exact ⟨rfl, rfl⟩
                                  | 14, hdi, _, hdep =>
                                    obtain rfl := Option.some.inj hdi
                                    rw [updV_self (show x 12 = _ from hdep 12 (by simp [depWr]))]
                                    with_reducible refine OI_value2 ?_ ?_ ?_ ?_ (.pointer (some ⟨bx, 1, none⟩)) W ?_ ?_
                                    · decide
                                    · as_aux_lemma => kernel_rfl
                                    · exact about_none (by intro c h; cases h)
                                    · intro c h; cases h
                                    · as_aux_lemma => kernel_rfl
                                    · exact ⟨rfl, rfl⟩
                                  | 15, hdi, _, hdep =>
                                    obtain rfl := Option.some.inj hdi
                                    rw [updV_self (show x 12 = _ from hdep 12 (by simp [depWr])), updV_self (show (updV x 12 _) 14 = _ from hdep 14 (by simp [depWr]))]
                                    with_reducible refine OI_value2 ?_ ?_ ?_ ?_ (.slice bb.a bb.len bb.cap) W ?_ ?_
                                    · decide
                                    · as_aux_lemma => kernel_rfl
                                    · exact about_none (by intro c h; cases h)
                                    · intro c h; cases h
                                    · exact (lgRun_cell 24 _ ⟨bx, 1, none⟩ _ _ rfl (by as_aux_lemma => kernel_rfl) Tryz.underlying24 rfl W (rv.x.cell 1))
                                    · exact ⟨rfl, rfl⟩
                                  | 16, _, hc, _ => exact (hc (by simp)).elim
                                  | 17, hdi, _, hdep =>
                                    obtain rfl := Option.some.inj hdi
                                    rw [updV_self (show x 12 = _ from hdep 12 (by simp [depWr])), updV_self (show (updV x 12 _) 16 = _ from hdep 16 (by simp [depWr]))]
                                    with_reducible refine OI_value2 ?_ ?_ ?_ ?_ (.bool false) W ?_ ?_
                                    · decide
                                    · as_aux_lemma => kernel_rfl
                                    · exact about_none (by intro c h; cases h)
                                    · intro c h; cases h
                                    · as_aux_lemma => kernel_rfl
                                    · exact ⟨rfl, rfl⟩
                                  | 18, hdi, _, hdep =>
                                    obtain rfl := Option.some.inj hdi
                                    rw [updV_self (show x 12 = _ from hdep 12 (by simp [depWr])), updV_self (show (updV x 12 _) 17 = _ from hdep 17 (by simp [depWr]))]
                                    exact OI_value rfl rfl (about_none (by intro c h; cases h)) (by intro c h; cases h) (.bool false) W (by as_aux_lemma => kernel_rfl) ⟨rfl, rfl⟩
                                  | _ + 19, hdi, _, _ => simp [dsWr] at hdi
                                case cal =>
                                  intro x W k ii d hR hk hdi hdep
                                  match k, hk, hR with
                                  | 0, hk, hR =>
                                    obtain rfl := Option.some.inj hk
                                    obtain rfl := Option.some.inj hdi
                                    rw [updV_self (show x 0 = _ from hdep 0 (by simp [depWr])), updV_self (show (updV x 0 _) 1 = _ from hdep 1 (by simp [depWr])), updV_self (show (updV (updV x 0 _) 1 _) 3 = _ from hdep 3 (by simp [depWr]))]
                                    obtain ⟨z, hp, hr, he⟩ := hR
                                    refine OI_call rfl rfl (by intro c h; cases h) 7 #[.pointer (some ⟨g, 0, none⟩), .slice (some ⟨nb, 0, none⟩) bb.len (bb.len + 1), .bool last] (fun _ _ => trivial) (by as_aux_lemma => kernel_rfl) (by decide) ?_
                                    refine (callsIn_wide.2 (write_any W g s (z 0) hp.sn (twinS nb bb.len bb.b) (etw_ok he HBB.out.1) last)).mono ?_
                                    rintro e w9 ⟨rfl, o9, h9, a9⟩
                                    refine ⟨_, rfl, ?_, ?_⟩
                                    · exact rfl
                                    · exact rsp_snd etw_keep hp hr he h9 a9
                                  | 1, hk, hR =>
                                    obtain rfl := Option.some.inj hk
                                    obtain rfl := Option.some.inj hdi
                                    rw [updV_self (show x 5 = _ from hdep 5 (by simp [depWr])), updV_self (show (updV x 5 _) 7 = _ from hdep 7 (by simp [depWr])), updV_self (show (updV (updV x 5 _) 7 _) 9 = _ from hdep 9 (by simp [depWr]))]
                                    obtain ⟨z, hp, hr, he⟩ := hR
                                    refine OI_call rfl rfl (by intro c h; cases h) 12 #[.pointer (some ⟨h, 0, none⟩), .slice bb.a bb.len bb.cap, .bool last] (fun _ _ => trivial) (by as_aux_lemma => kernel_rfl) (by decide) ?_
                                    refine (callsIn_wide.2 (refWrite_any hp.rf bb (HBB.out.1.below hp.zs.bel) (by have := HBB.out.2; omega) last)).mono ?_
                                    rintro e w9 ⟨rfl, o9, h9, a9⟩
                                    refine ⟨_, rfl, ?_, ?_⟩
                                    · exact rfl
                                    · exact rsp_ref etw_keep hp hr he h9 a9
                                  | 2, hk, hR =>
                                    obtain rfl := Option.some.inj hk
                                    obtain rfl := Option.some.inj hdi
                                    rw [updV_self (show x 12 = _ from hdep 12 (by simp [depWr])), updV_self (show (updV x 12 _) 13 = _ from hdep 13 (by simp [depWr])), updV_self (show (updV (updV x 12 _) 13 _) 15 = _ from hdep 15 (by simp [depWr]))]
                                    have hq := rsp_two hR
                                    clear hR
                                    revert hq
                                    generalize hpp : wpOpIn _ _ _ _ _ _ _ _ _ = pp
                                    rintro ⟨z, hp, hr, he⟩
                                    rw [← hpp]
                                    clear hpp
                                    with_reducible refine OI_call2 ?_ ?_ ?_ 13 #[.slice (some ⟨nb, 0, none⟩) bb.len (bb.len + 1), .slice bb.a bb.len bb.cap] ?_ ?_ ?_ ?_
                                    · decide
                                    · as_aux_lemma => kernel_rfl
                                    · intro c h; cases h
                                    · exact fun _ _ => trivial
                                    · as_aux_lemma => kernel_rfl
                                    · decide
                                    refine (callsIn_wide.2 (left_sl bb nb W (HBB.out.1.below hp.zs.bel) (by have := HBB.out.2; omega) he.1.twin)).mono ?_
                                    rintro e w9 ⟨rfl, hb9⟩
                                    refine ⟨_, rfl, ?_, ?_⟩
                                    · exact rfl
                                    · exact ⟨z, hp.below hb9, hr.below hb9, etw_keep 0 z z W w9 (by decide) hp.zs (KeepP.of_below hb9) rfl he⟩
                                  | _ + 3, hk, _ => simp at hk
                                case done =>
                                  rintro W ⟨z9, hp9, hr9, he9⟩
                                  simp only [dsWr, putsV, valWr, Act.put, List.setIfInBounds_toArray, List.set_cons_succ, List.set_cons_zero, Nat.reduceAdd]
                                  have TB := veil (tell_twin hp9 hr9 he9 (by have := HNN.out; have := HLT.out; have := HK1.out; omega) (by have := HBB.out.2; omega))
                                  clear hp9 hr9 he9 HR0 m0 m1
                                  generalize write s bb.b last = s9 at *
                                  go_wp2_with fail
                                  refine TB.out.mono ?_
                                  rintro e6 w6 ⟨rfl, z9, hp9, hr9⟩
                                  have HP := veil hp9
                                  have HR := veil hr9
                                  clear hp9 hr9 TB
                                  go_wp2_with fail
                                  go_meet
                                  case rel => exact ⟨nn + 1, _, l, _, by have := HNN.out; omega, by have := HLL.out; omega, HP.out, HR.out⟩
                            · as_aux_lemma =>
                                cases hsp : span s num fresh with
                                | none =>
                                  have HSP := veil hsp
                                  clear hsp
                                  go_wp2_with fail
                                  refine (take_fr W5 g s _ HP5.out.sn num fresh HNU.out.1.2 (by have := HNU.out; omega)).mono ?_
                                  intro e5 w5 hp
                                  unfold TakeF at hp
                                  rw [HSP.out] at hp
                                  obtain ⟨rfl, _, hb5⟩ := hp
                                  have HP6 := veil (HP5.out.below hb5)
                                  have HR6 := veil (HR5.out.below hb5)
                                  clear hb5 HP5 HR5 c0 c1 c2 c3 c4 m0 m1
                                  unfold fr0
                                  have hb6 := (Below.refl w5.heap.size w5).alloc (Nat.le_refl _) (.cells #[.int .u8 0, .int .u64 0, .int .u64 0, .int .u64 0, .int .u64 0, .bool false, .slice none 0 0, .slice none 0 0] 28)
                                  have hp7 := zone_new HP6.out HR6.out hb6 8 (by decide) (fun q => q = w5.heap.size) (fun q e => by rw [e]; exact ⟨Nat.le_refl _, by simp⟩)
                                  have HA7 := veil (show Row (w5.alloc (.cells #[.int .u8 0, .int .u64 0, .int .u64 0, .int .u64 0, .int .u64 0, .bool false, .slice none 0 0, .slice none 0 0] 28)) w5.heap.size 28 #[.int .u8 0, .int .u64 0, .int .u64 0, .int .u64 0, .int .u64 0, .bool false, .slice none 0 0, .slice none 0 0] from Row.new _ _ _)
                                  obtain ⟨ba, hba⟩ : ∃ ba, w5.heap.size = ba := ⟨_, rfl⟩
                                  go_upto_region 36 with fail
                                  rw [hba] at hp7 HA7
                                  have HZ8 := veil (show zset zz 8 (fun q => q = ba) 8 ba from by rw [zset_self])
                                  have HP7 := veil hp7.1
                                  have HR7 := veil hp7.2
                                  generalize (w5.alloc (.cells #[.int .u8 0, .int .u64 0, .int .u64 0, .int .u64 0, .int .u64 0, .bool false, .slice none 0 0, .slice none 0 0] 28)) = W7 at *
                                  clear hb6 hp7 hba HP6 HR6
                                  generalize zset zz 8 (fun q => q = ba) = z7 at *
                                  have c3 := HR7.out.x.cell 3
                                  have c4 := HR7.out.x.cell 4
                                  go_wp2_with fail
                                  refine (refTake_any HP7.out.rf num fresh HNU.out.1.2 (by have := HNU.out; omega)).mono ?_
                                  intro e6 w6 hp
                                  unfold RTakeP at hp
                                  rw [HSP.out] at hp
                                  obtain ⟨rfl, _, hb7⟩ := hp
                                  have HP8 := veil (HP7.out.below hb7)
                                  have HR8 := veil (HR7.out.below hb7)
                                  have HA8 := veil (HA7.out.below hb7 HA7.out.lt)
                                  clear hb7 HP7 HR7 HA7 c3 c4
                                  unfold fr0
                                  have hb6 := (Below.refl w6.heap.size w6).alloc (Nat.le_refl _) (.cells #[.int .u8 0, .int .u64 0, .int .u64 0, .int .u64 0, .int .u64 0, .bool false, .slice none 0 0, .slice none 0 0] 28)
                                  have hp7 := zone_new HP8.out HR8.out hb6 9 (by decide) (fun q => q = w6.heap.size) (fun q e => by rw [e]; exact ⟨Nat.le_refl _, by simp⟩)
                                  have HC9 := veil (show Row (w6.alloc (.cells #[.int .u8 0, .int .u64 0, .int .u64 0, .int .u64 0, .int .u64 0, .bool false, .slice none 0 0, .slice none 0 0] 28)) w6.heap.size 28 #[.int .u8 0, .int .u64 0, .int .u64 0, .int .u64 0, .int .u64 0, .bool false, .slice none 0 0, .slice none 0 0] from Row.new _ _ _)
                                  obtain ⟨bc, hbc⟩ : ∃ bc, w6.heap.size = bc := ⟨_, rfl⟩
                                  go_upto_region 37 with fail
                                  have HA9 := veil (HA8.out.alloc (.cells #[.int .u8 0, .int .u64 0, .int .u64 0, .int .u64 0, .int .u64 0, .bool false, .slice none 0 0, .slice none 0 0] 28))
                                  rw [hbc] at hp7 HC9
                                  have HZ9 := veil (show zset z7 9 (fun q => q = bc) 9 bc from by rw [zset_self])
                                  have HP9 := veil hp7.1
                                  have HR9 := veil hp7.2
                                  generalize (w6.alloc (.cells #[.int .u8 0, .int .u64 0, .int .u64 0, .int .u64 0, .int .u64 0, .bool false, .slice none 0 0, .slice none 0 0] 28)) = W9 at *
                                  clear hb6 hp7 hbc HP8 HR8 HA8
                                  generalize zset z7 9 (fun q => q = bc) = z9 at *
                                  have p0 : W9.cell? ⟨ba, 0, none⟩ = some (.int .u8 0) := HA9.out.cell 0
                                  have p1 : W9.cell? ⟨ba, 1, none⟩ = some (.int .u64 0) := HA9.out.cell 1
                                  have p2 : W9.cell? ⟨ba, 2, none⟩ = some (.int .u64 0) := HA9.out.cell 2
                                  have p3 : W9.cell? ⟨ba, 3, none⟩ = some (.int .u64 0) := HA9.out.cell 3
                                  have p4 : W9.cell? ⟨ba, 4, none⟩ = some (.int .u64 0) := HA9.out.cell 4
                                  have p5 : W9.cell? ⟨ba, 5, none⟩ = some (.bool false) := HA9.out.cell 5
                                  have p6 : W9.cell? ⟨ba, 6, none⟩ = some (.slice none 0 0) := HA9.out.cell 6
                                  have p7 : W9.cell? ⟨ba, 7, none⟩ = some (.slice none 0 0) := HA9.out.cell 7
                                  have q0 : W9.cell? ⟨bc, 0, none⟩ = some (.int .u8 0) := HC9.out.cell 0
                                  have q1 : W9.cell? ⟨bc, 1, none⟩ = some (.int .u64 0) := HC9.out.cell 1
                                  have q2 : W9.cell? ⟨bc, 2, none⟩ = some (.int .u64 0) := HC9.out.cell 2
                                  have q3 : W9.cell? ⟨bc, 3, none⟩ = some (.int .u64 0) := HC9.out.cell 3
                                  have q4 : W9.cell? ⟨bc, 4, none⟩ = some (.int .u64 0) := HC9.out.cell 4
                                  have q5 : W9.cell? ⟨bc, 5, none⟩ = some (.bool false) := HC9.out.cell 5
                                  have q6 : W9.cell? ⟨bc, 6, none⟩ = some (.slice none 0 0) := HC9.out.cell 6
                                  have q7 : W9.cell? ⟨bc, 7, none⟩ = some (.slice none 0 0) := HC9.out.cell 7
                                  have ok0 : (⟨0, 0, 0, 0, 0, false, ⟨none, 0, 0, 0, 0, []⟩, ⟨none, 0, 0, 0, 0, []⟩⟩ : FrM).Ok W9 := ⟨⟨rfl, Nat.le_refl _, fun _ => ⟨rfl, rfl⟩, fun q => absurd q (Nat.lt_irrefl _), fun q => absurd q (Nat.lt_irrefl _), fun _ q => absurd q (Nat.not_lt_zero _)⟩, ⟨rfl, Nat.le_refl _, fun _ => ⟨rfl, rfl⟩, fun q => absurd q (Nat.lt_irrefl _), fun q => absurd q (Nat.lt_irrefl _), fun _ q => absurd q (Nat.not_lt_zero _), fun j => ⟨by show (gr [] j).1 < _; simp [gr], by show (gr [] j).2 < _; simp [gr]⟩⟩, by decide, by decide, by decide, by decide, by decide⟩
                                  have SF := veil (same_frame (⟨0, 0, 0, 0, 0, false, ⟨none, 0, 0, 0, 0, []⟩, ⟨none, 0, 0, 0, 0, []⟩⟩ : FrM) (⟨0, 0, 0, 0, 0, false, ⟨none, 0, 0, 0, 0, []⟩, ⟨none, 0, 0, 0, 0, []⟩⟩ : FrM) W9 ok0 ok0 rfl (by decide) (by decide))
                                  clear ok0
                                  go_wp2_with fail
                                  refine SF.out.mono ?_
                                  rintro e7 w7 ⟨rfl, hb7⟩
                                  have HPA := veil (HP9.out.below hb7)
                                  have HRA := veil (HR9.out.below hb7)
                                  have HAA := veil (HA9.out.below hb7 HA9.out.lt)
                                  clear hb7 HP9 HR9 HA9 HC9 SF p0 p1 p2 p3 p4 p5 p6 p7 q0 q1 q2 q3 q4 q5 q6 q7
                                  have p0 : w7.cell? ⟨ba, 0, none⟩ = some (.int .u8 0) := HAA.out.cell 0
                                  have p1 : w7.cell? ⟨ba, 1, none⟩ = some (.int .u64 0) := HAA.out.cell 1
                                  have p2 : w7.cell? ⟨ba, 2, none⟩ = some (.int .u64 0) := HAA.out.cell 2
                                  have p3 : w7.cell? ⟨ba, 3, none⟩ = some (.int .u64 0) := HAA.out.cell 3
                                  have p4 : w7.cell? ⟨ba, 4, none⟩ = some (.int .u64 0) := HAA.out.cell 4
                                  have p5 : w7.cell? ⟨ba, 5, none⟩ = some (.bool false) := HAA.out.cell 5
                                  have p6 : w7.cell? ⟨ba, 6, none⟩ = some (.slice none 0 0) := HAA.out.cell 6
                                  have p7 : w7.cell? ⟨ba, 7, none⟩ = some (.slice none 0 0) := HAA.out.cell 7
                                  have TF := veil (tellFrame HPA.out (⟨0, 0, 0, 0, 0, false, ⟨none, 0, 0, 0, 0, []⟩, ⟨none, 0, 0, 0, 0, []⟩⟩ : FrM) (by have := HNN.out; have := HLT.out; have := HK1.out; omega) rfl (by decide) ⟨rfl, .inl ⟨rfl, rfl⟩⟩ (fun q e => by cases e))
                                  go_wp2_with fail
                                  refine TF.out.mono ?_
                                  rintro e8 w8 ⟨rfl, zb, hp8, e8, k8⟩
                                  have HP := veil hp8
                                  have HR := veil (HRA.out.many (z' := zb) HPA.out.zs k8 (fun q e => e.elim (fun e => ⟨2, by decide, by decide, e⟩) (fun e => ⟨6, by decide, by decide, e⟩)) (fun q e => by rw [e8 4 (by decide) (by decide)]; exact e) (e8 5 (by decide) (by decide)))
                                  clear hp8 e8 k8 TF HPA HRA HAA HSP p0 p1 p2 p3 p4 p5 p6 p7
                                  go_wp2_with fail
                                  go_meet
                                  case rel => exact ⟨nn + 1 + 1, _, l, _, by have := HNN.out; omega, by have := HLL.out; omega, HP.out, HR.out⟩
                                | some pq =>
                                  obtain ⟨p, q⟩ := pq
                                  have HLM := veil (span_lims (snS_fine HP5.out.sn) hsp)
                                  have HSF := veil (snS_fine HP5.out.sn)
                                  have HSP := veil hsp
                                  clear hsp
                                  obtain ⟨dat, hdat⟩ : ∃ dat, Sd.cut s.b p q = dat := ⟨_, rfl⟩
                                  obtain ⟨fin, hfin⟩ : ∃ fin, finB s q = fin := ⟨_, rfl⟩
                                  obtain ⟨sid, hsid⟩ : ∃ sid, s.id = sid := ⟨_, rfl⟩
                                  obtain ⟨s9, hs9⟩ : ∃ s9, tell s p q = s9 := ⟨_, rfl⟩
                                  rw [hdat, hsid] at HLM
                                  have ST := veil (step_take' HP5.out HR5.out HNU.out.1.2 (by have := HNU.out; omega) HSP.out hsid hfin hdat hs9)
                                  have SR := veil (fun W z (x : SpI wm W g h B nn s9 s tv l z) (r : RvI wm W z bx bg bh g1 g2 #[.int .u8 (kd : Int), .slice bb.a bb.len bb.cap, .bool last, .int .i64 num, .int .u64 (fresh : Int), .int .u8 (f.kind : Int), .int .u64 (f.stream : Int), .int .u64 (f.offset : Int), .int .u64 (f.limit : Int), .int .u64 (f.code : Int), .bool f.fin, .slice f.data.a f.data.len f.data.cap, .slice f.ranges.a f.ranges.len f.ranges.cap] G0) => step_refTake' x r HSF.out HNU.out.1.2 (by have := HNU.out; omega) HSP.out hsid hfin hdat hs9)
                                  clear hdat hfin hsid hs9
                                  go_wp2_with fail
                                  refine ST.out.mono ?_
                                  rintro e5 w5 ⟨b, z6, rfl, ho, hp6, hr6, hz6⟩
                                  have HO6 := veil ho
                                  have HP6 := veil hp6
                                  have HR6 := veil hr6
                                  have HZ6 := veil hz6
                                  clear ho hp6 hr6 hz6 ST HP5 HR5 c0 c1 c2 c3 c4 m0 m1 HSP
                                  have hb6 := (Below.refl w5.heap.size w5).alloc (Nat.le_refl _) (.cells #[.int .u8 7, .int .u64 (sid : Int), .int .u64 (p : Int), .int .u64 0, .int .u64 0, .bool fin, .slice (some ⟨b, 0, none⟩) dat.length dat.length, .slice none 0 0] 28)
                                  have hp7 := zone_new HP6.out HR6.out hb6 8 (by decide) (fun q => q = w5.heap.size) (fun q e => by rw [e]; exact ⟨Nat.le_refl _, by simp⟩)
                                  have HA7 := veil (show Row (w5.alloc (.cells #[.int .u8 7, .int .u64 (sid : Int), .int .u64 (p : Int), .int .u64 0, .int .u64 0, .bool fin, .slice (some ⟨b, 0, none⟩) dat.length dat.length, .slice none 0 0] 28)) w5.heap.size 28 #[.int .u8 7, .int .u64 (sid : Int), .int .u64 (p : Int), .int .u64 0, .int .u64 0, .bool fin, .slice (some ⟨b, 0, none⟩) dat.length dat.length, .slice none 0 0] from Row.new _ _ _)
                                  obtain ⟨ba, hba⟩ : ∃ ba, w5.heap.size = ba := ⟨_, rfl⟩
                                  have HO7 := veil (own_belowK HO6.out hb6)
                                  go_upto_region 36 with fail
                                  rw [hba] at hp7 HA7
                                  have HZ8 := veil (show zset z6 8 (fun q => q = ba) 8 ba from by rw [zset_self])
                                  have HP7 := veil hp7.1
                                  have HR7 := veil hp7.2
                                  generalize (w5.alloc (.cells #[.int .u8 7, .int .u64 (sid : Int), .int .u64 (p : Int), .int .u64 0, .int .u64 0, .bool fin, .slice (some ⟨b, 0, none⟩) dat.length dat.length, .slice none 0 0] 28)) = W7 at *
                                  have HZ67 := veil (show zset z6 8 (fun q => q = ba) 6 b from by rw [zset_ne _ _ (by decide)]; exact HZ6.out)
                                  clear hb6 hp7 hba HP6 HR6 HO6 HZ6
                                  generalize zset z6 8 (fun q => q = ba) = z7 at *
                                  have c3 := HR7.out.x.cell 3
                                  have c4 := HR7.out.x.cell 4
                                  go_wp2_with fail
                                  refine (SR.out W7 z7 HP7.out HR7.out).mono ?_
                                  rintro e6 w6 ⟨d, z8, rfl, hdb, tk8, hp8, hr8, e8, k8⟩
                                  have HP8 := veil hp8
                                  have HR8 := veil hr8
                                  have HTK8 := veil tk8
                                  have HDB := veil hdb
                                  have HZ6 := veil (show z8 6 b from by rw [e8 6 (by decide) (by decide)]; exact HZ67.out)
                                  have HZ88 := veil (show z8 8 ba from by rw [e8 8 (by decide) (by decide)]; exact HZ8.out)
                                  have HA8 := veil (k8.row HA7.out (fun e => absurd (HP7.out.zs.ap 1 8 _ e HZ8.out) (by decide)))
                                  have HO8 := veil (own_keepK HO7.out (fun q e => by
                                    injection e with e
                                    have e : b = q := e
                                    subst e
                                    exact k8.block _ (HO7.out.lt _ rfl).2 (fun e => absurd (HP7.out.zs.ap 1 6 _ e HZ67.out) (by decide))))
                                  clear hp8 hr8 tk8 hdb e8 k8 SR HP7 HR7 HO7 HZ67 HZ8 HA7 c3 c4
                                  have hb6 := (Below.refl w6.heap.size w6).alloc (Nat.le_refl _) (.cells #[.int .u8 7, .int .u64 (sid : Int), .int .u64 (p : Int), .int .u64 0, .int .u64 0, .bool fin, .slice d.a d.len d.cap, .slice none 0 0] 28)
                                  have hp7 := zone_new HP8.out HR8.out hb6 9 (by decide) (fun q => q = w6.heap.size) (fun q e => by rw [e]; exact ⟨Nat.le_refl _, by simp⟩)
                                  have HC9 := veil (show Row (w6.alloc (.cells #[.int .u8 7, .int .u64 (sid : Int), .int .u64 (p : Int), .int .u64 0, .int .u64 0, .bool fin, .slice d.a d.len d.cap, .slice none 0 0] 28)) w6.heap.size 28 #[.int .u8 7, .int .u64 (sid : Int), .int .u64 (p : Int), .int .u64 0, .int .u64 0, .bool fin, .slice d.a d.len d.cap, .slice none 0 0] from Row.new _ _ _)
                                  obtain ⟨bc, hbc⟩ : ∃ bc, w6.heap.size = bc := ⟨_, rfl⟩
                                  have HO9 := veil (own_belowK HO8.out hb6)
                                  have HA9 := veil (HA8.out.alloc (.cells #[.int .u8 7, .int .u64 (sid : Int), .int .u64 (p : Int), .int .u64 0, .int .u64 0, .bool fin, .slice d.a d.len d.cap, .slice none 0 0] 28))
                                  have HTK9 := veil (HTK8.out.keep (z' := zset z8 9 (fun q => q = w6.heap.size) 7) (KeepP.of_below (st := fun _ => False) hb6) (fun _ _ q => q) (fun q e => by rw [zset_ne _ _ (by decide)]; exact e))
                                  have HZ69 := veil (show zset z8 9 (fun q => q = w6.heap.size) 6 b from by rw [zset_ne _ _ (by decide)]; exact HZ6.out)
                                  have HZ89 := veil (show zset z8 9 (fun q => q = w6.heap.size) 8 ba from by rw [zset_ne _ _ (by decide)]; exact HZ88.out)
                                  rw [hbc] at HTK9 HZ69 HZ89
                                  go_upto_region 37 with fail
                                  rw [hbc] at hp7 HC9
                                  have HZ9 := veil (show zset z8 9 (fun q => q = bc) 9 bc from by rw [zset_self])
                                  have HP9 := veil hp7.1
                                  have HR9 := veil hp7.2
                                  generalize (w6.alloc (.cells #[.int .u8 7, .int .u64 (sid : Int), .int .u64 (p : Int), .int .u64 0, .int .u64 0, .bool fin, .slice d.a d.len d.cap, .slice none 0 0] 28)) = W9 at *
                                  clear hb6 hp7 hbc HP8 HR8 HA8 HO8 HTK8 HZ6 HZ88
                                  generalize zset z8 9 (fun q => q = bc) = z9 at *
                                  have p0 : W9.cell? ⟨ba, 0, none⟩ = some (.int .u8 7) := HA9.out.cell 0
                                  have p1 : W9.cell? ⟨ba, 1, none⟩ = some (.int .u64 (sid : Int)) := HA9.out.cell 1
                                  have p2 : W9.cell? ⟨ba, 2, none⟩ = some (.int .u64 (p : Int)) := HA9.out.cell 2
                                  have p3 : W9.cell? ⟨ba, 3, none⟩ = some (.int .u64 0) := HA9.out.cell 3
                                  have p4 : W9.cell? ⟨ba, 4, none⟩ = some (.int .u64 0) := HA9.out.cell 4
                                  have p5 : W9.cell? ⟨ba, 5, none⟩ = some (.bool fin) := HA9.out.cell 5
                                  have p6 : W9.cell? ⟨ba, 6, none⟩ = some (.slice (some ⟨b, 0, none⟩) dat.length dat.length) := HA9.out.cell 6
                                  have p7 : W9.cell? ⟨ba, 7, none⟩ = some (.slice none 0 0) := HA9.out.cell 7
                                  have q0 : W9.cell? ⟨bc, 0, none⟩ = some (.int .u8 7) := HC9.out.cell 0
                                  have q1 : W9.cell? ⟨bc, 1, none⟩ = some (.int .u64 (sid : Int)) := HC9.out.cell 1
                                  have q2 : W9.cell? ⟨bc, 2, none⟩ = some (.int .u64 (p : Int)) := HC9.out.cell 2
                                  have q3 : W9.cell? ⟨bc, 3, none⟩ = some (.int .u64 0) := HC9.out.cell 3
                                  have q4 : W9.cell? ⟨bc, 4, none⟩ = some (.int .u64 0) := HC9.out.cell 4
                                  have q5 : W9.cell? ⟨bc, 5, none⟩ = some (.bool fin) := HC9.out.cell 5
                                  have q6 : W9.cell? ⟨bc, 6, none⟩ = some (.slice d.a d.len d.cap) := HC9.out.cell 6
                                  have q7 : W9.cell? ⟨bc, 7, none⟩ = some (.slice none 0 0) := HC9.out.cell 7
                                  have SF := veil (same_frame (frT sid p fin dat b) (frS sid p fin d) W9 (frT_ok HLM.out.1 HLM.out.2.1 rfl HO9.out) HTK9.out.ok (fr_same' HDB.out) (by have := HLM.out.2.2; show dat.length ≤ _; omega) (by show (0 : Nat) ≤ _; decide))
                                  go_wp2_with fail
                                  refine SF.out.mono ?_
                                  rintro e7 w7 ⟨rfl, hb7⟩
                                  have HPA := veil (HP9.out.below hb7)
                                  have HRA := veil (HR9.out.below hb7)
                                  have HAA := veil (HA9.out.below hb7 HA9.out.lt)
                                  have HCA := veil (HC9.out.below hb7 HC9.out.lt)
                                  have HOA := veil (own_belowK HO9.out hb7)
                                  have HTKA := veil (HTK9.out.keep (KeepP.of_below (st := fun _ => False) hb7) (fun _ _ q => q) (fun _ q => q))
                                  clear hb7 HP9 HR9 HA9 HC9 HO9 HTK9 SF p0 p1 p2 p3 p4 p5 p6 p7 q0 q1 q2 q3 q4 q5 q6 q7
                                  have p0 : w7.cell? ⟨ba, 0, none⟩ = some (.int .u8 7) := HAA.out.cell 0
                                  have p1 : w7.cell? ⟨ba, 1, none⟩ = some (.int .u64 (sid : Int)) := HAA.out.cell 1
                                  have p2 : w7.cell? ⟨ba, 2, none⟩ = some (.int .u64 (p : Int)) := HAA.out.cell 2
                                  have p3 : w7.cell? ⟨ba, 3, none⟩ = some (.int .u64 0) := HAA.out.cell 3
                                  have p4 : w7.cell? ⟨ba, 4, none⟩ = some (.int .u64 0) := HAA.out.cell 4
                                  have p5 : w7.cell? ⟨ba, 5, none⟩ = some (.bool fin) := HAA.out.cell 5
                                  have p6 : w7.cell? ⟨ba, 6, none⟩ = some (.slice (some ⟨b, 0, none⟩) dat.length dat.length) := HAA.out.cell 6
                                  have p7 : w7.cell? ⟨ba, 7, none⟩ = some (.slice none 0 0) := HAA.out.cell 7
                                  have TF := veil (tellFrame HPA.out (frT sid p fin dat b) (by have := HNN.out; have := HLT.out; have := HK1.out; omega) rfl HLM.out.2.2 HOA.out (fun q e => by
                                    injection e with e
                                    have e : b = q := e
                                    subst e
                                    exact HZ69.out))
                                  go_wp2_with fail
                                  refine TF.out.mono ?_
                                  rintro e8 w8 ⟨rfl, zb, hp8, e8, k8⟩
                                  have no : ∀ (i : Nat) (q : Nat), i ≠ 2 → i ≠ 6 → z9 i q → ¬ (z9 2 q ∨ z9 6 q) := fun i q c d e G0 => G0.elim (fun G0 => c (HPA.out.zs.ap i 2 q e G0)) (fun G0 => d (HPA.out.zs.ap i 6 q e G0))
                                  have HPB := veil hp8
                                  have HRB := veil (HRA.out.many (z' := zb) HPA.out.zs k8 (fun q e => e.elim (fun e => ⟨2, by decide, by decide, e⟩) (fun e => ⟨6, by decide, by decide, e⟩)) (fun q e => by rw [e8 4 (by decide) (by decide)]; exact e) (e8 5 (by decide) (by decide)))
                                  have HTKB := veil (HTKA.out.keep (z' := zb 7) k8 (fun q e => no 7 q (by decide) (by decide) e) (fun q e => by rw [e8 7 (by decide) (by decide)]; exact e))
                                  have HCB := veil (k8.row HCA.out (no 9 _ (by decide) (by decide) HZ9.out))
                                  clear hp8 e8 k8 no TF HPA HRA HAA HCA HOA HTKA HZ69 HZ89 HZ9 p0 p1 p2 p3 p4 p5 p6 p7
                                  have q0 : w8.cell? ⟨bc, 0, none⟩ = some (.int .u8 7) := HCB.out.cell 0
                                  have q1 : w8.cell? ⟨bc, 1, none⟩ = some (.int .u64 (sid : Int)) := HCB.out.cell 1
                                  have q2 : w8.cell? ⟨bc, 2, none⟩ = some (.int .u64 (p : Int)) := HCB.out.cell 2
                                  have q3 : w8.cell? ⟨bc, 3, none⟩ = some (.int .u64 0) := HCB.out.cell 3
                                  have q4 : w8.cell? ⟨bc, 4, none⟩ = some (.int .u64 0) := HCB.out.cell 4
                                  have q5 : w8.cell? ⟨bc, 5, none⟩ = some (.bool fin) := HCB.out.cell 5
                                  have q6 : w8.cell? ⟨bc, 6, none⟩ = some (.slice d.a d.len d.cap) := HCB.out.cell 6
                                  have q7 : w8.cell? ⟨bc, 7, none⟩ = some (.slice none 0 0) := HCB.out.cell 7
                                  have hbz := (Below.refl w8.heap.size w8).alloc (Nat.le_refl _) (.cells #[.int .u8 7, .int .u64 (sid : Int), .int .u64 (p : Int), .int .u64 0, .int .u64 0, .bool fin, .slice d.a d.len d.cap, .slice none 0 0] 28)
                                  have hpC := HPB.out.below hbz
                                  obtain ⟨v2, w2', u1, u2, u3⟩ := frs_append_run (w8.alloc (.cells #[.int .u8 7, .int .u64 (sid : Int), .int .u64 (p : Int), .int .u64 0, .int .u64 0, .bool fin, .slice d.a d.len d.cap, .slice none 0 0] 28)) 55 tv l (frS sid p fin d) w8.heap.size hpC.tk (Row.new _ _ _) (by have := HLL.out; have := HLT.out; have := HK1.out; omega)
                                  obtain ⟨zd, hpD, e9, e94, k9⟩ := hpC.app ((HTKB.out).keep (z' := zb 7) (KeepP.of_below (st := fun _ => False) hbz) (fun _ _ q => q) (fun _ q => q)) u2 u3
                                  have HP := veil hpD
                                  have HR := veil ((HRB.out.below hbz).many (z' := zd) hpC.zs k9 (fun q e => ⟨3, by decide, by decide, e⟩) e94 (e9 5 (by decide) (by decide) (by decide)))
                                  replace u1 : (Builtin.append_ #[55, 55] 55 #[tv, .slice (some ⟨w8.heap.size, 0, none⟩) 1 1]).run Tryz.prog (w8.alloc (.cells #[.int .u8 7, .int .u64 (sid : Int), .int .u64 (p : Int), .int .u64 0, .int .u64 0, .bool fin, .slice d.a d.len d.cap, .slice none 0 0] 28)) = .ok v2 w2' := u1
                                  have HQ1 := veil u1
                                  clear hbz hpC u1 u2 u3 hpD e9 e94 k9 HPB HRB HTKB HCB
                                  go_wp2_with (first
                                               | (with_reducible (show wpList _ _ _ (⟨some 229, Op.buildSlice _ _ _, _, _, _, _⟩ :: _) _ _)
                                                  refine wpL_val rfl (.slice (some ⟨w8.heap.size, 0, none⟩) 1 1) (w8.alloc (.cells #[.int .u8 7, .int .u64 (sid : Int), .int .u64 (p : Int), .int .u64 0, .int .u64 0, .bool fin, .slice d.a d.len d.cap, .slice none 0 0] 28)) (by as_aux_lemma => kernel_rfl) ?_)
                                               | (with_reducible (show wpList _ _ _ (⟨some 230, Op.call _, _, _, _, _⟩ :: _) _ _)
                                                  refine wpL_append rfl _ _ _ rfl _ _ _ _ rfl rfl HQ1.out ?_))
                                  go_meet
                                  case rel => exact ⟨nn + 1 + 1, _, _, _, by have := HNN.out; omega, by rw [List.length_append, List.length_singleton]; have := HLL.out; omega, HP.out, HR.out⟩
                            · as_aux_lemma =>
                                have HFD := veil HR5.out.okg.dl
                                have HR0 := veil (show RSp wm g h B nn s (gotH s G0) tv l bx bg bh g1 g2 #[.int .u8 (kd : Int), .slice bb.a bb.len bb.cap, .bool last, .int .i64 num, .int .u64 (fresh : Int), .int .u8 (f.kind : Int), .int .u64 (f.stream : Int), .int .u64 (f.offset : Int), .int .u64 (f.limit : Int), .int .u64 (f.code : Int), .bool f.fin, .slice f.data.a f.data.len f.data.cap, .slice f.ranges.a f.ranges.len f.ranges.cap] G0 (ENo) 0 (W5).drew from ⟨zz, (HP5.out).below ((Below.refl _ _).drew), (HR5.out).below ((Below.refl _ _).drew), trivial⟩)
                                go_wp2_with fail
                                refine (wpIn_wide (n := 4)).1 ?_
                                refine wpIn_region_any (by as_aux_lemma => kernel_rfl) ?_
                                refine anyIn_line (valGo g h g1 g2 s G0) (RSp wm g h B nn s (gotH s G0) tv l bx bg bh g1 g2 #[.int .u8 (kd : Int), .slice bb.a bb.len bb.cap, .bool last, .int .i64 num, .int .u64 (fresh : Int), .int .u8 (f.kind : Int), .int .u64 (f.stream : Int), .int .u64 (f.offset : Int), .int .u64 (f.limit : Int), .int .u64 (f.code : Int), .bool f.fin, .slice f.data.a f.data.len f.data.cap, .slice f.ranges.a f.ranges.len f.ranges.cap] G0 ENo) [2, 5] dsGo depGo (by as_aux_lemma => kernel_rfl) rfl (by decide) (by decide) ?ord ?inn ?h0 ?fix ?cal ?done
                                case ord =>
                                  intro k i j h1 h2
                                  match k, h1, h2 with
                                  | 0, h1, h2 => obtain rfl := Option.some.inj h1; obtain rfl := Option.some.inj h2; exact .inl (by decide)
                                  | k + 1, _, h2 => simp at h2
                                case inn => intro j hj; simp at hj; show j < 7; omega
                                case h0 => exact HR0.out
                                case fix =>
                                  intro x W m ii d hR hdi hc hdep
                                  obtain ⟨_, rv⟩ := hR.rv
                                  clear hR
                                  match ii, hdi, hc, hdep with
                                  | 0, hdi, _, _ =>
                                    obtain rfl := Option.some.inj hdi
                                    exact OI_value rfl rfl (about_none (by intro c h; cases h)) (by intro c h; cases h) (.pointer (some ⟨g, 0, none⟩)) W (by as_aux_lemma => kernel_rfl) ⟨rfl, rfl⟩
                                  | 1, hdi, _, _ =>
                                    obtain rfl := Option.some.inj hdi
                                    exact OI_value rfl rfl (about_none (by intro c h; cases h)) (by intro c h; cases h) (.agg (G0.twin g1 g2).cells) W (lgRun_row 28 _ rfl bh (by as_aux_lemma => kernel_rfl) _ _ 8 _ Tryz.underlying28 (by as_aux_lemma => kernel_rfl) rfl W rv.h) ⟨rfl, rfl⟩
                                  | 2, _, hc, _ => exact (hc (by simp)).elim
                                  | 3, hdi, _, _ =>
                                    obtain rfl := Option.some.inj hdi
                                    exact OI_value rfl rfl (about_none (by intro c h; cases h)) (by intro c h; cases h) (.pointer (some ⟨h, 0, none⟩)) W (by as_aux_lemma => kernel_rfl) ⟨rfl, rfl⟩
                                  | 4, hdi, _, _ =>
                                    obtain rfl := Option.some.inj hdi
                                    exact OI_value rfl rfl (about_none (by intro c h; cases h)) (by intro c h; cases h) (.agg G0.cells) W (lgRun_row 28 _ rfl bg (by as_aux_lemma => kernel_rfl) _ _ 8 _ Tryz.underlying28 (by as_aux_lemma => kernel_rfl) rfl W rv.g) ⟨rfl, rfl⟩
                                  | 5, _, hc, _ => exact (hc (by simp)).elim
                                  | 6, hdi, _, hdep =>
                                    obtain rfl := Option.some.inj hdi
                                    rw [updV_self (show x 2 = _ from hdep 2 (by simp [depGo])), updV_self (show (updV x 2 _) 5 = _ from hdep 5 (by simp [depGo]))]
                                    exact OI_value rfl rfl (about_none (by intro c h; cases h)) (by intro c h; cases h) (.bool false) W (run_neqS _ _ _ _ (hE s G0 : Nat) rfl (by as_aux_lemma => kernel_rfl) (by as_aux_lemma => kernel_rfl) W) ⟨rfl, rfl⟩
                                  | _ + 7, hdi, _, _ => simp [dsGo] at hdi
                                case cal =>
                                  intro x W k ii d hR hk hdi hdep
                                  match k, hk, hR with
                                  | 0, hk, hR =>
                                    obtain rfl := Option.some.inj hk
                                    obtain rfl := Option.some.inj hdi
                                    rw [updV_self (show x 0 = _ from hdep 0 (by simp [depGo])), updV_self (show (updV x 0 _) 1 = _ from hdep 1 (by simp [depGo]))]
                                    obtain ⟨z, hp, hr, he⟩ := hR
                                    refine OI_call rfl rfl (by intro c h; cases h) 19 #[.pointer (some ⟨g, 0, none⟩), .agg (G0.twin g1 g2).cells] (fun _ _ => trivial) (by as_aux_lemma => kernel_rfl) (by decide) ?_
                                    refine (callsIn_wide.2 (got_to2 hp.sn (G0.twin g1 g2) hr.okh (by have := HFD.out; show G0.data.len < _; omega))).mono ?_
                                    rintro e w9 ⟨rfl, o9, h9, a9⟩
                                    exact ⟨_, rfl, rfl, rsp_snd eno_keep hp hr he h9 a9⟩
                                  | 1, hk, hR =>
                                    obtain rfl := Option.some.inj hk
                                    obtain rfl := Option.some.inj hdi
                                    rw [updV_self (show x 3 = _ from hdep 3 (by simp [depGo])), updV_self (show (updV x 3 _) 4 = _ from hdep 4 (by simp [depGo]))]
                                    obtain ⟨z, hp, hr, he⟩ := hR
                                    refine OI_call rfl rfl (by intro c h; cases h) 20 #[.pointer (some ⟨h, 0, none⟩), .agg G0.cells] (fun _ _ => trivial) (by as_aux_lemma => kernel_rfl) (by decide) ?_
                                    refine (callsIn_wide.2 (refGot_to hp.rf G0 hr.okg.ok (by have := HFD.out; omega))).mono ?_
                                    rintro e w9 ⟨rfl, o9, h9, a9⟩
                                    exact ⟨_, rfl, rfl, rsp_ref eno_keep hp hr he h9 a9⟩
                                  | _ + 2, hk, _ => simp at hk
                                case done =>
                                  rintro W ⟨z9, hp9, hr9, he9⟩
                                  simp only [dsGo, putsV, valGo, Act.put, List.setIfInBounds_toArray, List.set_cons_succ, List.set_cons_zero, Nat.reduceAdd]
                                  have HP := veil hp9
                                  have HR := veil hr9
                                  clear hp9 hr9 he9 HR0 HP5 HR5 c0 c1 c2 c3 c4 m0 m1
                                  generalize gotH s G0 = s9 at *
                                  go_wp2_with fail
                                  go_meet
                                  case rel => exact ⟨nn, _, l, _, by have := HNN.out; omega, by have := HLL.out; omega, HP.out, HR.out⟩
                            · as_aux_lemma =>
                                have HFD := veil HR5.out.okg.dl
                                have HR0 := veil (show RSp wm g h B nn s (lostH s G0) tv l bx bg bh g1 g2 #[.int .u8 (kd : Int), .slice bb.a bb.len bb.cap, .bool last, .int .i64 num, .int .u64 (fresh : Int), .int .u8 (f.kind : Int), .int .u64 (f.stream : Int), .int .u64 (f.offset : Int), .int .u64 (f.limit : Int), .int .u64 (f.code : Int), .bool f.fin, .slice f.data.a f.data.len f.data.cap, .slice f.ranges.a f.ranges.len f.ranges.cap] G0 (ENo) 0 (W5).drew from ⟨zz, (HP5.out).below ((Below.refl _ _).drew), (HR5.out).below ((Below.refl _ _).drew), trivial⟩)
                                go_wp2_with fail
                                refine (wpIn_wide (n := 4)).1 ?_
                                refine wpIn_region_any (by as_aux_lemma => kernel_rfl) ?_
                                refine anyIn_line (valLoS g h g1 g2 s G0) (RSp wm g h B nn s (lostH s G0) tv l bx bg bh g1 g2 #[.int .u8 (kd : Int), .slice bb.a bb.len bb.cap, .bool last, .int .i64 num, .int .u64 (fresh : Int), .int .u8 (f.kind : Int), .int .u64 (f.stream : Int), .int .u64 (f.offset : Int), .int .u64 (f.limit : Int), .int .u64 (f.code : Int), .bool f.fin, .slice f.data.a f.data.len f.data.cap, .slice f.ranges.a f.ranges.len f.ranges.cap] G0 ENo) [2, 5] dsLoS depLoS (by as_aux_lemma => kernel_rfl) rfl (by decide) (by decide) ?ord ?inn ?h0 ?fix ?cal ?done
                                case ord =>
                                  intro k i j h1 h2
                                  match k, h1, h2 with
                                  | 0, h1, h2 => obtain rfl := Option.some.inj h1; obtain rfl := Option.some.inj h2; exact .inl (by decide)
                                  | k + 1, _, h2 => simp at h2
                                case inn => intro j hj; simp at hj; show j < 7; omega
                                case h0 => exact HR0.out
                                case fix =>
                                  intro x W m ii d hR hdi hc hdep
                                  obtain ⟨_, rv⟩ := hR.rv
                                  clear hR
                                  match ii, hdi, hc, hdep with
                                  | 0, hdi, _, _ =>
                                    obtain rfl := Option.some.inj hdi
                                    exact OI_value rfl rfl (about_none (by intro c h; cases h)) (by intro c h; cases h) (.pointer (some ⟨g, 0, none⟩)) W (by as_aux_lemma => kernel_rfl) ⟨rfl, rfl⟩
                                  | 1, hdi, _, _ =>
                                    obtain rfl := Option.some.inj hdi
                                    exact OI_value rfl rfl (about_none (by intro c h; cases h)) (by intro c h; cases h) (.agg (G0.twin g1 g2).cells) W (lgRun_row 28 _ rfl bh (by as_aux_lemma => kernel_rfl) _ _ 8 _ Tryz.underlying28 (by as_aux_lemma => kernel_rfl) rfl W rv.h) ⟨rfl, rfl⟩
                                  | 2, _, hc, _ => exact (hc (by simp)).elim
                                  | 3, hdi, _, _ =>
                                    obtain rfl := Option.some.inj hdi
                                    exact OI_value rfl rfl (about_none (by intro c h; cases h)) (by intro c h; cases h) (.pointer (some ⟨h, 0, none⟩)) W (by as_aux_lemma => kernel_rfl) ⟨rfl, rfl⟩
                                  | 4, hdi, _, _ =>
                                    obtain rfl := Option.some.inj hdi
                                    exact OI_value rfl rfl (about_none (by intro c h; cases h)) (by intro c h; cases h) (.agg G0.cells) W (lgRun_row 28 _ rfl bg (by as_aux_lemma => kernel_rfl) _ _ 8 _ Tryz.underlying28 (by as_aux_lemma => kernel_rfl) rfl W rv.g) ⟨rfl, rfl⟩
                                  | 5, _, hc, _ => exact (hc (by simp)).elim
                                  | 6, hdi, _, hdep =>
                                    obtain rfl := Option.some.inj hdi
                                    rw [updV_self (show x 2 = _ from hdep 2 (by simp [depLoS])), updV_self (show (updV x 2 _) 5 = _ from hdep 5 (by simp [depLoS]))]
                                    exact OI_value rfl rfl (about_none (by intro c h; cases h)) (by intro c h; cases h) (.bool false) W (run_neqS _ _ _ _ (hE s G0 : Nat) rfl (by as_aux_lemma => kernel_rfl) (by as_aux_lemma => kernel_rfl) W) ⟨rfl, rfl⟩
                                  | _ + 7, hdi, _, _ => simp [dsLoS] at hdi
                                case cal =>
                                  intro x W k ii d hR hk hdi hdep
                                  match k, hk, hR with
                                  | 0, hk, hR =>
                                    obtain rfl := Option.some.inj hk
                                    obtain rfl := Option.some.inj hdi
                                    rw [updV_self (show x 0 = _ from hdep 0 (by simp [depLoS])), updV_self (show (updV x 0 _) 1 = _ from hdep 1 (by simp [depLoS]))]
                                    obtain ⟨z, hp, hr, he⟩ := hR
                                    refine OI_call rfl rfl (by intro c h; cases h) 21 #[.pointer (some ⟨g, 0, none⟩), .agg (G0.twin g1 g2).cells] (fun _ _ => trivial) (by as_aux_lemma => kernel_rfl) (by decide) ?_
                                    refine (callsIn_wide.2 (lost_to2 hp.sn (G0.twin g1 g2) hr.okh (by have := HFD.out; show G0.data.len < _; omega))).mono ?_
                                    rintro e w9 ⟨rfl, o9, h9, a9⟩
                                    exact ⟨_, rfl, rfl, rsp_snd eno_keep hp hr he h9 a9⟩
                                  | 1, hk, hR =>
                                    obtain rfl := Option.some.inj hk
                                    obtain rfl := Option.some.inj hdi
                                    rw [updV_self (show x 3 = _ from hdep 3 (by simp [depLoS])), updV_self (show (updV x 3 _) 4 = _ from hdep 4 (by simp [depLoS]))]
                                    obtain ⟨z, hp, hr, he⟩ := hR
                                    refine OI_call rfl rfl (by intro c h; cases h) 22 #[.pointer (some ⟨h, 0, none⟩), .agg G0.cells] (fun _ _ => trivial) (by as_aux_lemma => kernel_rfl) (by decide) ?_
                                    refine (callsIn_wide.2 (refLost_to hp.rf G0 hr.okg.ok (by have := HFD.out; omega))).mono ?_
                                    rintro e w9 ⟨rfl, o9, h9, a9⟩
                                    exact ⟨_, rfl, rfl, rsp_ref eno_keep hp hr he h9 a9⟩
                                  | _ + 2, hk, _ => simp at hk
                                case done =>
                                  rintro W ⟨z9, hp9, hr9, he9⟩
                                  simp only [dsLoS, putsV, valLoS, Act.put, List.setIfInBounds_toArray, List.set_cons_succ, List.set_cons_zero, Nat.reduceAdd]
                                  have HP := veil hp9
                                  have HR := veil hr9
                                  clear hp9 hr9 he9 HR0 HP5 HR5 c0 c1 c2 c3 c4 m0 m1
                                  generalize lostH s G0 = s9 at *
                                  go_wp2_with fail
                                  go_meet
                                  case rel => exact ⟨nn, _, l, _, by have := HNN.out; omega, by have := HLL.out; omega, HP.out, HR.out⟩
                            · as_aux_lemma =>
                                have HFD := veil HR5.out.okg.dl
                                have HR0 := veil (show RSp wm g h B nn s (gotH s G0) tv l bx bg bh g1 g2 #[.int .u8 (kd : Int), .slice bb.a bb.len bb.cap, .bool last, .int .i64 num, .int .u64 (fresh : Int), .int .u8 (f.kind : Int), .int .u64 (f.stream : Int), .int .u64 (f.offset : Int), .int .u64 (f.limit : Int), .int .u64 (f.code : Int), .bool f.fin, .slice f.data.a f.data.len f.data.cap, .slice f.ranges.a f.ranges.len f.ranges.cap] G0 (ENo) 0 (W5).drew from ⟨zz, (HP5.out).below ((Below.refl _ _).drew), (HR5.out).below ((Below.refl _ _).drew), trivial⟩)
                                go_wp2_with fail
                                refine (wpIn_wide (n := 4)).1 ?_
                                refine wpIn_region_any (by as_aux_lemma => kernel_rfl) ?_
                                refine anyIn_line (valGo g h g1 g2 s G0) (RSp wm g h B nn s (gotH s G0) tv l bx bg bh g1 g2 #[.int .u8 (kd : Int), .slice bb.a bb.len bb.cap, .bool last, .int .i64 num, .int .u64 (fresh : Int), .int .u8 (f.kind : Int), .int .u64 (f.stream : Int), .int .u64 (f.offset : Int), .int .u64 (f.limit : Int), .int .u64 (f.code : Int), .bool f.fin, .slice f.data.a f.data.len f.data.cap, .slice f.ranges.a f.ranges.len f.ranges.cap] G0 ENo) [2, 5] dsGo depGo (by as_aux_lemma => kernel_rfl) rfl (by decide) (by decide) ?ord ?inn ?h0 ?fix ?cal ?done
                                case ord =>
                                  intro k i j h1 h2
                                  match k, h1, h2 with
                                  | 0, h1, h2 => obtain rfl := Option.some.inj h1; obtain rfl := Option.some.inj h2; exact .inl (by decide)
                                  | k + 1, _, h2 => simp at h2
                                case inn => intro j hj; simp at hj; show j < 7; omega
                                case h0 => exact HR0.out
                                case fix =>
                                  intro x W m ii d hR hdi hc hdep
                                  obtain ⟨_, rv⟩ := hR.rv
                                  clear hR
                                  match ii, hdi, hc, hdep with
                                  | 0, hdi, _, _ =>
                                    obtain rfl := Option.some.inj hdi
                                    exact OI_value rfl rfl (about_none (by intro c h; cases h)) (by intro c h; cases h) (.pointer (some ⟨g, 0, none⟩)) W (by as_aux_lemma => kernel_rfl) ⟨rfl, rfl⟩
                                  | 1, hdi, _, _ =>
                                    obtain rfl := Option.some.inj hdi
                                    exact OI_value rfl rfl (about_none (by intro c h; cases h)) (by intro c h; cases h) (.agg (G0.twin g1 g2).cells) W (lgRun_row 28 _ rfl bh (by as_aux_lemma => kernel_rfl) _ _ 8 _ Tryz.underlying28 (by as_aux_lemma => kernel_rfl) rfl W rv.h) ⟨rfl, rfl⟩
                                  | 2, _, hc, _ => exact (hc (by simp)).elim
                                  | 3, hdi, _, _ =>
                                    obtain rfl := Option.some.inj hdi
                                    exact OI_value rfl rfl (about_none (by intro c h; cases h)) (by intro c h; cases h) (.pointer (some ⟨h, 0, none⟩)) W (by as_aux_lemma => kernel_rfl) ⟨rfl, rfl⟩
                                  | 4, hdi, _, _ =>
                                    obtain rfl := Option.some.inj hdi
                                    exact OI_value rfl rfl (about_none (by intro c h; cases h)) (by intro c h; cases h) (.agg G0.cells) W (lgRun_row 28 _ rfl bg (by as_aux_lemma => kernel_rfl) _ _ 8 _ Tryz.underlying28 (by as_aux_lemma => kernel_rfl) rfl W rv.g) ⟨rfl, rfl⟩
                                  | 5, _, hc, _ => exact (hc (by simp)).elim
                                  | 6, hdi, _, hdep =>
                                    obtain rfl := Option.some.inj hdi
                                    rw [updV_self (show x 2 = _ from hdep 2 (by simp [depGo])), updV_self (show (updV x 2 _) 5 = _ from hdep 5 (by simp [depGo]))]
                                    exact OI_value rfl rfl (about_none (by intro c h; cases h)) (by intro c h; cases h) (.bool false) W (run_neqS _ _ _ _ (hE s G0 : Nat) rfl (by as_aux_lemma => kernel_rfl) (by as_aux_lemma => kernel_rfl) W) ⟨rfl, rfl⟩
                                  | _ + 7, hdi, _, _ => simp [dsGo] at hdi
                                case cal =>
                                  intro x W k ii d hR hk hdi hdep
                                  match k, hk, hR with
                                  | 0, hk, hR =>
                                    obtain rfl := Option.some.inj hk
                                    obtain rfl := Option.some.inj hdi
                                    rw [updV_self (show x 0 = _ from hdep 0 (by simp [depGo])), updV_self (show (updV x 0 _) 1 = _ from hdep 1 (by simp [depGo]))]
                                    obtain ⟨z, hp, hr, he⟩ := hR
                                    refine OI_call rfl rfl (by intro c h; cases h) 19 #[.pointer (some ⟨g, 0, none⟩), .agg (G0.twin g1 g2).cells] (fun _ _ => trivial) (by as_aux_lemma => kernel_rfl) (by decide) ?_
                                    refine (callsIn_wide.2 (got_to2 hp.sn (G0.twin g1 g2) hr.okh (by have := HFD.out; show G0.data.len < _; omega))).mono ?_
                                    rintro e w9 ⟨rfl, o9, h9, a9⟩
                                    exact ⟨_, rfl, rfl, rsp_snd eno_keep hp hr he h9 a9⟩
                                  | 1, hk, hR =>
                                    obtain rfl := Option.some.inj hk
                                    obtain rfl := Option.some.inj hdi
                                    rw [updV_self (show x 3 = _ from hdep 3 (by simp [depGo])), updV_self (show (updV x 3 _) 4 = _ from hdep 4 (by simp [depGo]))]
                                    obtain ⟨z, hp, hr, he⟩ := hR
                                    refine OI_call rfl rfl (by intro c h; cases h) 20 #[.pointer (some ⟨h, 0, none⟩), .agg G0.cells] (fun _ _ => trivial) (by as_aux_lemma => kernel_rfl) (by decide) ?_
                                    refine (callsIn_wide.2 (refGot_to hp.rf G0 hr.okg.ok (by have := HFD.out; omega))).mono ?_
                                    rintro e w9 ⟨rfl, o9, h9, a9⟩
                                    exact ⟨_, rfl, rfl, rsp_ref eno_keep hp hr he h9 a9⟩
                                  | _ + 2, hk, _ => simp at hk
                                case done =>
                                  rintro W ⟨z9, hp9, hr9, he9⟩
                                  simp only [dsGo, putsV, valGo, Act.put, List.setIfInBounds_toArray, List.set_cons_succ, List.set_cons_zero, Nat.reduceAdd]
                                  have HP := veil hp9
                                  have HR := veil hr9
                                  clear hp9 hr9 he9 HR0 HP5 HR5 c0 c1 c2 c3 c4 m0 m1
                                  generalize gotH s G0 = s9 at *
                                  go_wp2_with fail
                                  go_meet
                                  case rel => exact ⟨nn, _, l, _, by have := HNN.out; omega, by have := HLL.out; omega, HP.out, HR.out⟩
                            · as_aux_lemma =>
                                have HFD := veil HR5.out.okg.dl
                                have HR0 := veil (show RSp wm g h B nn s (lostH s G0) tv l bx bg bh g1 g2 #[.int .u8 (kd : Int), .slice bb.a bb.len bb.cap, .bool last, .int .i64 num, .int .u64 (fresh : Int), .int .u8 (f.kind : Int), .int .u64 (f.stream : Int), .int .u64 (f.offset : Int), .int .u64 (f.limit : Int), .int .u64 (f.code : Int), .bool f.fin, .slice f.data.a f.data.len f.data.cap, .slice f.ranges.a f.ranges.len f.ranges.cap] G0 (ENo) 0 (W5).drew from ⟨zz, (HP5.out).below ((Below.refl _ _).drew), (HR5.out).below ((Below.refl _ _).drew), trivial⟩)
                                go_wp2_with fail
                                refine (wpIn_wide (n := 4)).1 ?_
                                refine wpIn_region_any (by as_aux_lemma => kernel_rfl) ?_
                                refine anyIn_line (valLoS g h g1 g2 s G0) (RSp wm g h B nn s (lostH s G0) tv l bx bg bh g1 g2 #[.int .u8 (kd : Int), .slice bb.a bb.len bb.cap, .bool last, .int .i64 num, .int .u64 (fresh : Int), .int .u8 (f.kind : Int), .int .u64 (f.stream : Int), .int .u64 (f.offset : Int), .int .u64 (f.limit : Int), .int .u64 (f.code : Int), .bool f.fin, .slice f.data.a f.data.len f.data.cap, .slice f.ranges.a f.ranges.len f.ranges.cap] G0 ENo) [2, 5] dsLoS depLoS (by as_aux_lemma => kernel_rfl) rfl (by decide) (by decide) ?ord ?inn ?h0 ?fix ?cal ?done
                                case ord =>
                                  intro k i j h1 h2
                                  match k, h1, h2 with
                                  | 0, h1, h2 => obtain rfl := Option.some.inj h1; obtain rfl := Option.some.inj h2; exact .inl (by decide)
                                  | k + 1, _, h2 => simp at h2
                                case inn => intro j hj; simp at hj; show j < 7; omega
                                case h0 => exact HR0.out
                                case fix =>
                                  intro x W m ii d hR hdi hc hdep
                                  obtain ⟨_, rv⟩ := hR.rv
                                  clear hR
                                  match ii, hdi, hc, hdep with
                                  | 0, hdi, _, _ =>
                                    obtain rfl := Option.some.inj hdi
                                    exact OI_value rfl rfl (about_none (by intro c h; cases h)) (by intro c h; cases h) (.pointer (some ⟨g, 0, none⟩)) W (by as_aux_lemma => kernel_rfl) ⟨rfl, rfl⟩
                                  | 1, hdi, _, _ =>
                                    obtain rfl := Option.some.inj hdi
                                    exact OI_value rfl rfl (about_none (by intro c h; cases h)) (by intro c h; cases h) (.agg (G0.twin g1 g2).cells) W (lgRun_row 28 _ rfl bh (by as_aux_lemma => kernel_rfl) _ _ 8 _ Tryz.underlying28 (by as_aux_lemma => kernel_rfl) rfl W rv.h) ⟨rfl, rfl⟩
                                  | 2, _, hc, _ => exact (hc (by simp)).elim
                                  | 3, hdi, _, _ =>
                                    obtain rfl := Option.some.inj hdi
                                    exact OI_value rfl rfl (about_none (by intro c h; cases h)) (by intro c h; cases h) (.pointer (some ⟨h, 0, none⟩)) W (by as_aux_lemma => kernel_rfl) ⟨rfl, rfl⟩
                                  | 4, hdi, _, _ =>
                                    obtain rfl := Option.some.inj hdi
                                    exact OI_value rfl rfl (about_none (by intro c h; cases h)) (by intro c h; cases h) (.agg G0.cells) W (lgRun_row 28 _ rfl bg (by as_aux_lemma => kernel_rfl) _ _ 8 _ Tryz.underlying28 (by as_aux_lemma => kernel_rfl) rfl W rv.g) ⟨rfl, rfl⟩
                                  | 5, _, hc, _ => exact (hc (by simp)).elim
                                  | 6, hdi, _, hdep =>
                                    obtain rfl := Option.some.inj hdi
                                    rw [updV_self (show x 2 = _ from hdep 2 (by simp [depLoS])), updV_self (show (updV x 2 _) 5 = _ from hdep 5 (by simp [depLoS]))]
                                    exact OI_value rfl rfl (about_none (by intro c h; cases h)) (by intro c h; cases h) (.bool false) W (run_neqS _ _ _ _ (hE s G0 : Nat) rfl (by as_aux_lemma => kernel_rfl) (by as_aux_lemma => kernel_rfl) W) ⟨rfl, rfl⟩
                                  | _ + 7, hdi, _, _ => simp [dsLoS] at hdi
                                case cal =>
                                  intro x W k ii d hR hk hdi hdep
                                  match k, hk, hR with
                                  | 0, hk, hR =>
                                    obtain rfl := Option.some.inj hk
                                    obtain rfl := Option.some.inj hdi
                                    rw [updV_self (show x 0 = _ from hdep 0 (by simp [depLoS])), updV_self (show (updV x 0 _) 1 = _ from hdep 1 (by simp [depLoS]))]
                                    obtain ⟨z, hp, hr, he⟩ := hR
                                    refine OI_call rfl rfl (by intro c h; cases h) 21 #[.pointer (some ⟨g, 0, none⟩), .agg (G0.twin g1 g2).cells] (fun _ _ => trivial) (by as_aux_lemma => kernel_rfl) (by decide) ?_
                                    refine (callsIn_wide.2 (lost_to2 hp.sn (G0.twin g1 g2) hr.okh (by have := HFD.out; show G0.data.len < _; omega))).mono ?_
                                    rintro e w9 ⟨rfl, o9, h9, a9⟩
                                    exact ⟨_, rfl, rfl, rsp_snd eno_keep hp hr he h9 a9⟩
                                  | 1, hk, hR =>
                                    obtain rfl := Option.some.inj hk
                                    obtain rfl := Option.some.inj hdi
                                    rw [updV_self (show x 3 = _ from hdep 3 (by simp [depLoS])), updV_self (show (updV x 3 _) 4 = _ from hdep 4 (by simp [depLoS]))]
                                    obtain ⟨z, hp, hr, he⟩ := hR
                                    refine OI_call rfl rfl (by intro c h; cases h) 22 #[.pointer (some ⟨h, 0, none⟩), .agg G0.cells] (fun _ _ => trivial) (by as_aux_lemma => kernel_rfl) (by decide) ?_
                                    refine (callsIn_wide.2 (refLost_to hp.rf G0 hr.okg.ok (by have := HFD.out; omega))).mono ?_
                                    rintro e w9 ⟨rfl, o9, h9, a9⟩
                                    exact ⟨_, rfl, rfl, rsp_ref eno_keep hp hr he h9 a9⟩
                                  | _ + 2, hk, _ => simp at hk
                                case done =>
                                  rintro W ⟨z9, hp9, hr9, he9⟩
                                  simp only [dsLoS, putsV, valLoS, Act.put, List.setIfInBounds_toArray, List.set_cons_succ, List.set_cons_zero, Nat.reduceAdd]
                                  have HP := veil hp9
                                  have HR := veil hr9
                                  clear hp9 hr9 he9 HR0 HP5 HR5 c0 c1 c2 c3 c4 m0 m1
                                  generalize lostH s G0 = s9 at *
                                  go_wp2_with fail
                                  go_meet
                                  case rel => exact ⟨nn, _, l, _, by have := HNN.out; omega, by have := HLL.out; omega, HP.out, HR.out⟩
                            · as_aux_lemma =>
                                have HR0 := veil (show RSp wm g h B nn s (raise s fresh) tv l bx bg bh g1 g2 #[.int .u8 (kd : Int), .slice bb.a bb.len bb.cap, .bool last, .int .i64 num, .int .u64 (fresh : Int), .int .u8 (f.kind : Int), .int .u64 (f.stream : Int), .int .u64 (f.offset : Int), .int .u64 (f.limit : Int), .int .u64 (f.code : Int), .bool f.fin, .slice f.data.a f.data.len f.data.cap, .slice f.ranges.a f.ranges.len f.ranges.cap] G0 (ENo) 0 (W5).drew from ⟨zz, (HP5.out).below ((Below.refl _ _).drew), (HR5.out).below ((Below.refl _ _).drew), trivial⟩)
                                go_wp2_with fail
                                refine (wpIn_wide (n := 4)).1 ?_
                                refine wpIn_region_any (by as_aux_lemma => kernel_rfl) ?_
                                refine anyIn_line (valRa g h bx fresh) (RSp wm g h B nn s (raise s fresh) tv l bx bg bh g1 g2 #[.int .u8 (kd : Int), .slice bb.a bb.len bb.cap, .bool last, .int .i64 num, .int .u64 (fresh : Int), .int .u8 (f.kind : Int), .int .u64 (f.stream : Int), .int .u64 (f.offset : Int), .int .u64 (f.limit : Int), .int .u64 (f.code : Int), .bool f.fin, .slice f.data.a f.data.len f.data.cap, .slice f.ranges.a f.ranges.len f.ranges.cap] G0 ENo) [3, 7] dsRa depRa (by as_aux_lemma => kernel_rfl) rfl (by decide) (by decide) ?ord ?inn ?h0 ?fix ?cal ?done
                                case ord =>
                                  intro k i j h1 h2
                                  match k, h1, h2 with
                                  | 0, h1, h2 => obtain rfl := Option.some.inj h1; obtain rfl := Option.some.inj h2; exact .inl (by decide)
                                  | k + 1, _, h2 => simp at h2
                                case inn => intro j hj; simp at hj; show j < 9; omega
                                case h0 => exact HR0.out
                                case fix =>
                                  intro x W m ii d hR hdi hc hdep
                                  obtain ⟨_, rv⟩ := hR.rv
                                  clear hR
                                  match ii, hdi, hc, hdep with
                                  | 0, hdi, _, _ =>
                                    obtain rfl := Option.some.inj hdi
                                    exact OI_value rfl rfl (about_none (by intro c h; cases h)) (by intro c h; cases h) (.pointer (some ⟨g, 0, none⟩)) W (by as_aux_lemma => kernel_rfl) ⟨rfl, rfl⟩
                                  | 1, hdi, _, _ =>
                                    obtain rfl := Option.some.inj hdi
                                    exact OI_value rfl rfl (about_none (by intro c h; cases h)) (by intro c h; cases h) (.pointer (some ⟨bx, 4, none⟩)) W (by as_aux_lemma => kernel_rfl) ⟨rfl, rfl⟩
                                  | 2, hdi, _, hdep =>
                                    obtain rfl := Option.some.inj hdi
                                    rw [updV_self (show x 1 = _ from hdep 1 (by simp [depRa]))]
                                    exact OI_value rfl rfl (about_none (by intro c h; cases h)) (by intro c h; cases h) (.int .u64 (fresh : Int)) W (lgRun_cell 22 _ ⟨bx, 4, none⟩ _ _ rfl (by as_aux_lemma => kernel_rfl) Tryz.underlying22 rfl W (rv.x.cell 4)) ⟨rfl, rfl⟩
                                  | 3, _, hc, _ => exact (hc (by simp)).elim
                                  | 4, hdi, _, _ =>
                                    obtain rfl := Option.some.inj hdi
                                    exact OI_value rfl rfl (about_none (by intro c h; cases h)) (by intro c h; cases h) (.pointer (some ⟨h, 0, none⟩)) W (by as_aux_lemma => kernel_rfl) ⟨rfl, rfl⟩
                                  | 5, hdi, _, _ =>
                                    obtain rfl := Option.some.inj hdi
                                    exact OI_value rfl rfl (about_none (by intro c h; cases h)) (by intro c h; cases h) (.pointer (some ⟨bx, 4, none⟩)) W (by as_aux_lemma => kernel_rfl) ⟨rfl, rfl⟩
                                  | 6, hdi, _, hdep =>
                                    obtain rfl := Option.some.inj hdi
                                    rw [updV_self (show x 5 = _ from hdep 5 (by simp [depRa]))]
                                    exact OI_value rfl rfl (about_none (by intro c h; cases h)) (by intro c h; cases h) (.int .u64 (fresh : Int)) W (lgRun_cell 22 _ ⟨bx, 4, none⟩ _ _ rfl (by as_aux_lemma => kernel_rfl) Tryz.underlying22 rfl W (rv.x.cell 4)) ⟨rfl, rfl⟩
                                  | 7, _, hc, _ => exact (hc (by simp)).elim
                                  | 8, hdi, _, hdep =>
                                    obtain rfl := Option.some.inj hdi
                                    rw [updV_self (show x 3 = _ from hdep 3 (by simp [depRa])), updV_self (show (updV x 3 _) 7 = _ from hdep 7 (by simp [depRa]))]
                                    exact OI_value rfl rfl (about_none (by intro c h; cases h)) (by intro c h; cases h) (.bool false) W (run_neqS _ _ _ _ (raiseE fresh : Nat) rfl (by as_aux_lemma => kernel_rfl) (by as_aux_lemma => kernel_rfl) W) ⟨rfl, rfl⟩
                                  | _ + 9, hdi, _, _ => simp [dsRa] at hdi
                                case cal =>
                                  intro x W k ii d hR hk hdi hdep
                                  match k, hk, hR with
                                  | 0, hk, hR =>
                                    obtain rfl := Option.some.inj hk
                                    obtain rfl := Option.some.inj hdi
                                    rw [updV_self (show x 0 = _ from hdep 0 (by simp [depRa])), updV_self (show (updV x 0 _) 2 = _ from hdep 2 (by simp [depRa]))]
                                    obtain ⟨z, hp, hr, he⟩ := hR
                                    refine OI_call rfl rfl (by intro c h; cases h) 23 #[.pointer (some ⟨g, 0, none⟩), .int .u64 (fresh : Int)] (fun _ _ => trivial) (by as_aux_lemma => kernel_rfl) (by decide) ?_
                                    refine (callsIn_wide.2 (raise_any W g s (z 0) hp.sn fresh)).mono ?_
                                    rintro e w9 ⟨rfl, o9, h9, a9⟩
                                    exact ⟨_, rfl, rfl, rsp_snd eno_keep hp hr he h9 a9⟩
                                  | 1, hk, hR =>
                                    obtain rfl := Option.some.inj hk
                                    obtain rfl := Option.some.inj hdi
                                    rw [updV_self (show x 4 = _ from hdep 4 (by simp [depRa])), updV_self (show (updV x 4 _) 6 = _ from hdep 6 (by simp [depRa]))]
                                    obtain ⟨z, hp, hr, he⟩ := hR
                                    refine OI_call rfl rfl (by intro c h; cases h) 24 #[.pointer (some ⟨h, 0, none⟩), .int .u64 (fresh : Int)] (fun _ _ => trivial) (by as_aux_lemma => kernel_rfl) (by decide) ?_
                                    refine (callsIn_wide.2 (refRaise_any hp.rf fresh)).mono ?_
                                    rintro e w9 ⟨rfl, o9, h9, a9⟩
                                    exact ⟨_, rfl, rfl, rsp_ref eno_keep hp hr he h9 a9⟩
                                  | _ + 2, hk, _ => simp at hk
                                case done =>
                                  rintro W ⟨z9, hp9, hr9, he9⟩
                                  simp only [dsRa, putsV, valRa, Act.put, List.setIfInBounds_toArray, List.set_cons_succ, List.set_cons_zero, Nat.reduceAdd]
                                  have HP := veil hp9
                                  have HR := veil hr9
                                  clear hp9 hr9 he9 HR0 HP5 HR5 c0 c1 c2 c3 c4 m0 m1
                                  generalize raise s fresh = s9 at *
                                  go_wp2_with fail
                                  go_meet
                                  case rel => exact ⟨nn, _, l, _, by have := HNN.out; omega, by have := HLL.out; omega, HP.out, HR.out⟩
                            · as_aux_lemma =>
                                obtain ⟨s9, hs9⟩ : ∃ s9, (if resetE s = 0 then reset s else s) = s9 := ⟨_, rfl⟩
                                obtain ⟨F9, hF⟩ : ∃ F9, (if resetE s = 0 then s.fresh else 0 : Nat) = F9 := ⟨_, rfl⟩
                                obtain ⟨E9, hE9⟩ : ∃ E9, resetE s = E9 := ⟨_, rfl⟩
                                have R1 := reset_any HP5.out.sn
                                rw [hs9, hF, hE9] at R1
                                have R1 := veil R1
                                have R2 := veil (fun W (o : Nat → Prop) (x : RfS W h s o) => refReset_any x)
                                rw [hs9, hF, hE9] at R2
                                have nE : ((E9 : Int) != (E9 : Int)) = false := by simp
                                have nF : ((F9 : Int) != (F9 : Int)) = false := by simp
                                clear hs9 hF hE9
                                go_wp2_with fail
                                refine R1.out.mono ?_
                                rintro e5 w5 ⟨o5, h5, a5, rfl⟩
                                have HP6 := veil (HP5.out.snd h5 a5)
                                have HR6 := veil (HR5.out.step (o' := o5) HP5.out.zs a5.1 (by decide) (by decide))
                                clear h5 a5 HP5 HR5 c0 c1 c2 c3 c4 m0 m1 R1
                                generalize zset zz 0 o5 = z6 at *
                                go_wp2_with fail
                                refine (R2.out w5 _ HP6.out.rf).mono ?_
                                rintro e6 w6 ⟨o6, h6, a6, rfl⟩
                                have HP := veil (HP6.out.ref h6 a6)
                                have HR := veil (HR6.out.step (o' := o6) HP6.out.zs a6.1 (by decide) (by decide))
                                clear h6 a6 HP6 HR6 R2
                                generalize zset z6 1 o6 = z9 at *
                                go_wp2_with fail
                                go_meet
                                case rel => exact ⟨nn, _, l, _, by have := HNN.out; omega, by have := HLL.out; omega, HP.out, HR.out⟩
                          case rest =>
                            as_aux_lemma =>
                              obtain ⟨N9, s9, l9, z9, hN9, hl9, hp9, hr9⟩ := hcut
                              have HP := veil hp9
                              have HR := veil hr9
                              have HN9 := veil hN9
                              have HL9 := veil hl9
                              clear hN9 hl9 hp9 hr9 HP5 HR5 c0 c1 c2 c3 c4 m0 m1 hk3
                              have p0 : wc.cell? ⟨bh, 0, none⟩ = some (.int .u8 (G0.kind : Int)) := HR.out.h.cell 0
                              have p1 : wc.cell? ⟨bh, 1, none⟩ = some (.int .u64 (G0.stream : Int)) := HR.out.h.cell 1
                              have p2 : wc.cell? ⟨bh, 2, none⟩ = some (.int .u64 (G0.offset : Int)) := HR.out.h.cell 2
                              have p3 : wc.cell? ⟨bh, 3, none⟩ = some (.int .u64 (G0.limit : Int)) := HR.out.h.cell 3
                              have p4 : wc.cell? ⟨bh, 4, none⟩ = some (.int .u64 (G0.code : Int)) := HR.out.h.cell 4
                              have p5 : wc.cell? ⟨bh, 5, none⟩ = some (.bool G0.fin) := HR.out.h.cell 5
                              have p6 : wc.cell? ⟨bh, 6, none⟩ = some (.slice (some ⟨g1, 0, none⟩) G0.data.len (G0.data.len + 1 : Nat)) := HR.out.h.cell 6
                              have p7 : wc.cell? ⟨bh, 7, none⟩ = some (.slice (some ⟨g2, 0, none⟩) G0.ranges.len (G0.ranges.len + 1 : Nat)) := HR.out.h.cell 7
                              have q0 : wc.cell? ⟨bg, 0, none⟩ = some (.int .u8 (G0.kind : Int)) := HR.out.g.cell 0
                              have q1 : wc.cell? ⟨bg, 1, none⟩ = some (.int .u64 (G0.stream : Int)) := HR.out.g.cell 1
                              have q2 : wc.cell? ⟨bg, 2, none⟩ = some (.int .u64 (G0.offset : Int)) := HR.out.g.cell 2
                              have q3 : wc.cell? ⟨bg, 3, none⟩ = some (.int .u64 (G0.limit : Int)) := HR.out.g.cell 3
                              have q4 : wc.cell? ⟨bg, 4, none⟩ = some (.int .u64 (G0.code : Int)) := HR.out.g.cell 4
                              have q5 : wc.cell? ⟨bg, 5, none⟩ = some (.bool G0.fin) := HR.out.g.cell 5
                              have q6 : wc.cell? ⟨bg, 6, none⟩ = some (.slice G0.data.a G0.data.len G0.data.cap) := HR.out.g.cell 6
                              have q7 : wc.cell? ⟨bg, 7, none⟩ = some (.slice G0.ranges.a G0.ranges.len G0.ranges.cap) := HR.out.g.cell 7
                              have LF := veil (left_fr G0 g1 g2 wc HR.out.okg.ok HR.out.okg.dl HR.out.okg.rl HR.out.t1 HR.out.t2)
                              clear HR
                              go_wp2_with fail
                              refine LF.out.mono ?_
                              rintro e6 w6 ⟨rfl, hb6⟩
                              have HPA := veil (HP.out.below hb6)
                              clear hb6 HP LF p0 p1 p2 p3 p4 p5 p6 p7 q0 q1 q2 q3 q4 q5 q6 q7
                              obtain ⟨D, hD⟩ : ∃ D, Sd.done s9 = D := ⟨_, rfl⟩
                              obtain ⟨F, hF⟩ : ∃ F, s9.fresh = F := ⟨_, rfl⟩
                              have nD : (D != D) = false := by simp
                              have nF9 : ((F : Int) != (F : Int)) = false := by simp
                              have CD := veil HPA.out.sn.done
                              rw [hD] at CD
                              go_wp2_with fail
                              refine CD.out.mono ?_
                              rintro e7 w7 ⟨rfl, hb7⟩
                              have HPB := veil (HPA.out.below hb7)
                              have CE := veil (refDone_any HPB.out.rf)
                              rw [hD] at CE
                              clear hb7 HPA CD
                              go_wp2_with fail
                              refine CE.out.mono ?_
                              rintro e8 w8 ⟨rfl, hw8⟩
                              obtain rfl := hw8
                              have CF := veil HPB.out.sn.fresh
                              rw [hF] at CF
                              clear CE
                              go_wp2_with fail
                              refine CF.out.mono ?_
                              rintro e9 w9 ⟨rfl, hb9⟩
                              have HPC := veil (HPB.out.below hb9)
                              have CG := veil (refFresh_any HPC.out.rf)
                              rw [hF] at CG
                              clear hb9 HPB CF
                              go_wp2_with fail
                              refine CG.out.mono ?_
                              rintro e10 w10 ⟨rfl, hw10⟩
                              obtain rfl := hw10
                              clear CG hD hF
                              have hi9 : i ≤ 20000 := by have := HLT.out; have := HK1.out; omega
                              go_wp2
                              go_roundw
                              case rel => exact ⟨i + 1, N9, _, l9, _, by have := HLT.out; omega, by go_num, HN9.out, HL9.out, HPC.out⟩
                              case measure => have := HLT.out; simp [intOf]; omega
                · obtain rfl : i = k := by omega
                  have HPZ := veil hP
                  have HNN := veil (show nn ≤ 3000000 by have := HK1.out; omega)
                  clear hP hlt hi hnn hll
                  go_wp2_with fail
                  refine (HPZ.out.bk.apart HNN.out).mono ?_
                  rintro e2 w2 ⟨rfl, hk2⟩
                  have HB2 := veil (HPZ.out.zs.bel.trans (hk2.below (HPZ.out.zs.lo 2) HPZ.out.zs.bel.size))
                  clear hk2 HPZ
                  go_wp2_with fail
                  refine (lives_any w2).mono ?_
                  rintro e3 w3 ⟨rfl, hb3⟩
                  have HB3 := veil (HB2.out.trans (hb3.mono HB2.out.size))
                  clear hb3
                  go_wp2
                  go_ret
                  exact ⟨rfl, HBM.out.trans (HB3.out.mono HBM.out.size)⟩
end Sr
end Go.Proofs.YtehadfidenejdaaGreatDoor
