/-
  Out of SrCut, SrEach.
-/
import Derived.Test.YtehadfidenejdaaGreatDoorGp12

/-! Places are cut out of runs. -/
namespace Go.Proofs.YtehadfidenejdaaGreatDoor
open Go Go.RowKit

namespace Sr
theorem add_len (r : Rn) : (add [] r).length ≤ 1 := by
  unfold add
  split
  · simp
  · have h1 : lo apartB [] r = 0 := rfl
    have h2 : hi apartB [] r = 0 := rfl
    rw [h1, h2]
    simp [repl]
theorem stay_len {l : List Rn} {r : Rn} : (add l r).length ≤ l.length + 1 := by
  unfold add
  split
  · omega
  · have h1 := lo_le_hi apartB l r
    have h2 := hi_le apartB l r
    rw [repl_len h1 h2]
    simp
    omega
def RCu (q : World) (v : Value) (S : List Rn) : Nat → World → Value → Prop
  | 0, W, _ => W = q
  | _, W, u => Done q W v u S
theorem RCu.zero {q : World} {v : Value} {S : List Rn} {k : Nat} {W : World} {u : Value} (h : RCu q v S k W u) (hk : k ≤ 0) : W = q := by
  obtain rfl : k = 0 := by omega
  exact h
theorem run_minV {P : Program} {a : Act} {o : Oper} (x y : Operand) (t : TypeId) (p q : Nat) (ho : o.op = .call { callee := .builtin .min, args := #[x, y], argTypes := #[t, t] }) (hx : a.eval x = .int .u64 (p : Int)) (hy : a.eval y = .int .u64 (q : Int)) (W : World) :
    (execOp a.eval o).run P W = .ok (.value (.int .u64 ((min p q : Nat) : Int))) W := by
  have e : min (p : Int) (q : Int) = ((min p q : Nat) : Int) := by omega
  unfold execOp
  simp only [ho, hx, hy, resolve, invoke, builtin, Sem.run_bind, Sem.run_pure, Result.andThen_ok, List.map_toArray, List.map_cons, List.map_nil, Lib.run_min_ints, e]
theorem run_maxV {P : Program} {a : Act} {o : Oper} (x y : Operand) (t : TypeId) (p q : Nat) (ho : o.op = .call { callee := .builtin .max, args := #[x, y], argTypes := #[t, t] }) (hx : a.eval x = .int .u64 (p : Int)) (hy : a.eval y = .int .u64 (q : Int)) (W : World) :
    (execOp a.eval o).run P W = .ok (.value (.int .u64 ((max p q : Nat) : Int))) W := by
  have e : max (p : Int) (q : Int) = ((max p q : Nat) : Int) := by omega
  unfold execOp
  simp only [ho, hx, hy, resolve, invoke, builtin, Sem.run_bind, Sem.run_pure, Result.andThen_ok, List.map_toArray, List.map_cons, List.map_nil, Lib.run_max_ints, e]
def depCu : Nat → List Nat
  | 0 => []
  | 1 => []
  | 2 => []
  | 3 => [1, 2]
  | 4 => [3]
  | 5 => [4]
  | 6 => []
  | 7 => [6]
  | 8 => [5, 7]
  | 9 => []
  | 10 => [9]
  | 11 => [8, 10]
  | 12 => [0, 11]
  | 13 => [12]
  | _ => []
def dclCu : Nat → List Nat
  | 3 => [1, 2]
  | 4 => [1, 2, 3]
  | 5 => [1, 2, 3, 4]
  | 7 => [6]
  | 8 => [1, 2, 3, 4, 5, 6, 7]
  | 10 => [9]
  | 11 => [1, 2, 3, 4, 5, 6, 7, 8, 9, 10]
  | 12 => [0, 1, 2, 3, 4, 5, 6, 7, 8, 9, 10, 11]
  | 13 => [0, 1, 2, 3, 4, 5, 6, 7, 8, 9, 10, 11, 12]
  | _ => []
def valCu (v L : Value) (g o i A1 bx xx : Nat) : Nat → Value
  | 0 => v
  | 1 => L
  | 2 => .int .i64 (i : Int)
  | 3 => .pointer (some ⟨g, o + i * 2, none⟩)
  | 4 => .pointer (some ⟨g, o + i * 2, none⟩)
  | 5 => .int .u64 ((A1 : Nat) : Int)
  | 6 => .pointer (some ⟨bx, 0, none⟩)
  | 7 => .int .u64 ((xx : Nat) : Int)
  | 8 => .int .u64 ((min A1 xx : Nat) : Int)
  | 9 => .pointer (some ⟨bx, 0, none⟩)
  | 10 => .int .u64 ((xx : Nat) : Int)
  | 11 => .agg #[.int .u64 ((min A1 xx : Nat) : Int), .int .u64 ((xx : Nat) : Int)]
  | _ => undef
def depCv : Nat → List Nat
  | 0 => []
  | 1 => []
  | 2 => [1]
  | 3 => []
  | 4 => []
  | 5 => [4]
  | 6 => [3, 5]
  | 7 => [6]
  | 8 => [7]
  | 9 => []
  | 10 => [9]
  | 11 => [8, 10]
  | 12 => [2, 11]
  | 13 => [0, 12]
  | 14 => [13]
  | _ => []
def dclCv : Nat → List Nat
  | 2 => [1]
  | 5 => [4]
  | 6 => [3, 4, 5]
  | 7 => [3, 4, 5, 6]
  | 8 => [3, 4, 5, 6, 7]
  | 10 => [9]
  | 11 => [3, 4, 5, 6, 7, 8, 9, 10]
  | 12 => [1, 2, 3, 4, 5, 6, 7, 8, 9, 10, 11]
  | 13 => [0, 1, 2, 3, 4, 5, 6, 7, 8, 9, 10, 11, 12]
  | 14 => [0, 1, 2, 3, 4, 5, 6, 7, 8, 9, 10, 11, 12, 13]
  | _ => []
def valCv (v L : Value) (g o j j1 B2 bx yy : Nat) : Nat → Value
  | 0 => v
  | 1 => .pointer (some ⟨bx, 1, none⟩)
  | 2 => .int .u64 ((yy : Nat) : Int)
  | 3 => L
  | 4 => .int .i64 (j : Int)
  | 5 => .int .i64 (j1 : Int)
  | 6 => .pointer (some ⟨g, o + j1 * 2, none⟩)
  | 7 => .pointer (some ⟨g, o + j1 * 2 + 1, none⟩)
  | 8 => .int .u64 ((B2 : Nat) : Int)
  | 9 => .pointer (some ⟨bx, 1, none⟩)
  | 10 => .int .u64 ((yy : Nat) : Int)
  | 11 => .int .u64 ((max B2 yy : Nat) : Int)
  | 12 => .agg #[.int .u64 ((yy : Nat) : Int), .int .u64 ((max B2 yy : Nat) : Int)]
  | _ => undef
set_option maxHeartbeats 1000000 in
set_option maxRecDepth 20000 in
theorem cut_any (w : World) {v : Value} {l : List Rn} {r : Rn} (h : RowO w 77 2 v l.length (vr l)) (hn : l.length ≤ 536870912) (hc : Canon l) (hr : r.1 ≤ r.2) :
    Calls Tryz.prog 38 #[v, rcA r] w fun e w' => ∃ v', e = .returned v' ∧ Done w w' v v' (cut l r) := by
  obtain ⟨va, vc, hve, _, _⟩ := h.shape
  obtain ⟨n, hl⟩ : ∃ n, l.length = n := ⟨_, rfl⟩
  rw [hl] at hve
  have hb0 : Below w.heap.size w (w.alloc (.cells (rC2 r) 77)) := (Below.refl _ w).alloc (Nat.le_refl _) _
  obtain ⟨i, hie⟩ : ∃ i, lo aheadB l r = i := ⟨_, rfl⟩
  obtain ⟨j, hje⟩ : ∃ j, hi aheadB l r = j := ⟨_, rfl⟩
  have hij : i ≤ j := by rw [← hie, ← hje]; exact lo_le_hi _ _ _
  have hjn : j ≤ l.length := by rw [← hje]; exact hi_le _ _ _
  have hrow := h.below hb0
  have hr0 : Row (w.alloc (.cells (rC2 r) 77)) w.heap.size 77 (rC2 r) := Row.new _ _ _
  have HN := near_any asks_ahead (w.alloc (.cells (rC2 r) 77)) (r := r) hrow rfl (by omega) hc (ups_ahead r)
  rw [hie, hje] at HN
  have hcut : cut l r = if i = j then l else repl l i j (stay l i j r) := by
    unfold cut
    rw [hie, hje]
  obtain ⟨R, hR⟩ : ∃ R, cut l r = R := ⟨_, rfl⟩
  rw [hR] at hcut ⊢
  clear hc hie hje hR
  obtain ⟨xr, yr⟩ := r
  have hr : xr ≤ yr := hr
  unfold rcA at HN ⊢
  unfold rC2 at HN hrow hr0 hb0
  simp only at HN hrow hr0 hb0 ⊢
  have HN := veil HN
  have HROW := veil hrow
  have HR0 := veil hr0
  have HB0 := veil hb0
  have HNC := veil (show l.length = n ∧ n ≤ 536870912 ∧ i ≤ j ∧ j ≤ n ∧ xr ≤ yr from ⟨hl, by omega, hij, by omega, hr⟩)
  have HWB := veil (h.lt)
  have HRR := veil hcut
  generalize hW0 : w.alloc (.cells #[.int .u64 (xr : Int), .int .u64 (yr : Int)] 77) = W0 at *
  have HW0 := veil hW0
  have HOW := veil (show RowO w 77 2 v l.length (vr l) from h)
  clear h hn hb0 hrow hr0 hW0 hl hij hjn hr hcut
  subst hve
  go_enter Tryz.func38, Tryz.ntmps38
  go_wp2_with fail
  rw [HW0.out]
  refine HN.out.mono ?_
  rintro e1 w1 ⟨rfl, hb1⟩
  have HB1 := veil (HB0.out.trans (hb1.mono HB0.out.size))
  have HR1 := veil (HR0.out.below hb1 HR0.out.lt)
  have HROW1 := veil (HROW.out.below hb1)
  have c3 := HR1.out.cell 0
  have c4 := HR1.out.cell 1
  clear hb1 HN HB0 HR0 HROW HW0
  by_cases heq : i = j
  · have hR := HRR.out
    rw [if_pos heq] at hR
    have HD := veil (show Done w w1 (.slice va n vc) (.slice va n vc) R from by rw [hR]; exact Done.same HOW.out HB1.out)
    subst heq
    clear HRR hR
    go_wp2_with fail
    go_ret
    exact ⟨_, rfl, HD.out⟩
  · obtain ⟨g, o, hva, d1, d2⟩ := gl_cells (by have := HROW1.out; rw [HNC.out.1] at this; exact this) HNC.out.1 i (by have := HNC.out; omega)
    obtain ⟨g', o', hva', d3, d4⟩ := gl_cells (by have := HROW1.out; rw [HNC.out.1] at this; exact this) HNC.out.1 (j - 1) (by have := HNC.out; omega)
    rw [hva] at hva'
    injection hva' with hva'
    injection hva' with e1 e2
    subst e1 e2 hva
    have hR := HRR.out
    rw [if_neg heq] at hR
    unfold stay at hR
    obtain ⟨A1, hA1⟩ : ∃ A1, (gl l i).1 = A1 := ⟨_, rfl⟩
    obtain ⟨B2, hB2⟩ : ∃ B2, (gl l (j - 1)).2 = B2 := ⟨_, rfl⟩
    rw [hA1] at d1 hR
    rw [hB2] at d4 hR
    obtain ⟨S1, hS1⟩ : ∃ S1, add [] (min A1 xr, xr) = S1 := ⟨_, rfl⟩
    obtain ⟨S2, hS2⟩ : ∃ S2, add S1 (yr, max B2 yr) = S2 := ⟨_, rfl⟩
    have cS1 : Canon S1 := by rw [← hS1]; exact (add_laws (l := []) trivial (by show min A1 xr ≤ xr; omega)).1
    have lS1 : S1.length ≤ 1 := by rw [← hS1]; exact add_len _
    have lS2 : S2.length ≤ 2 := by rw [← hS2]; have := stay_len (l := S1) (r := (yr, max B2 yr)); omega
    rw [show add (add [] (min A1 xr, xr)) (yr, max B2 yr) = S2 by rw [hS1]; exact hS2] at hR
    have HRR2 := veil hR
    obtain ⟨j1, hj1⟩ : ∃ j1, j1 = j - 1 := ⟨_, rfl⟩
    rw [← hj1] at d3 d4
    have w1' : IntKind.i64.wrap ((j : Int) - 1) = (j1 : Int) := by rw [IntKind.wrap_i64]; have := HNC.out; omega
    have n1 : ¬ (i : Int) = (j : Int) := by omega
    have b1 : (i : Int) < (n : Int) := by have := HNC.out; omega
    have b2 : (j1 : Int) < (n : Int) := by have := HNC.out; omega
    have e3 : min (A1 : Int) (xr : Int) = ((min A1 xr : Nat) : Int) := by omega
    have e4 : max (B2 : Int) (yr : Int) = ((max B2 yr : Nat) : Int) := by omega
    have a1 := add_any w1.drew (v := .slice none 0 0) (l := []) (r := (min A1 xr, xr)) (RowO.nil _ _ _) (by simp) trivial
    rw [hS1] at a1
    unfold rcA at a1
    simp only at a1
    have HA1 := veil a1
    have HS := veil (show add S1 (yr, max B2 yr) = S2 ∧ Canon S1 ∧ S1.length ≤ 1 ∧ S2.length ≤ 2 from ⟨hS2, cS1, lS1, lS2⟩)
    have HX := veil (show i < n ∧ j1 < n ∧ 1 + j1 = j ∧ j ≤ 140737488355328 ∧ i < j ∧ j ≤ n by have := HNC.out; omega)
    have HNE := veil (show g < w.heap.size from HWB.out g rfl)
    have HD1 := veil d1
    have HD4 := veil d4
    clear hj1 hA1 hB2 d2 d3 heq hR HRR a1 hS1 hS2 cS1 lS1 lS2 e3 e4
    go_wp2_with fail
    refine (wpIn_wide (n := 4)).1 ?_
    refine wpIn_region_any (by kernel_rfl) ?_
    refine anyIn_spine2 (valCu (.slice none 0 0) (.slice (some ⟨g, o, none⟩) n vc) g o i A1 w.heap.size xr) (RCu w1.drew (.slice none 0 0) S1) undef [12, 13] [18, 19, 20, 21, 22, 23, 24, 25, 26, 27, 28, 29, 30, 7] depCu dclCu (by kernel_rfl) (by decide) rfl (by decide) (by decide) ?ord (by decide) ?h0 ?fix ?cal ?don
    case ord =>
      intro k i j h1 h2
      match k, h1, h2 with
      | 0, h1, h2 =>
        obtain rfl := Option.some.inj h1
        obtain rfl := Option.some.inj h2
        decide
      | 1, _, h2 => simp at h2
      | _ + 2, h1, _ => simp at h1
    case fix =>
      intro x W4 m2 ii d u hR hdi hni hdep hlo hhi hinit
      match ii, hdi, hni, hdep, hhi with
      | 0, hdi, _, _, hhi =>
        obtain rfl := Option.some.inj hdi
        rw [updV_self (hinit 1 13 rfl (hhi 1 13 rfl (by decide)))]
        exact OI_value rfl rfl (about_none (by intro c h; cases h)) (by intro c h; cases h) ((.slice none 0 0)) W4 (by kernel_rfl) ⟨rfl, rfl⟩
      | 1, hdi, _, _, _ =>
        obtain rfl := Option.some.inj hdi
        exact OI_value rfl rfl (about_none (by intro c h; cases h)) (by intro c h; cases h) ((.slice (some ⟨g, o, none⟩) n vc)) W4 (by kernel_rfl) ⟨rfl, rfl⟩
      | 2, hdi, _, _, _ =>
        obtain rfl := Option.some.inj hdi
        exact OI_value rfl rfl (about_none (by intro c h; cases h)) (by intro c h; cases h) (.int .i64 (i : Int)) W4 (by kernel_rfl) ⟨rfl, rfl⟩
      | 3, hdi, _, hdep, _ =>
        obtain rfl := Option.some.inj hdi
        rw [updV_self (show x 1 = _ from hdep 1 (by simp [depCu]) (by decide)), updV_self (show (updV x 1 _) 2 = _ from hdep 2 (by simp [depCu]) (by decide))]
        exact OI_value rfl rfl (about_none (by intro c h; cases h)) (by intro c h; cases h) (.pointer (some ⟨g, o + i * 2, none⟩)) W4 (lgRun_at 70 77 2 _ _ g o n vc i rfl (by kernel_rfl) (by kernel_rfl) Tryz.underlying70 (by kernel_rfl) HX.out.1 _) ⟨rfl, rfl⟩
      | 4, hdi, _, hdep, _ =>
        obtain rfl := Option.some.inj hdi
        rw [updV_self (show x 3 = _ from hdep 3 (by simp [depCu]) (by decide))]
        exact OI_value rfl rfl (about_none (by intro c h; cases h)) (by intro c h; cases h) (.pointer (some ⟨g, o + i * 2, none⟩)) W4 (by kernel_rfl) ⟨rfl, rfl⟩
      | 5, hdi, _, hdep, hhi =>
        obtain rfl := Option.some.inj hdi
        rw [updV_self (show x 4 = _ from hdep 4 (by simp [depCu]) (by decide))]
        exact OI_value rfl rfl (about_none (by intro c h; cases h)) (by intro c h; cases h) (.int .u64 ((A1 : Nat) : Int)) W4 (lgRun_cell 22 _ ⟨g, o + i * 2, none⟩ _ _ rfl (by kernel_rfl) Tryz.underlying22 rfl _ (by rw [hR.zero (hhi 0 12 rfl (by decide))]; exact HD1.out)) ⟨rfl, rfl⟩
      | 6, hdi, _, _, _ =>
        obtain rfl := Option.some.inj hdi
        exact OI_value rfl rfl (about_none (by intro c h; cases h)) (by intro c h; cases h) (.pointer (some ⟨w.heap.size, 0, none⟩)) W4 (by kernel_rfl) ⟨rfl, rfl⟩
      | 7, hdi, _, hdep, hhi =>
        obtain rfl := Option.some.inj hdi
        rw [updV_self (show x 6 = _ from hdep 6 (by simp [depCu]) (by decide))]
        exact OI_value rfl rfl (about_none (by intro c h; cases h)) (by intro c h; cases h) (.int .u64 ((xr : Nat) : Int)) W4 (lgRun_cell 22 _ ⟨w.heap.size, 0, none⟩ _ _ rfl (by kernel_rfl) Tryz.underlying22 rfl _ (by rw [hR.zero (hhi 0 12 rfl (by decide))]; exact c3)) ⟨rfl, rfl⟩
      | 8, hdi, _, hdep, _ =>
        obtain rfl := Option.some.inj hdi
        rw [updV_self (show x 5 = _ from hdep 5 (by simp [depCu]) (by decide)), updV_self (show (updV x 5 _) 7 = _ from hdep 7 (by simp [depCu]) (by decide))]
        exact OI_value rfl rfl (about_builtin _ _ _ rfl) (by intro c h; cases h) (.int .u64 ((min A1 xr : Nat) : Int)) W4 (run_minV _ _ 22 A1 xr rfl (by kernel_rfl) (by kernel_rfl) _) ⟨rfl, rfl⟩
      | 9, hdi, _, _, _ =>
        obtain rfl := Option.some.inj hdi
        exact OI_value rfl rfl (about_none (by intro c h; cases h)) (by intro c h; cases h) (.pointer (some ⟨w.heap.size, 0, none⟩)) W4 (by kernel_rfl) ⟨rfl, rfl⟩
      | 10, hdi, _, hdep, hhi =>
        obtain rfl := Option.some.inj hdi
        rw [updV_self (show x 9 = _ from hdep 9 (by simp [depCu]) (by decide))]
        exact OI_value rfl rfl (about_none (by intro c h; cases h)) (by intro c h; cases h) (.int .u64 ((xr : Nat) : Int)) W4 (lgRun_cell 22 _ ⟨w.heap.size, 0, none⟩ _ _ rfl (by kernel_rfl) Tryz.underlying22 rfl _ (by rw [hR.zero (hhi 0 12 rfl (by decide))]; exact c3)) ⟨rfl, rfl⟩
      | 11, hdi, _, hdep, _ =>
        obtain rfl := Option.some.inj hdi
        rw [updV_self (show x 8 = _ from hdep 8 (by simp [depCu]) (by decide)), updV_self (show (updV x 8 _) 10 = _ from hdep 10 (by simp [depCu]) (by decide))]
        exact OI_value rfl rfl (about_none (by intro c h; cases h)) (by intro c h; cases h) (.agg #[.int .u64 ((min A1 xr : Nat) : Int), .int .u64 ((xr : Nat) : Int)]) W4 (by kernel_rfl) ⟨rfl, rfl⟩
      | 12, _, hni, _, _ => exact absurd (by decide) hni
      | 13, _, hni, _, _ => exact absurd (by decide) hni
      | _ + 14, hdi, _, _, _ => simp at hdi
    case cal =>
      intro x W4 k2 ii d u hR hk hdi hdep hu0 hup
      match k2, hk, hR, hu0, hup with
      | 0, hk, hR, hu0, hup =>
        obtain rfl := Option.some.inj hk
        obtain rfl := Option.some.inj hdi
        obtain rfl := hR
        rw [updV_self (show x 0 = _ from hdep 0 (by simp [depCu]) (by decide)), updV_self (show (updV x 0 _) 11 = _ from hdep 11 (by simp [depCu]) (by decide))]
        refine OI_call rfl rfl (by intro c h; cases h) 46 #[(.slice none 0 0), .agg #[.int .u64 ((min A1 xr : Nat) : Int), .int .u64 ((xr : Nat) : Int)]] (fun _ _ => trivial) (by kernel_rfl) (by decide) ?_
        refine (callsIn_wide.2 HA1.out).mono ?_
        rintro e w' ⟨u', rfl, hd⟩
        exact ⟨_, rfl, u', rfl, hd⟩
      | 1, hk, hR, hu0, hup =>
        obtain rfl := Option.some.inj hk
        obtain rfl := Option.some.inj hdi
        rw [updV_self (show x 12 = u from hup 0 12 rfl rfl)]
        exact OI_value rfl rfl (about_none (by intro c h; cases h)) (by intro c h; cases h) u _ (by kernel_rfl) ⟨u, rfl, hR⟩
      | _ + 2, hk, _, _, _ => simp at hk
    case h0 => exact rfl
    case don =>
      rintro x9 W9 u9 hD9 _ hl9
      have h13 : x9 13 = u9 := hl9 1 13 rfl rfl
      simp only [putsV, Act.put, List.setIfInBounds_toArray, List.set_cons_succ, List.set_cons_zero, Nat.reduceAdd]
      rw [h13]
      generalize x9 0 = z0, x9 1 = z1, x9 2 = z2, x9 3 = z3, x9 4 = z4, x9 5 = z5, x9 6 = z6, x9 7 = z7, x9 8 = z8, x9 9 = z9, x9 10 = z10, x9 11 = z11, x9 12 = z12
      clear h13 hl9
      have hD9 : Done w1.drew W9 (.slice none 0 0) u9 S1 := hD9
      have hk9 : Below w1.heap.size w1 W9 := (Below.refl _ w1).drew.trans (hD9.keep.below (B := w1.drew.heap.size) (fun k e => by cases e) (Nat.le_refl _))
      have hrow9 := HROW1.out.below hk9
      have hr9 := HR1.out.below hk9 HR1.out.lt
      have c3 := hr9.cell 0
      have c4 := hr9.cell 1
      have hs9 : ∀ k, u9.ownBlock = some k → w1.heap.size ≤ k := fun k e => (hD9.stay k e).elim (fun q => by cases q) (fun q => q)
      have d4 : W9.cell? ⟨g, o + j1 * 2 + 1, none⟩ = some (.int .u64 (B2 : Int)) := (World.cell?_of_block (w := w1) (hk9.block g (HROW1.out.lt g rfl))).trans HD4.out
      have a2 := add_any W9.drew (v := u9) (l := S1) (r := (yr, max B2 yr)) hD9.row (by have := HS.out; omega) HS.out.2.1
      rw [HS.out.1] at a2
      unfold rcA at a2
      simp only at a2
      have HA2 := veil a2
      have HB9 := veil (HB1.out.trans (hk9.mono HB1.out.size))
      have HROW9 := veil hrow9
      have HS9 := veil (show (∀ k, u9.ownBlock = some k → w1.heap.size ≤ k) ∧ w1.heap.size ≤ W9.heap.size ∧ w.heap.size < w1.heap.size ∧ g < w1.heap.size from ⟨hs9, hk9.size, HR1.out.lt, HROW1.out.lt g rfl⟩)
      have HD4' := veil d4
      clear hD9 hk9 hrow9 hr9 hs9 a2 HA1 HD1 HD4 HB1 HROW1 HR1
      go_wp2_with fail
      refine (wpIn_wide (n := 4)).1 ?_
      refine wpIn_region_any (by kernel_rfl) ?_
      refine anyIn_spine2 (valCv u9 (.slice (some ⟨g, o, none⟩) n vc) g o j j1 B2 w.heap.size yr) (RCu W9.drew u9 S2) undef [13, 14] [31, 32, 33, 34, 35, 36, 37, 38, 39, 40, 41, 42, 43, 44, 7] depCv dclCv (by kernel_rfl) (by decide) rfl (by decide) (by decide) ?ord (by decide) ?h0 ?fix ?cal ?don
      case ord =>
        intro k i j h1 h2
        match k, h1, h2 with
        | 0, h1, h2 =>
          obtain rfl := Option.some.inj h1
          obtain rfl := Option.some.inj h2
          decide
        | 1, _, h2 => simp at h2
        | _ + 2, h1, _ => simp at h1
      case fix =>
        intro x W4 m2 ii d u hR hdi hni hdep hlo hhi hinit
        match ii, hdi, hni, hdep, hhi with
        | 0, hdi, _, _, hhi =>
          obtain rfl := Option.some.inj hdi
          rw [updV_self (hinit 1 14 rfl (hhi 1 14 rfl (by decide)))]
          exact OI_value rfl rfl (about_none (by intro c h; cases h)) (by intro c h; cases h) (u9) W4 (by kernel_rfl) ⟨rfl, rfl⟩
        | 1, hdi, _, _, _ =>
          obtain rfl := Option.some.inj hdi
          exact OI_value rfl rfl (about_none (by intro c h; cases h)) (by intro c h; cases h) (.pointer (some ⟨w.heap.size, 1, none⟩)) W4 (by kernel_rfl) ⟨rfl, rfl⟩
        | 2, hdi, _, hdep, hhi =>
          obtain rfl := Option.some.inj hdi
          rw [updV_self (show x 1 = _ from hdep 1 (by simp [depCv]) (by decide))]
          exact OI_value rfl rfl (about_none (by intro c h; cases h)) (by intro c h; cases h) (.int .u64 ((yr : Nat) : Int)) W4 (lgRun_cell 22 _ ⟨w.heap.size, 1, none⟩ _ _ rfl (by kernel_rfl) Tryz.underlying22 rfl _ (by rw [hR.zero (hhi 0 13 rfl (by decide))]; exact c4)) ⟨rfl, rfl⟩
        | 3, hdi, _, _, _ =>
          obtain rfl := Option.some.inj hdi
          exact OI_value rfl rfl (about_none (by intro c h; cases h)) (by intro c h; cases h) ((.slice (some ⟨g, o, none⟩) n vc)) W4 (by kernel_rfl) ⟨rfl, rfl⟩
        | 4, hdi, _, _, _ =>
          obtain rfl := Option.some.inj hdi
          exact OI_value rfl rfl (about_none (by intro c h; cases h)) (by intro c h; cases h) (.int .i64 (j : Int)) W4 (by kernel_rfl) ⟨rfl, rfl⟩
        | 5, hdi, _, hdep, _ =>
          obtain rfl := Option.some.inj hdi
          rw [updV_self (show x 4 = _ from hdep 4 (by simp [depCv]) (by decide))]
          exact OI_value rfl rfl (about_none (by intro c h; cases h)) (by intro c h; cases h) (.int .i64 (j1 : Int)) W4 (lgRun_sub _ _ _ _ j 1 j1 (by have := HX.out; omega) (by have := HX.out; omega) rfl (by kernel_rfl) (by kernel_rfl) _) ⟨rfl, rfl⟩
        | 6, hdi, _, hdep, _ =>
          obtain rfl := Option.some.inj hdi
          rw [updV_self (show x 3 = _ from hdep 3 (by simp [depCv]) (by decide)), updV_self (show (updV x 3 _) 5 = _ from hdep 5 (by simp [depCv]) (by decide))]
          exact OI_value rfl rfl (about_none (by intro c h; cases h)) (by intro c h; cases h) (.pointer (some ⟨g, o + j1 * 2, none⟩)) W4 (lgRun_at 70 77 2 _ _ g o n vc j1 rfl (by kernel_rfl) (by kernel_rfl) Tryz.underlying70 (by kernel_rfl) (by have := HX.out; omega) _) ⟨rfl, rfl⟩
        | 7, hdi, _, hdep, _ =>
          obtain rfl := Option.some.inj hdi
          rw [updV_self (show x 6 = _ from hdep 6 (by simp [depCv]) (by decide))]
          exact OI_value rfl rfl (about_none (by intro c h; cases h)) (by intro c h; cases h) (.pointer (some ⟨g, o + j1 * 2 + 1, none⟩)) W4 (by kernel_rfl) ⟨rfl, rfl⟩
        | 8, hdi, _, hdep, hhi =>
          obtain rfl := Option.some.inj hdi
          rw [updV_self (show x 7 = _ from hdep 7 (by simp [depCv]) (by decide))]
          exact OI_value rfl rfl (about_none (by intro c h; cases h)) (by intro c h; cases h) (.int .u64 ((B2 : Nat) : Int)) W4 (lgRun_cell 22 _ ⟨g, o + j1 * 2 + 1, none⟩ _ _ rfl (by kernel_rfl) Tryz.underlying22 rfl _ (by rw [hR.zero (hhi 0 13 rfl (by decide))]; exact HD4'.out)) ⟨rfl, rfl⟩
        | 9, hdi, _, _, _ =>
          obtain rfl := Option.some.inj hdi
          exact OI_value rfl rfl (about_none (by intro c h; cases h)) (by intro c h; cases h) (.pointer (some ⟨w.heap.size, 1, none⟩)) W4 (by kernel_rfl) ⟨rfl, rfl⟩
        | 10, hdi, _, hdep, hhi =>
          obtain rfl := Option.some.inj hdi
          rw [updV_self (show x 9 = _ from hdep 9 (by simp [depCv]) (by decide))]
          exact OI_value rfl rfl (about_none (by intro c h; cases h)) (by intro c h; cases h) (.int .u64 ((yr : Nat) : Int)) W4 (lgRun_cell 22 _ ⟨w.heap.size, 1, none⟩ _ _ rfl (by kernel_rfl) Tryz.underlying22 rfl _ (by rw [hR.zero (hhi 0 13 rfl (by decide))]; exact c4)) ⟨rfl, rfl⟩
        | 11, hdi, _, hdep, _ =>
          obtain rfl := Option.some.inj hdi
          rw [updV_self (show x 8 = _ from hdep 8 (by simp [depCv]) (by decide)), updV_self (show (updV x 8 _) 10 = _ from hdep 10 (by simp [depCv]) (by decide))]
          exact OI_value rfl rfl (about_builtin _ _ _ rfl) (by intro c h; cases h) (.int .u64 ((max B2 yr : Nat) : Int)) W4 (run_maxV _ _ 22 B2 yr rfl (by kernel_rfl) (by kernel_rfl) _) ⟨rfl, rfl⟩
        | 12, hdi, _, hdep, _ =>
          obtain rfl := Option.some.inj hdi
          rw [updV_self (show x 2 = _ from hdep 2 (by simp [depCv]) (by decide)), updV_self (show (updV x 2 _) 11 = _ from hdep 11 (by simp [depCv]) (by decide))]
          exact OI_value rfl rfl (about_none (by intro c h; cases h)) (by intro c h; cases h) (.agg #[.int .u64 ((yr : Nat) : Int), .int .u64 ((max B2 yr : Nat) : Int)]) W4 (by kernel_rfl) ⟨rfl, rfl⟩
        | 13, _, hni, _, _ => exact absurd (by decide) hni
        | 14, _, hni, _, _ => exact absurd (by decide) hni
        | _ + 15, hdi, _, _, _ => simp at hdi
      case cal =>
        intro x W4 k2 ii d u hR hk hdi hdep hu0 hup
        match k2, hk, hR, hu0, hup with
        | 0, hk, hR, hu0, hup =>
          obtain rfl := Option.some.inj hk
          obtain rfl := Option.some.inj hdi
          obtain rfl := hR
          rw [updV_self (show x 0 = _ from hdep 0 (by simp [depCv]) (by decide)), updV_self (show (updV x 0 _) 12 = _ from hdep 12 (by simp [depCv]) (by decide))]
          refine OI_call rfl rfl (by intro c h; cases h) 46 #[u9, .agg #[.int .u64 ((yr : Nat) : Int), .int .u64 ((max B2 yr : Nat) : Int)]] (fun _ _ => trivial) (by kernel_rfl) (by decide) ?_
          refine (callsIn_wide.2 HA2.out).mono ?_
          rintro e w' ⟨u', rfl, hd⟩
          exact ⟨_, rfl, u', rfl, hd⟩
        | 1, hk, hR, hu0, hup =>
          obtain rfl := Option.some.inj hk
          obtain rfl := Option.some.inj hdi
          rw [updV_self (show x 13 = u from hup 0 13 rfl rfl)]
          exact OI_value rfl rfl (about_none (by intro c h; cases h)) (by intro c h; cases h) u _ (by kernel_rfl) ⟨u, rfl, hR⟩
        | _ + 2, hk, _, _, _ => simp at hk
      case h0 => exact rfl
      case don =>
        rintro x9 Wb ub hDb _ hl9
        have h14 : x9 14 = ub := hl9 1 14 rfl rfl
        simp only [putsV, Act.put, List.setIfInBounds_toArray, List.set_cons_succ, List.set_cons_zero, Nat.reduceAdd]
        rw [h14]
        generalize x9 0 = z0, x9 1 = z1, x9 2 = z2, x9 3 = z3, x9 4 = z4, x9 5 = z5, x9 6 = z6, x9 7 = z7, x9 8 = z8, x9 9 = z9, x9 10 = z10, x9 11 = z11, x9 12 = z12, x9 13 = z13
        clear h14 hl9
        have hDb : Done W9.drew Wb u9 ub S2 := hDb
        have hKb : KeepP (fun b => u9.ownBlock = some b) W9 Wb := onto (keep_drew _ W9) hDb.keep (fun _ _ e => e)
        have hBb : Below w.heap.size w Wb := HB9.out.trans (hKb.below (fun k e => by have := HS9.out.1 k e; have := HS9.out; omega) HB9.out.size)
        have hrowb := HROW9.out.same (w' := Wb) (fun k hk => hKb.block k (HROW9.out.lt k hk) (fun e => by have := HS9.out.1 k e; have := HWB.out k hk; have := HS9.out; omega))
        have hsb : ∀ k, ub.ownBlock = some k → w1.heap.size ≤ k := fun k e => by
          rcases hDb.stay k e with q | q
          · exact HS9.out.1 k q
          · have q : W9.heap.size ≤ k := q
            have := HS9.out; omega
        obtain ⟨ua, uc, hub, _, _⟩ := hDb.row.shape
        obtain ⟨m, hm⟩ : ∃ m, S2.length = m := ⟨_, rfl⟩
        rw [hm] at hub
        subst hub
        have HBB := veil hBb
        have HROWB := veil hrowb
        have HSB := veil hsb
        have HDB := veil hDb.row
        have HM := veil hm
        have HLEN := veil (repl_len (l := l) (i := i) (j := j) (Nat.le_of_lt HX.out.2.2.2.2.1) (by have := HX.out; have := HNC.out; omega) S2)
        clear hDb hKb hBb hrowb hsb hm HB9 HROW9 HA2 c3 c4 HD4' d4
        have REP := veil (rep_any Wb (v := .slice (some ⟨g, o, none⟩) n vc) (n := n) (i := i) (j := j) (l := l) (by have := HROWB.out; rw [HNC.out.1] at this; exact this) HNC.out.1 (by have := HNC.out; omega) HX.out.2.2.2.2.1 HX.out.2.2.2.2.2 (sa := ua) (m := m) (c := uc) (vs := S2) HM.out (by have := HDB.out; rw [HM.out] at this; exact this) (fun k e q => by
          have h1 := HSB.out k e
          have q : some g = some k := q
          injection q with q
          have := HS9.out
          have := HNE.out
          omega) (by have := HS.out; have := HM.out; omega))
        have FIN := veil (show ∀ w' v', RowO w' 77 2 v' (i + m + (n - j)) (vr (l.take i ++ S2 ++ l.drop j)) → KeepP (fun b => (Value.slice (some ⟨g, o, none⟩) n vc).ownBlock = some b) Wb w' → Stay (.slice (some ⟨g, o, none⟩) n vc) v' Wb → Done w w' (.slice (some ⟨g, o, none⟩) n vc) v' R from fun w' v' h1 h2 h3 => by
          rw [HRR2.out]
          refine Done.behind HBB.out ⟨?_, h2, h3⟩
          rw [HLEN.out, HM.out, HNC.out.1]
          exact h1)
        by_cases hi0 : i = 0
        · have n2 : (i : Int) = 0 := by omega
          by_cases hm0 : m = 0
          · have n3 : (m : Int) = 0 := by omega
            obtain ⟨sa, sc, _, s1, hsr, hso⟩ := sl_any (P := Tryz.prog) Wb 70 Tryz.underlying70 (by kernel_rfl) (show RowO Wb 77 2 (.slice (some ⟨g, o, none⟩) n vc) n (vr l) by have := HROWB.out; rw [HNC.out.1] at this; exact this) HX.out.2.2.2.2.2 (Nat.le_refl n)
            have s1 := s1 rfl
            have hre := hsr Wb (by have := HROWB.out; rw [HNC.out.1] at this; exact this)
            have HFF := veil (show Done w Wb (.slice (some ⟨g, o, none⟩) n vc) (.slice sa (n - j) sc) R from by
              have hS2 : S2 = [] := List.eq_nil_of_length_eq_zero (by rw [HM.out]; exact hm0)
              refine FIN.out Wb _ ?_ (KeepP.refl _ _) (fun k e => .inl (by rw [← hso]; exact e))
              rw [hi0, hm0, hS2, Nat.zero_add, List.take_zero, List.nil_append, List.nil_append, vr_drop]
              rw [List.take_of_length_le (by rw [List.length_drop, vr_len, HNC.out.1]; omega)] at hre
              exact hre)
            clear hsr hso hre REP FIN hi0 hm0
            go_wp2_with fail
            go_ret
            exact ⟨_, rfl, HFF.out⟩
          · have n3 : ¬ (m : Int) = 0 := by omega
            have REP0 := REP.out
            rw [n2] at REP0
            have REP := veil REP0
            clear hi0 hm0 REP0
            go_wp2_with fail
            refine REP.out.mono ?_
            rintro e5 w5 ⟨v5, rfl, h5a, h5b, h5c⟩
            have HFF := veil (FIN.out w5 v5 h5a h5b h5c)
            clear h5a h5b h5c REP FIN
            go_wp2_with fail
            go_ret
            exact ⟨v5, rfl, HFF.out⟩
        · have n2 : ¬ (i : Int) = 0 := by omega
          clear hi0
          go_wp2_with fail
          refine REP.out.mono ?_
          rintro e5 w5 ⟨v5, rfl, h5a, h5b, h5c⟩
          have HFF := veil (FIN.out w5 v5 h5a h5b h5c)
          clear h5a h5b h5c REP FIN
          go_wp2_with fail
          go_ret
          exact ⟨v5, rfl, HFF.out⟩
end Sr
end Go.Proofs.YtehadfidenejdaaGreatDoor

/-! Runs changed by each of some others; the first of them. -/
namespace Go.Proofs.YtehadfidenejdaaGreatDoor
open Go Go.RowKit

namespace Sr
/-- What a function does to runs, by one of them. -/
structure Chg (f : Nat) (op : List Rn → Rn → List Rn) : Prop where
  eg : ∀ args w, (callFunc f args).run Tryz.prog w = .ok (.enter f args) w
  call : ∀ (w : World) (v : Value) (l : List Rn) (r : Rn), RowO w 77 2 v l.length (vr l) → l.length ≤ 536870912 → Canon l → r.1 ≤ r.2 → Calls Tryz.prog f #[v, rcA r] w fun e w' => ∃ v', e = .returned v' ∧ Done w w' v v' (op l r)
  canon : ∀ l r, Canon l → r.1 ≤ r.2 → Canon (op l r)
  len : ∀ l r, (op l r).length ≤ l.length + 1
theorem cut_len {l : List Rn} {r : Rn} : (cut l r).length ≤ l.length + 1 := by
  unfold cut
  split
  · omega
  · have h1 := lo_le_hi aheadB l r
    have h2 := hi_le aheadB l r
    rw [repl_len h1 h2]
    unfold stay
    have h3 := add_len (min (gl l (lo aheadB l r)).1 r.1, r.1)
    have h4 := stay_len (l := add [] (min (gl l (lo aheadB l r)).1 r.1, r.1)) (r := (r.2, max (gl l (hi aheadB l r - 1)).2 r.2))
    omega
theorem chg_add : Chg 46 add := ⟨enters_of Tryz.func46 (by kernel_rfl) rfl, fun w v l r h hn hc _ => add_any w h hn hc, fun l r hc hr => (add_laws hc hr).1, fun l r => stay_len⟩
theorem chg_cut : Chg 38 cut := ⟨enters_of Tryz.func38 (by kernel_rfl) rfl, fun w v l r h hn hc hr => cut_any w h hn hc hr, fun l r hc hr => (cut_laws hc hr).1, fun l r => cut_len⟩
theorem each_snoc (op : List Rn → Rn → List Rn) (l by' : List Rn) (r : Rn) : each op l (by' ++ [r]) = op (each op l by') r := by unfold each; rw [List.foldl_append]; rfl
theorem each_canon {f : Nat} {op : List Rn → Rn → List Rn} (h : Chg f op) {by' : List Rn} (hb : ∀ r ∈ by', r.1 ≤ r.2) : ∀ {l : List Rn}, Canon l → Canon (each op l by') ∧ (each op l by').length ≤ l.length + by'.length := by
  induction by' with
  | nil => intro l hc; exact ⟨hc, by show l.length ≤ _; omega⟩
  | cons r by' ih =>
    intro l hc
    have h1 := h.canon l r hc (hb r (List.mem_cons_self ..))
    have h2 := h.len l r
    obtain ⟨h3, h4⟩ := ih (fun a ha => hb a (List.mem_cons_of_mem _ ha)) h1
    exact ⟨h3, by show (each op (op l r) by').length ≤ _; rw [List.length_cons]; omega⟩
theorem Done.trans {w w1 w2 : World} {v v1 v2 : Value} {l1 l2 : List Rn} (a : Done w w1 v v1 l1) (b : Done w1 w2 v1 v2 l2) : Done w w2 v v2 l2 :=
  ⟨b.row, onto a.keep b.keep (fun q hq e => (a.stay q e).elim id (fun h => absurd hq (by omega))), fun k hk => (b.stay k hk).elim (fun h => a.stay k h) (fun h => .inr (Nat.le_trans a.keep.size h))⟩
set_option maxHeartbeats 1000000 in
set_option maxRecDepth 20000 in
theorem each_any {f : Nat} {op : List Rn → Rn → List Rn} (hf : Chg f op) (w : World) {v u : Value} {l by' : List Rn} (h : RowO w 77 2 v l.length (vr l)) (hu : RowO w 77 2 u by'.length (vr by')) (hn : l.length + by'.length ≤ 536870912) (hc : Canon l)
    (hb : ∀ r ∈ by', r.1 ≤ r.2) (hne : ∀ k, u.ownBlock = some k → v.ownBlock ≠ some k) :
    Calls Tryz.prog 49 #[v, .func (.func f) #[] #[], u] w fun e w' => ∃ v', e = .returned v' ∧ Done w w' v v' (each op l by') := by
  obtain ⟨ua, uc, hue, _, _⟩ := hu.shape
  obtain ⟨n, hl⟩ : ∃ n, by'.length = n := ⟨_, rfl⟩
  rw [hl] at hue
  have HU := veil hu
  have H0 := veil (show Done w w v v (each op l (by'.take 0)) from by rw [List.take_zero]; exact Done.same h (Below.refl _ _))
  have HF := veil hf
  have eg := hf.eg
  have HB := veil hb
  have HNE := veil hne
  have HC := veil hc
  have HN := veil (show by'.length = n ∧ l.length + n ≤ 536870912 from ⟨hl, by omega⟩)
  clear hu h hf hb hne hn hc hl
  subst hue
  go_enter Tryz.func49, Tryz.ntmps49
  go_wp2
  go_loopw [0, 11] (fun v0 iv wr => ∃ (k : Nat) (vv : Value), k ≤ n ∧ iv = .int .i64 (k : Int) ∧ vv = v0 ∧ Done w wr v vv (each op l (by'.take k)))
    (fun _ iv _ => n - (intOf iv).toNat)
  case atStart => exact ⟨0, v, Nat.zero_le _, rfl, rfl, H0.out⟩
  case round =>
    clear H0
    obtain ⟨k, vv, hk, rfl, rfl, hD⟩ := hrel
    by_cases hlt : k < n
    · have hu1 := HU.out.same (w' := wr) (fun b hb => hD.keep.block b (HU.out.lt b hb) (HNE.out b hb))
      have hu2 := hu1
      rw [HN.out.1] at hu2
      obtain ⟨g, o, hva, d1, d2⟩ := gl_cells hu2 HN.out.1 k hlt
      subst hva
      obtain ⟨r, hr⟩ : ∃ r, gl by' k = r := ⟨_, rfl⟩
      rw [hr] at d1 d2
      have hmem : r ∈ by' := by rw [← hr]; exact List.mem_of_getElem? (gl_at (by have := HN.out; omega))
      have htk : by'.take (k + 1) = by'.take k ++ [r] := by rw [List.take_add_one, gl_at (by have := HN.out; omega), hr]; rfl
      have hcn := each_canon HF.out (by' := by'.take k) (fun a ha => HB.out a (List.mem_of_mem_take ha)) HC.out
      have hb1 : Below wr.heap.size wr (wr.alloc (.cells (rC2 r) 77)) := (Below.refl _ wr).alloc (Nat.le_refl _) _
      have CL := veil (HF.out.call (wr.alloc (.cells (rC2 r) 77)) vv _ r (hD.row.below hb1) (by have := hcn.2; rw [List.length_take] at this; have := HN.out; omega) hcn.1 (HB.out r hmem))
      have HD := veil hD
      have HB1 := veil hb1
      have HTK := veil htk
      have bI : (k : Int) < (n : Int) := by omega
      have HLT := veil hlt
      unfold rcA rC2 at CL
      unfold rC2 at HB1
      have w1 : IntKind.i64.wrap ((k : Int) + 1) = ((k + 1 : Nat) : Int) := by rw [IntKind.wrap_i64]; have := HN.out; omega
      clear hu1 hu2 hr hmem htk hcn hb1 hD hlt hk
      go_wp2
      refine CL.out.mono ?_
      rintro e1 w1 ⟨v1, rfl, hd1⟩
      have HD1 := veil (HD.out.trans (Done.behind HB1.out hd1))
      clear hd1 CL HD HB1
      go_wp2
      go_roundw
      case rel => exact ⟨k + 1, v1, HLT.out, by go_num, rfl, by rw [HTK.out, each_snoc]; exact HD1.out⟩
      case measure => have := HLT.out; simp [intOf]; omega
    · obtain rfl : k = n := by omega
      have HD := veil (show Done w wr v vv (each op l by') from by rw [List.take_of_length_le (by have := HN.out; omega)] at hD; exact hD)
      clear hD hlt hk
      go_wp2
      go_ret
      exact ⟨vv, rfl, HD.out⟩
/-- The first of runs. -/
theorem first_any (w : World) {v : Value} {l : List Rn} (h : RowO w 77 2 v l.length (vr l)) :
    Calls Tryz.prog 32 #[v] w fun e w' => e = .returned (rcA (fst l)) ∧ Below w.heap.size w w' := by
  obtain ⟨va, vc, rfl, _, _⟩ := h.shape
  have HB := veil ((Below.refl w.heap.size w).alloc (Nat.le_refl _) (.cells #[.int .u64 0, .int .u64 0] 77))
  cases l with
  | nil =>
    clear h
    show Calls Tryz.prog 32 #[.slice va 0 vc] w _
    have q1 : Row (w.alloc (.cells #[.int .u64 0, .int .u64 0] 77)) w.heap.size 77 #[.int .u64 0, .int .u64 0] := Row.new _ _ _
    have Q1 := veil q1
    clear q1
    go_enter Tryz.func32, Tryz.ntmps32
    go_wp2
    refine bodyPost_ret (results_cell_row rfl _ _ w.heap.size 77 _ (0, 0) _ rfl Q1.out Tryz.underlying77 rfl (by kernel_rfl)) rfl ⟨rfl, HB.out⟩
  | cons a l =>
    obtain ⟨g, o, hva, d1, d2⟩ := gl_cells h rfl 0 (by simp)
    have e0 : gl (a :: l) 0 = a := rfl
    rw [e0, Nat.zero_mul, Nat.add_zero] at d1 d2
    have hg := h.lt g (by rw [hva]; rfl)
    subst hva
    obtain ⟨n, hn⟩ : ∃ n, (a :: l).length = n := ⟨_, rfl⟩
    have n2 : 0 < n := by rw [← hn]; simp
    have n0 : ¬ (n : Int) = 0 := by omega
    have n1 : 0 < (n : Int) := by omega
    have HB := veil (show Below w.heap.size w (w.alloc (.cells #[.int .u64 (a.1 : Int), .int .u64 (a.2 : Int)] 77)) from (Below.refl _ w).alloc (Nat.le_refl _) _)
    rw [hn]
    show Calls _ _ _ _ (fun e w' => e = .returned (.agg #[.int .u64 (a.1 : Int), .int .u64 (a.2 : Int)]) ∧ _)
    clear h hn
    go_enter Tryz.func32, Tryz.ntmps32
    go_wp2
    refine bodyPost_ret (results_cell_row rfl _ _ w.heap.size 77 _ (0, 0) _ rfl (Row.new _ _ _) Tryz.underlying77 rfl (by kernel_rfl)) rfl ⟨rfl, HB.out⟩
end Sr
end Go.Proofs.YtehadfidenejdaaGreatDoor
