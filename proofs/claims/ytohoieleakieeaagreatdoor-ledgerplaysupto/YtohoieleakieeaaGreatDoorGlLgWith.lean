/-
  One more time is measured.
-/
import Derived.Test.YtohoieleakieeaaGreatDoorGl7
import Derived.Test.YtohoieleakieeaaGreatDoorGlLgTool
import Derived.Deep.RegionHeld3
namespace Go.Proofs.YtohoieleakieeaaGreatDoor
open Go Go.RowKit

def withA (lea latest delay : Nat) : Nat := if min lea latest + delay ≤ latest then latest - delay else latest
def withV (smo var a : Nat) : Nat := (3 * var + (max smo a - min smo a)) / 4
def withS (smo a : Nat) : Nat := (7 * smo + a) / 8
--REG
def depWi : Nat → List Nat
  | 0 => []
  | 1 => [0]
  | 2 => [1]
  | 3 => []
  | 4 => [3]
  | 5 => []
  | 6 => [4, 5]
  | 7 => [2, 6]
  | 8 => [7]
  | 9 => []
  | 10 => [0, 1, 2, 3, 4, 5, 6, 7, 8, 9]
  | _ => []
theorem depWi_all (j : Nat) (hj : decide (j < 10) = true) : j ∈ depWi 10 := by
  have := of_decide_eq_true hj
  simp only [depWi, List.mem_cons, List.not_mem_nil, or_false]
  omega
def valWi (B smo var a d vv : Nat) : Nat → Value → Prop
  | 0, u => u = .pointer (some ⟨B, 2, none⟩)
  | 1, u => u = .int .u64 (var : Int)
  | 2, u => u = .int .u64 (3 * (var : Int))
  | 3, u => u = .pointer (some ⟨B, 1, none⟩)
  | 4, u => u = .int .u64 (smo : Int)
  | 5, u => u = .int .u64 (a : Int)
  | 6, u => u = .int .u64 (d : Int)
  | 7, u => u = .int .u64 (3 * (var : Int) + (d : Int))
  | 8, u => u = .int .u64 (vv : Int)
  | 9, u => u = .pointer (some ⟨B, 2, none⟩)
  | _, _ => True
set_option maxRecDepth 20000 in
set_option maxHeartbeats 2000000 in
theorem with_any (lat smo var lea latest delay : Nat) (w : World) (h1 : smo ≤ 1099511627775) (h2 : var ≤ 1099511627775) (h3 : lea ≤ 1099511627775) (h4 : latest ≤ 1099511627775) (h5 : delay ≤ 1099511627775) :
    Calls Tryz.prog 122 #[.agg (tmC lat smo var lea), .int .u64 (latest : Int), .int .u64 (delay : Int)] w fun e w' => e = .returned (.agg (tmC latest (withS smo (withA lea latest delay)) (withV smo var (withA lea latest delay)) (min lea latest))) ∧ Below w.heap.size w w' := by
  obtain ⟨k, hk⟩ : ∃ k, min lea latest = k := ⟨_, rfl⟩
  have hA : withA lea latest delay = if k + delay ≤ latest then latest - delay else latest := by unfold withA; rw [hk]
  have e1 : min (lea : Int) (latest : Int) = (k : Int) := by omega
  have e2 : IntKind.u64.wrap ((k : Int) + (delay : Int)) = (k : Int) + (delay : Int) := by rw [IntKind.wrap_u64]; omega
  rw [hk]
  obtain ⟨a, ha⟩ : ∃ a, withA lea latest delay = a := ⟨_, rfl⟩
  have hal : a ≤ 1099511627775 := by rw [← ha, hA]; split <;> omega
  obtain ⟨d, hd⟩ : ∃ d, max smo a - min smo a = d := ⟨_, rfl⟩
  obtain ⟨vv, hvv⟩ : ∃ vv, withV smo var a = vv := ⟨_, rfl⟩
  obtain ⟨ss, hss⟩ : ∃ ss, withS smo a = ss := ⟨_, rfl⟩
  have hvv' := hvv
  unfold withV at hvv'
  rw [hd] at hvv'
  have hss' := hss
  unfold withS at hss'
  have f1 : IntKind.u64.wrap (3 * (var : Int)) = 3 * (var : Int) := by rw [IntKind.wrap_u64]; omega
  have f2 : IntKind.u64.wrap (3 * (var : Int) + (d : Int)) = 3 * (var : Int) + (d : Int) := by rw [IntKind.wrap_u64]; omega
  have f3 : Int.tdiv (3 * (var : Int) + (d : Int)) 4 = (vv : Int) := by rw [Int.tdiv_eq_ediv_of_nonneg (by omega)]; omega
  have f4 : IntKind.u64.wrap (vv : Int) = (vv : Int) := by rw [IntKind.wrap_u64]; omega
  have g1 : IntKind.u64.wrap (7 * (smo : Int)) = 7 * (smo : Int) := by rw [IntKind.wrap_u64]; omega
  have g2 : IntKind.u64.wrap (7 * (smo : Int) + (a : Int)) = 7 * (smo : Int) + (a : Int) := by rw [IntKind.wrap_u64]; omega
  have g3 : Int.tdiv (7 * (smo : Int) + (a : Int)) 8 = (ss : Int) := by rw [Int.tdiv_eq_ediv_of_nonneg (by omega)]; omega
  have g4 : IntKind.u64.wrap (ss : Int) = (ss : Int) := by rw [IntKind.wrap_u64]; omega
  have BC := veil (fun w => between_any smo a w h1 hal)
  rw [hd] at BC
  rw [ha, hvv, hss]
  rw [hA] at ha
  have H4 := veil h4
  clear hk hA hal hd hvv hvv' hss hss' h1 h2 h3 h4 h5
  unfold tmC
  by_cases c : k + delay ≤ latest
  · rw [if_pos c] at ha
    have c1 : decide ((k : Int) + (delay : Int) ≤ (latest : Int)) = true := by simp; omega
    have c2 : decide (k + delay ≤ latest) = true := by simp; omega
    have c3 : IntKind.u64.wrap ((latest : Int) - (delay : Int)) = (a : Int) := by have := H4.out; rw [IntKind.wrap_u64]; omega
    clear c ha
    go_enter Tryz.func122, Tryz.ntmps122
    go_wp2_with fail
    have HR : Hid (Row ((w.alloc (.cells #[.int .u64 (latest : Int), .int .u64 (smo : Int), .int .u64 (var : Int), .int .u64 (k : Int)] 66)).alloc (.cells #[.int .u64 0, .int .u64 0, .int .u64 0, .int .u64 0] 66)) w.heap.size 66 #[.int .u64 (latest : Int), .int .u64 (smo : Int), .int .u64 (var : Int), .int .u64 (k : Int)]) := veil ((Row.new _ _ _).alloc _)
    have HQ : Hid (Row ((w.alloc (.cells #[.int .u64 (latest : Int), .int .u64 (smo : Int), .int .u64 (var : Int), .int .u64 (k : Int)] 66)).alloc (.cells #[.int .u64 0, .int .u64 0, .int .u64 0, .int .u64 0] 66)) (w.heap.size + 1) 66 #[.int .u64 0, .int .u64 0, .int .u64 0, .int .u64 0]) := veil (Row.new1 _ _ _ _)
    have HB : Hid (Below w.heap.size w ((w.alloc (.cells #[.int .u64 (latest : Int), .int .u64 (smo : Int), .int .u64 (var : Int), .int .u64 (k : Int)] 66)).alloc (.cells #[.int .u64 0, .int .u64 0, .int .u64 0, .int .u64 0] 66))) := veil (((Below.refl w.heap.size w).alloc (Nat.le_refl _) _).alloc (by simp) _)
    generalize ((w.alloc (.cells #[.int .u64 (latest : Int), .int .u64 (smo : Int), .int .u64 (var : Int), .int .u64 (k : Int)] 66)).alloc (.cells #[.int .u64 0, .int .u64 0, .int .u64 0, .int .u64 0] 66)) = w0 at *
    replace HR := veil (HR.out.below ((Below.refl _ w0).drew) HR.out.lt)
    replace HQ := veil (HQ.out.below ((Below.refl _ w0).drew) HQ.out.lt)
    replace HB := veil HB.out.drew
    refine (wpIn_wide (n := 4)).1 ?_
    refine wpIn_region_any (by kernel_rfl) ?_
    refine anyIn_mem (valWi w.heap.size smo var a d vv) (fun W => W = w0.drew) (fun W => Row W w.heap.size 66 #[.int .u64 (latest : Int), .int .u64 (smo : Int), .int .u64 (vv : Int), .int .u64 (k : Int)] ∧ Row W (w.heap.size + 1) 66 #[.int .u64 0, .int .u64 0, .int .u64 0, .int .u64 0] ∧ Below w.heap.size w W) 10 (fun j => decide (j < 10)) [25, 26, 27, 28, 29, 30, 31, 32, 33, 34, 100000] depWi (by kernel_rfl) rfl (by decide) (by decide) rfl depWi_all rfl ?step ?store ?after ?done
    case step =>
      intro x W i e hi hW hdi hdep
      subst hW
      match i, hi, hdi, hdep with
      | 0, _, hdi, _ =>
        obtain rfl := Option.some.inj hdi
        exact OI_value rfl rfl (about_none (by intro c h; cases h)) (by intro c h; cases h) (.pointer (some ⟨w.heap.size, 2, none⟩)) _ (by kernel_rfl) ⟨_, rfl, rfl, rfl⟩
      | 1, _, hdi, hdep =>
        obtain rfl := Option.some.inj hdi
        rw [updV_self (show x 0 = _ from hdep 0 (by simp [depWi]))]
        exact OI_value rfl rfl (about_none (by intro c h; cases h)) (by intro c h; cases h) (.int .u64 (var : Int)) _ (lgRun_cell 23 _ ⟨w.heap.size, 2, none⟩ _ _ rfl (by kernel_rfl) Tryz.underlying23 rfl _ (HR.out.cell 2)) ⟨_, rfl, rfl, rfl⟩
      | 2, _, hdi, hdep =>
        obtain rfl := Option.some.inj hdi
        rw [updV_self (show x 1 = _ from hdep 1 (by simp [depWi]))]
        exact OI_value rfl rfl (about_none (by intro c h; cases h)) (by intro c h; cases h) (.int .u64 (3 * (var : Int))) _ (val_eq (by kernel_rfl) f1) ⟨_, rfl, rfl, rfl⟩
      | 3, _, hdi, _ =>
        obtain rfl := Option.some.inj hdi
        exact OI_value rfl rfl (about_none (by intro c h; cases h)) (by intro c h; cases h) (.pointer (some ⟨w.heap.size, 1, none⟩)) _ (by kernel_rfl) ⟨_, rfl, rfl, rfl⟩
      | 4, _, hdi, hdep =>
        obtain rfl := Option.some.inj hdi
        rw [updV_self (show x 3 = _ from hdep 3 (by simp [depWi]))]
        exact OI_value rfl rfl (about_none (by intro c h; cases h)) (by intro c h; cases h) (.int .u64 (smo : Int)) _ (lgRun_cell 23 _ ⟨w.heap.size, 1, none⟩ _ _ rfl (by kernel_rfl) Tryz.underlying23 rfl _ (HR.out.cell 1)) ⟨_, rfl, rfl, rfl⟩
      | 5, _, hdi, _ =>
        obtain rfl := Option.some.inj hdi
        exact OI_value rfl rfl (about_none (by intro c h; cases h)) (by intro c h; cases h) (.int .u64 (a : Int)) _ (by kernel_rfl) ⟨_, rfl, rfl, rfl⟩
      | 6, _, hdi, hdep =>
        obtain rfl := Option.some.inj hdi
        rw [updV_self (show x 4 = _ from hdep 4 (by simp [depWi])), updV_self (show (updV x 4 _) 5 = _ from hdep 5 (by simp [depWi]))]
        refine OI_call rfl rfl (by intro c h; cases h) 124 #[.int .u64 (smo : Int), .int .u64 (a : Int)] (fun _ _ => trivial) (by kernel_rfl) (by decide) ?_
        refine (callsIn_wide.2 (BC.out _)).mono ?_
        rintro e w' ⟨rfl, rfl⟩
        exact ⟨_, rfl, _, rfl, rfl, rfl⟩
      | 7, _, hdi, hdep =>
        obtain rfl := Option.some.inj hdi
        rw [updV_self (show x 2 = _ from hdep 2 (by simp [depWi])), updV_self (show (updV x 2 _) 6 = _ from hdep 6 (by simp [depWi]))]
        exact OI_value rfl rfl (about_none (by intro c h; cases h)) (by intro c h; cases h) (.int .u64 (3 * (var : Int) + (d : Int))) _ (val_eq (by kernel_rfl) f2) ⟨_, rfl, rfl, rfl⟩
      | 8, _, hdi, hdep =>
        obtain rfl := Option.some.inj hdi
        rw [updV_self (show x 7 = _ from hdep 7 (by simp [depWi]))]
        exact OI_value rfl rfl (about_none (by intro c h; cases h)) (by intro c h; cases h) (.int .u64 (vv : Int)) _ (lgRun_quo4 _ _ _ _ (3 * (var : Int) + (d : Int)) 4 (vv : Int) f3 f4 (by decide) rfl (by kernel_rfl) (by kernel_rfl) _) ⟨_, rfl, rfl, rfl⟩
      | 9, _, hdi, _ =>
        obtain rfl := Option.some.inj hdi
        exact OI_value rfl rfl (about_none (by intro c h; cases h)) (by intro c h; cases h) (.pointer (some ⟨w.heap.size, 2, none⟩)) _ (by kernel_rfl) ⟨_, rfl, rfl, rfl⟩
      | _ + 10, hi, _, _ => exact absurd (of_decide_eq_true hi) (by omega)
    case store =>
      intro x W hW hx
      subst hW
      rw [updV_self (show x 9 = _ from hx 9 (by decide)), updV_self (show (updV x 9 _) 8 = _ from hx 8 (by decide))]
      refine OI_skip rfl rfl (about_none (by intro c h; cases h)) (by intro c h; cases h) _ (lgRun_store 23 _ _ ⟨w.heap.size, 2, none⟩ (.int .u64 (vv : Int)) (.int .u64 (var : Int)) rfl rfl (by kernel_rfl) (by kernel_rfl) (by kernel_rfl) _ (HR.out.cell 2) (HR.out.frozen 2)) ⟨lgPut_none _ _, HR.out.set 2 _, HQ.out.other (a := ⟨w.heap.size, 2, none⟩) (show w.heap.size + 1 ≠ w.heap.size by omega) _, HB.out.setCell (p := ⟨w.heap.size, 2, none⟩) (Nat.le_refl _) _⟩
    case after =>
      intro x W i e hi hne hdi hdep
      match i, hi, hne, hdi, hdep with
      | 0, hi, _, _, _ => exact absurd hi (by decide)
      | 1, hi, _, _, _ => exact absurd hi (by decide)
      | 2, hi, _, _, _ => exact absurd hi (by decide)
      | 3, hi, _, _, _ => exact absurd hi (by decide)
      | 4, hi, _, _, _ => exact absurd hi (by decide)
      | 5, hi, _, _, _ => exact absurd hi (by decide)
      | 6, hi, _, _, _ => exact absurd hi (by decide)
      | 7, hi, _, _, _ => exact absurd hi (by decide)
      | 8, hi, _, _, _ => exact absurd hi (by decide)
      | 9, hi, _, _, _ => exact absurd hi (by decide)
      | 10, _, hne, _, _ => exact absurd rfl hne
      | _ + 11, _, _, hdi, _ => simp at hdi
    case done =>
      rintro x W ⟨hr, hq, hb⟩ hx
      simp only [putsV, Act.put, List.setIfInBounds_toArray, List.set_cons_succ, List.set_cons_zero, List.set_nil, Nat.reduceAdd]
      generalize x 0 = z0, x 1 = z1, x 2 = z2, x 3 = z3, x 4 = z4, x 5 = z5, x 6 = z6, x 7 = z7, x 8 = z8, x 9 = z9, x 10 = z10
      clear hx
      have R := veil hr
      have Q := veil hq
      have B := veil hb
      have y1 : W.cell? ⟨w.heap.size, 1, none⟩ = some (.int .u64 (smo : Int)) := hr.cell 1
      have y2 := hr.frozen 1
      have R2 := hr.set 1 (.int .u64 (ss : Int))
      have t0 : (W.setCell ⟨w.heap.size, 1, none⟩ (.int .u64 (ss : Int))).cell? ⟨w.heap.size, 0, none⟩ = some (.int .u64 (latest : Int)) := R2.cell 0
      have t1 : (W.setCell ⟨w.heap.size, 1, none⟩ (.int .u64 (ss : Int))).cell? ⟨w.heap.size, 1, none⟩ = some (.int .u64 (ss : Int)) := R2.cell 1
      have t2 : (W.setCell ⟨w.heap.size, 1, none⟩ (.int .u64 (ss : Int))).cell? ⟨w.heap.size, 2, none⟩ = some (.int .u64 (vv : Int)) := R2.cell 2
      have t3 : (W.setCell ⟨w.heap.size, 1, none⟩ (.int .u64 (ss : Int))).cell? ⟨w.heap.size, 3, none⟩ = some (.int .u64 (k : Int)) := R2.cell 3
      have Q2 := hq.other (a := ⟨w.heap.size, 1, none⟩) (show w.heap.size + 1 ≠ w.heap.size by omega) (.int .u64 (ss : Int))
      have q0 : (W.setCell ⟨w.heap.size, 1, none⟩ (.int .u64 (ss : Int))).cell? ⟨w.heap.size + 1, 0, none⟩ = some (.int .u64 0) := Q2.cell 0
      have p0 := Q2.frozen 0
      have q1 : (W.setCell ⟨w.heap.size, 1, none⟩ (.int .u64 (ss : Int))).cell? ⟨w.heap.size + 1, 1, none⟩ = some (.int .u64 0) := Q2.cell 1
      have p1 := Q2.frozen 1
      have q2 : (W.setCell ⟨w.heap.size, 1, none⟩ (.int .u64 (ss : Int))).cell? ⟨w.heap.size + 1, 2, none⟩ = some (.int .u64 0) := Q2.cell 2
      have p2 := Q2.frozen 2
      have q3 : (W.setCell ⟨w.heap.size, 1, none⟩ (.int .u64 (ss : Int))).cell? ⟨w.heap.size + 1, 3, none⟩ = some (.int .u64 0) := Q2.cell 3
      have p3 := Q2.frozen 3
      have Q3 := veil Q2
      clear hr hq hb R2 Q2 R Q
      go_wp2
      refine bodyPost_ret (results_cell_row rfl _ _ (w.heap.size + 1) 66 _ (0, 0) _ rfl ((((Q3.out.set 0 (.int .u64 (latest : Int))).set 1 (.int .u64 (ss : Int))).set 2 (.int .u64 (vv : Int))).set 3 (.int .u64 (k : Int))) Tryz.underlying66 rfl (by kernel_rfl)) rfl ⟨rfl, ?_⟩
      exact ((((B.out.setCell (p := ⟨w.heap.size, 1, none⟩) (Nat.le_refl _) _).setCell (p := ⟨w.heap.size + 1, 0, none⟩) (by simp) _).setCell (p := ⟨w.heap.size + 1, 1, none⟩) (by simp) _).setCell (p := ⟨w.heap.size + 1, 2, none⟩) (by simp) _).setCell (p := ⟨w.heap.size + 1, 3, none⟩) (by simp) _
  · rw [if_neg c] at ha
    have c1 : decide ((k : Int) + (delay : Int) ≤ (latest : Int)) = false := by simp; omega
    have c2 : decide (k + delay ≤ latest) = false := by simp; omega
    subst ha
    clear c
    go_enter Tryz.func122, Tryz.ntmps122
    go_wp2_with fail
    have HR : Hid (Row ((w.alloc (.cells #[.int .u64 (latest : Int), .int .u64 (smo : Int), .int .u64 (var : Int), .int .u64 (k : Int)] 66)).alloc (.cells #[.int .u64 0, .int .u64 0, .int .u64 0, .int .u64 0] 66)) w.heap.size 66 #[.int .u64 (latest : Int), .int .u64 (smo : Int), .int .u64 (var : Int), .int .u64 (k : Int)]) := veil ((Row.new _ _ _).alloc _)
    have HQ : Hid (Row ((w.alloc (.cells #[.int .u64 (latest : Int), .int .u64 (smo : Int), .int .u64 (var : Int), .int .u64 (k : Int)] 66)).alloc (.cells #[.int .u64 0, .int .u64 0, .int .u64 0, .int .u64 0] 66)) (w.heap.size + 1) 66 #[.int .u64 0, .int .u64 0, .int .u64 0, .int .u64 0]) := veil (Row.new1 _ _ _ _)
    have HB : Hid (Below w.heap.size w ((w.alloc (.cells #[.int .u64 (latest : Int), .int .u64 (smo : Int), .int .u64 (var : Int), .int .u64 (k : Int)] 66)).alloc (.cells #[.int .u64 0, .int .u64 0, .int .u64 0, .int .u64 0] 66))) := veil (((Below.refl w.heap.size w).alloc (Nat.le_refl _) _).alloc (by simp) _)
    generalize ((w.alloc (.cells #[.int .u64 (latest : Int), .int .u64 (smo : Int), .int .u64 (var : Int), .int .u64 (k : Int)] 66)).alloc (.cells #[.int .u64 0, .int .u64 0, .int .u64 0, .int .u64 0] 66)) = w0 at *
    replace HR := veil (HR.out.below ((Below.refl _ w0).drew) HR.out.lt)
    replace HQ := veil (HQ.out.below ((Below.refl _ w0).drew) HQ.out.lt)
    replace HB := veil HB.out.drew
    refine (wpIn_wide (n := 4)).1 ?_
    refine wpIn_region_any (by kernel_rfl) ?_
    refine anyIn_mem (valWi w.heap.size smo var latest d vv) (fun W => W = w0.drew) (fun W => Row W w.heap.size 66 #[.int .u64 (latest : Int), .int .u64 (smo : Int), .int .u64 (vv : Int), .int .u64 (k : Int)] ∧ Row W (w.heap.size + 1) 66 #[.int .u64 0, .int .u64 0, .int .u64 0, .int .u64 0] ∧ Below w.heap.size w W) 10 (fun j => decide (j < 10)) [25, 26, 27, 28, 29, 30, 31, 32, 33, 34, 100000] depWi (by kernel_rfl) rfl (by decide) (by decide) rfl depWi_all rfl ?step ?store ?after ?done
    case step =>
      intro x W i e hi hW hdi hdep
      subst hW
      match i, hi, hdi, hdep with
      | 0, _, hdi, _ =>
        obtain rfl := Option.some.inj hdi
        exact OI_value rfl rfl (about_none (by intro c h; cases h)) (by intro c h; cases h) (.pointer (some ⟨w.heap.size, 2, none⟩)) _ (by kernel_rfl) ⟨_, rfl, rfl, rfl⟩
      | 1, _, hdi, hdep =>
        obtain rfl := Option.some.inj hdi
        rw [updV_self (show x 0 = _ from hdep 0 (by simp [depWi]))]
        exact OI_value rfl rfl (about_none (by intro c h; cases h)) (by intro c h; cases h) (.int .u64 (var : Int)) _ (lgRun_cell 23 _ ⟨w.heap.size, 2, none⟩ _ _ rfl (by kernel_rfl) Tryz.underlying23 rfl _ (HR.out.cell 2)) ⟨_, rfl, rfl, rfl⟩
      | 2, _, hdi, hdep =>
        obtain rfl := Option.some.inj hdi
        rw [updV_self (show x 1 = _ from hdep 1 (by simp [depWi]))]
        exact OI_value rfl rfl (about_none (by intro c h; cases h)) (by intro c h; cases h) (.int .u64 (3 * (var : Int))) _ (val_eq (by kernel_rfl) f1) ⟨_, rfl, rfl, rfl⟩
      | 3, _, hdi, _ =>
        obtain rfl := Option.some.inj hdi
        exact OI_value rfl rfl (about_none (by intro c h; cases h)) (by intro c h; cases h) (.pointer (some ⟨w.heap.size, 1, none⟩)) _ (by kernel_rfl) ⟨_, rfl, rfl, rfl⟩
      | 4, _, hdi, hdep =>
        obtain rfl := Option.some.inj hdi
        rw [updV_self (show x 3 = _ from hdep 3 (by simp [depWi]))]
        exact OI_value rfl rfl (about_none (by intro c h; cases h)) (by intro c h; cases h) (.int .u64 (smo : Int)) _ (lgRun_cell 23 _ ⟨w.heap.size, 1, none⟩ _ _ rfl (by kernel_rfl) Tryz.underlying23 rfl _ (HR.out.cell 1)) ⟨_, rfl, rfl, rfl⟩
      | 5, _, hdi, _ =>
        obtain rfl := Option.some.inj hdi
        exact OI_value rfl rfl (about_none (by intro c h; cases h)) (by intro c h; cases h) (.int .u64 (latest : Int)) _ (by kernel_rfl) ⟨_, rfl, rfl, rfl⟩
      | 6, _, hdi, hdep =>
        obtain rfl := Option.some.inj hdi
        rw [updV_self (show x 4 = _ from hdep 4 (by simp [depWi])), updV_self (show (updV x 4 _) 5 = _ from hdep 5 (by simp [depWi]))]
        refine OI_call rfl rfl (by intro c h; cases h) 124 #[.int .u64 (smo : Int), .int .u64 (latest : Int)] (fun _ _ => trivial) (by kernel_rfl) (by decide) ?_
        refine (callsIn_wide.2 (BC.out _)).mono ?_
        rintro e w' ⟨rfl, rfl⟩
        exact ⟨_, rfl, _, rfl, rfl, rfl⟩
      | 7, _, hdi, hdep =>
        obtain rfl := Option.some.inj hdi
        rw [updV_self (show x 2 = _ from hdep 2 (by simp [depWi])), updV_self (show (updV x 2 _) 6 = _ from hdep 6 (by simp [depWi]))]
        exact OI_value rfl rfl (about_none (by intro c h; cases h)) (by intro c h; cases h) (.int .u64 (3 * (var : Int) + (d : Int))) _ (val_eq (by kernel_rfl) f2) ⟨_, rfl, rfl, rfl⟩
      | 8, _, hdi, hdep =>
        obtain rfl := Option.some.inj hdi
        rw [updV_self (show x 7 = _ from hdep 7 (by simp [depWi]))]
        exact OI_value rfl rfl (about_none (by intro c h; cases h)) (by intro c h; cases h) (.int .u64 (vv : Int)) _ (lgRun_quo4 _ _ _ _ (3 * (var : Int) + (d : Int)) 4 (vv : Int) f3 f4 (by decide) rfl (by kernel_rfl) (by kernel_rfl) _) ⟨_, rfl, rfl, rfl⟩
      | 9, _, hdi, _ =>
        obtain rfl := Option.some.inj hdi
        exact OI_value rfl rfl (about_none (by intro c h; cases h)) (by intro c h; cases h) (.pointer (some ⟨w.heap.size, 2, none⟩)) _ (by kernel_rfl) ⟨_, rfl, rfl, rfl⟩
      | _ + 10, hi, _, _ => exact absurd (of_decide_eq_true hi) (by omega)
    case store =>
      intro x W hW hx
      subst hW
      rw [updV_self (show x 9 = _ from hx 9 (by decide)), updV_self (show (updV x 9 _) 8 = _ from hx 8 (by decide))]
      refine OI_skip rfl rfl (about_none (by intro c h; cases h)) (by intro c h; cases h) _ (lgRun_store 23 _ _ ⟨w.heap.size, 2, none⟩ (.int .u64 (vv : Int)) (.int .u64 (var : Int)) rfl rfl (by kernel_rfl) (by kernel_rfl) (by kernel_rfl) _ (HR.out.cell 2) (HR.out.frozen 2)) ⟨lgPut_none _ _, HR.out.set 2 _, HQ.out.other (a := ⟨w.heap.size, 2, none⟩) (show w.heap.size + 1 ≠ w.heap.size by omega) _, HB.out.setCell (p := ⟨w.heap.size, 2, none⟩) (Nat.le_refl _) _⟩
    case after =>
      intro x W i e hi hne hdi hdep
      match i, hi, hne, hdi, hdep with
      | 0, hi, _, _, _ => exact absurd hi (by decide)
      | 1, hi, _, _, _ => exact absurd hi (by decide)
      | 2, hi, _, _, _ => exact absurd hi (by decide)
      | 3, hi, _, _, _ => exact absurd hi (by decide)
      | 4, hi, _, _, _ => exact absurd hi (by decide)
      | 5, hi, _, _, _ => exact absurd hi (by decide)
      | 6, hi, _, _, _ => exact absurd hi (by decide)
      | 7, hi, _, _, _ => exact absurd hi (by decide)
      | 8, hi, _, _, _ => exact absurd hi (by decide)
      | 9, hi, _, _, _ => exact absurd hi (by decide)
      | 10, _, hne, _, _ => exact absurd rfl hne
      | _ + 11, _, _, hdi, _ => simp at hdi
    case done =>
      rintro x W ⟨hr, hq, hb⟩ hx
      simp only [putsV, Act.put, List.setIfInBounds_toArray, List.set_cons_succ, List.set_cons_zero, List.set_nil, Nat.reduceAdd]
      generalize x 0 = z0, x 1 = z1, x 2 = z2, x 3 = z3, x 4 = z4, x 5 = z5, x 6 = z6, x 7 = z7, x 8 = z8, x 9 = z9, x 10 = z10
      clear hx
      have R := veil hr
      have Q := veil hq
      have B := veil hb
      have y1 : W.cell? ⟨w.heap.size, 1, none⟩ = some (.int .u64 (smo : Int)) := hr.cell 1
      have y2 := hr.frozen 1
      have R2 := hr.set 1 (.int .u64 (ss : Int))
      have t0 : (W.setCell ⟨w.heap.size, 1, none⟩ (.int .u64 (ss : Int))).cell? ⟨w.heap.size, 0, none⟩ = some (.int .u64 (latest : Int)) := R2.cell 0
      have t1 : (W.setCell ⟨w.heap.size, 1, none⟩ (.int .u64 (ss : Int))).cell? ⟨w.heap.size, 1, none⟩ = some (.int .u64 (ss : Int)) := R2.cell 1
      have t2 : (W.setCell ⟨w.heap.size, 1, none⟩ (.int .u64 (ss : Int))).cell? ⟨w.heap.size, 2, none⟩ = some (.int .u64 (vv : Int)) := R2.cell 2
      have t3 : (W.setCell ⟨w.heap.size, 1, none⟩ (.int .u64 (ss : Int))).cell? ⟨w.heap.size, 3, none⟩ = some (.int .u64 (k : Int)) := R2.cell 3
      have Q2 := hq.other (a := ⟨w.heap.size, 1, none⟩) (show w.heap.size + 1 ≠ w.heap.size by omega) (.int .u64 (ss : Int))
      have q0 : (W.setCell ⟨w.heap.size, 1, none⟩ (.int .u64 (ss : Int))).cell? ⟨w.heap.size + 1, 0, none⟩ = some (.int .u64 0) := Q2.cell 0
      have p0 := Q2.frozen 0
      have q1 : (W.setCell ⟨w.heap.size, 1, none⟩ (.int .u64 (ss : Int))).cell? ⟨w.heap.size + 1, 1, none⟩ = some (.int .u64 0) := Q2.cell 1
      have p1 := Q2.frozen 1
      have q2 : (W.setCell ⟨w.heap.size, 1, none⟩ (.int .u64 (ss : Int))).cell? ⟨w.heap.size + 1, 2, none⟩ = some (.int .u64 0) := Q2.cell 2
      have p2 := Q2.frozen 2
      have q3 : (W.setCell ⟨w.heap.size, 1, none⟩ (.int .u64 (ss : Int))).cell? ⟨w.heap.size + 1, 3, none⟩ = some (.int .u64 0) := Q2.cell 3
      have p3 := Q2.frozen 3
      have Q3 := veil Q2
      clear hr hq hb R2 Q2 R Q
      go_wp2
      refine bodyPost_ret (results_cell_row rfl _ _ (w.heap.size + 1) 66 _ (0, 0) _ rfl ((((Q3.out.set 0 (.int .u64 (latest : Int))).set 1 (.int .u64 (ss : Int))).set 2 (.int .u64 (vv : Int))).set 3 (.int .u64 (k : Int))) Tryz.underlying66 rfl (by kernel_rfl)) rfl ⟨rfl, ?_⟩
      exact ((((B.out.setCell (p := ⟨w.heap.size, 1, none⟩) (Nat.le_refl _) _).setCell (p := ⟨w.heap.size + 1, 0, none⟩) (by simp) _).setCell (p := ⟨w.heap.size + 1, 1, none⟩) (by simp) _).setCell (p := ⟨w.heap.size + 1, 2, none⟩) (by simp) _).setCell (p := ⟨w.heap.size + 1, 3, none⟩) (by simp) _
end Go.Proofs.YtohoieleakieeaaGreatDoor
