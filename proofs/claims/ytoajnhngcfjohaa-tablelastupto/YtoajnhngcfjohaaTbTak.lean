/-
  The program's take: a field comes, the last one.
-/
import Derived.Test.YtoajnhngcfjohaaTbMov
namespace Go.Proofs.Ytoajnhngcfjohaa
open Go Go.RowKit

namespace Tb
section
variable {P : Program} {a : Act} {o : Oper}
theorem lgRun_addN (t t' : TypeId) (x y : Operand) (m r d : Nat) (hd : m + r = d) (hm : d ≤ 140737488355328) (ho : o.op = .binOp .add t x y t') (hx : a.eval x = .int .i64 (m : Int)) (hy : a.eval y = .int .i64 (r : Int)) (W : World) :
    (execOp a.eval o).run P W = .ok (.value (.int .i64 (d : Int))) W := by
  have hw : IntKind.i64.wrap ((m : Int) + (r : Int)) = (d : Int) := by rw [IntKind.wrap_i64]; omega
  unfold execOp
  simp only [ho, hx, hy]
  go_simp
end
def depT1 : Nat → List Nat
  | 2 => [1]
  | 3 => [2]
  | 4 => [3]
  | 6 => [0]
  | 7 => [6]
  | 8 => [7, 4]
  | 9 => [8, 5, 4]
  | _ => []
def dsT1 : List Nat := [11, 12, 13, 14, 15, 16, 17, 18, 19, 100000]
def valT1 (h q : Nat) (f : Fd) : Nat → Value
  | 0 => .pointer (some ⟨h, 0, none⟩)
  | 1 => .pointer (some ⟨h, 0, none⟩)
  | 2 => .pointer (some ⟨h, 0, none⟩)
  | 3 => .pointer (some ⟨h, 517, none⟩)
  | 4 => .int .i64 (q : Int)
  | 5 => .agg f.cells
  | 6 => .pointer (some ⟨h, 0, none⟩)
  | 7 => .pointer (some ⟨h, 4, none⟩)
  | 8 => .pointer (some ⟨h, 4 + q * 2, none⟩)
  | 9 => undef
  | _ => undef
def depT2 : Nat → List Nat
  | 1 => [0]
  | 2 => [1]
  | 3 => [2]
  | 5 => [4]
  | 6 => [3, 5]
  | 7 => [0]
  | 8 => [7]
  | 9 => [8, 6, 3, 4, 5]
  | _ => []
def dsT2 : List Nat := [27, 28, 29, 30, 31, 32, 33, 34, 35, 100000]
def valT2 (h s s1 : Nat) (f : Fd) : Nat → Value
  | 0 => .pointer (some ⟨h, 0, none⟩)
  | 1 => .pointer (some ⟨h, 0, none⟩)
  | 2 => .pointer (some ⟨h, 2, none⟩)
  | 3 => .int .i64 (s : Int)
  | 4 => .agg f.cells
  | 5 => .int .i64 (sz f : Nat)
  | 6 => .int .i64 (s1 : Int)
  | 7 => .pointer (some ⟨h, 0, none⟩)
  | 8 => .pointer (some ⟨h, 2, none⟩)
  | 9 => undef
  | _ => undef
theorem box_range {W : World} {b : Nat} {T : TypeId} {f : Fd} (h : Row W b T f.cells) : W.rangeAt b 0 f.cells.toList := Row.rangeH h 0 _ fun j v e => by rw [Nat.zero_add]; simpa using e
set_option maxRecDepth 100000 in
set_option maxHeartbeats 4000000 in
theorem tab_take {w : World} {h : Nat} {t : Tab} {A : List Fd} {p q : Nat} (x : PtOk w h t A p q) (f : Fd) (hf : size t.l + sz f ≤ 4096) (hc : t.came + 1 ≤ 1000000000000) :
    Calls Try.prog 36 #[.pointer (some ⟨h, 0, none⟩), .agg f.cells] w fun e w' => e = .returned (.tuple #[]) ∧
      ∃ A' p' q', PtOk w' h ⟨t.room, t.went, t.l ++ [f]⟩ A' p' q' ∧ KeepP (fun k => k = h) w w' := by
  obtain ⟨s, hs⟩ : ∃ s, size t.l = s := ⟨_, rfl⟩
  obtain ⟨s1, hs1⟩ : ∃ s1, s + sz f = s1 := ⟨_, rfl⟩
  have hsz : sz f = f.1.size + f.2.size + 32 := rfl
  obtain ⟨n, hn⟩ : ∃ n, t.l.length = n := ⟨_, rfl⟩
  have hn1 : n ≤ 127 := by have := size_length t.l; omega
  have hq1 := x.q1
  have hb : h < w.heap.size := Row.lt x.row
  have H := veil (show _ ∧ _ from ⟨x, hc⟩)
  have hs2 := veil hs
  have hfz : f.1.size + f.2.size ≤ 4096 := by omega
  rw [hs] at hf
  clear x hc hs hsz
  obtain ⟨b, hbs⟩ : ∃ b, w.heap.size = b := ⟨_, rfl⟩
  obtain ⟨fa, fb⟩ := f
  show Calls Try.prog 36 #[.pointer (some ⟨h, 0, none⟩), .agg #[.string fa, .string fb]] w _
  go_enter Try.func36, Try.ntmps36
  go_upto_region 1 with fail
  obtain ⟨w1, hw1⟩ : ∃ w1, w.alloc (.cells #[.string fa, .string fb] 23) = w1 := ⟨_, rfl⟩
  rw [hw1]
  have hB : Below w.heap.size w w1 := hw1 ▸ (Below.refl w.heap.size w).alloc (Nat.le_refl _) _
  have hbx : Row w1 b 23 (Fd.cells (fa, fb)) := by rw [← hw1, ← hbs]; exact Row.new w _ _
  have x1 : PtOk w1 h t A p q := H.out.1.below hB
  have x6 := x1.c6
  have H1 := veil (show _ ∧ _ ∧ _ from ⟨x1, hbx, hB⟩)
  have hhb : h < b := hbs ▸ hb
  clear x1 hbx hB hw1 hbs
  go_upto_if 8 with fail
  go_cut [] (fun W => ∃ A1 p1 q1, PtOk W h t A1 p1 q1 ∧ q1 < 256 ∧ Row W b 23 (Fd.cells (fa, fb)) ∧ KeepP (fun k => k = h) w W)
  case first =>
    by_cases hq : q = 256
    · have n0 : (q : Int) = 256 := by omega
      go_wp2_with (go_at_call 38; refine (tab_move H1.out.1 n hn (by omega)).mono ?_; rintro e9 w9 ⟨rfl, A9, hA9, hK9⟩)
      go_meet
      exact ⟨A9, 0, n, hA9, by omega, (hK9.block b (Row.lt H1.out.2.1) (show ¬ b = h by omega)).trans H1.out.2.1, (KeepP.of_below H1.out.2.2).trans hK9⟩
    · have n0 : ¬ (q : Int) = 256 := by omega
      go_wp2_with fail
      go_meet
      exact ⟨A, p, q, H1.out.1, by omega, H1.out.2.1, KeepP.of_below H1.out.2.2⟩
  case rest =>
    obtain ⟨A1, p1, q1, hO, hq2, hbx, hK⟩ := hcut
    have hA := hO.al
    have hpq := hO.pq
    have hr : PtR wc h t.room s t.went A1 p1 q1 := hs2.out ▸ hO.row
    have HO := veil (show _ ∧ _ ∧ _ ∧ _ from ⟨hO, hr, hbx, hK⟩)
    clear hO hr hbx hK x6
    go_upto_region 3 with fail
    go_cut [] (fun W => PtR W h t.room s t.went (A1.take q1 ++ [(fa, fb)] ++ A1.drop (q1 + 1)) p1 q1 ∧ KeepP (fun k => k = h) wc W)
    case first =>
      go_wp2_with fail
      refine (wpIn_wide (n := 4)).1 ?_
      refine wpIn_region_any (by kernel_rfl) ?_
      refine anyIn_line2 (valT1 h q1 (fa, fb)) (fun m W => (m ≤ 0 → Below wc.heap.size wc W) ∧ (0 < m → PtR W h t.room s t.went (A1.take q1 ++ [(fa, fb)] ++ A1.drop (q1 + 1)) p1 q1 ∧ KeepP (fun k => k = h) wc W)) [9] dsT1 depT1 (by kernel_rfl) rfl (by decide) (by decide) ?ord ?inn ?h0 ?fix ?cal ?done
      case ord =>
        intro k i j h1 h2
        simp at h2
      case inn => intro j hj; simp at hj; show j < 10; omega
      case h0 => exact ⟨fun _ => (Below.refl _ _).drew, fun h => absurd h (by omega)⟩
      case fix =>
        intro x W m ii d hR hm hdi hc hdep
        match ii, hm, hdi, hc, hdep with
        | 0, _, hdi, _, _ =>
          obtain rfl := Option.some.inj hdi
          exact OI_value rfl rfl (about_none (by intro c h; cases h)) (by intro c h; cases h) (.pointer (some ⟨h, 0, none⟩)) W (by kernel_rfl) ⟨rfl, rfl⟩
        | 1, _, hdi, _, _ =>
          obtain rfl := Option.some.inj hdi
          exact OI_value rfl rfl (about_none (by intro c h; cases h)) (by intro c h; cases h) (.pointer (some ⟨h, 0, none⟩)) W (by kernel_rfl) ⟨rfl, rfl⟩
        | 2, _, hdi, _, hdep =>
          obtain rfl := Option.some.inj hdi
          rw [updV_self (show x 1 = _ from hdep 1 (by simp [depT1]))]
          exact OI_value rfl rfl (about_none (by intro c h; cases h)) (by intro c h; cases h) (.pointer (some ⟨h, 0, none⟩)) W (by kernel_rfl) ⟨rfl, rfl⟩
        | 3, _, hdi, _, hdep =>
          obtain rfl := Option.some.inj hdi
          rw [updV_self (show x 2 = _ from hdep 2 (by simp [depT1]))]
          exact OI_value rfl rfl (about_none (by intro c h; cases h)) (by intro c h; cases h) (.pointer (some ⟨h, 517, none⟩)) W (by kernel_rfl) ⟨rfl, rfl⟩
        | 4, hm, hdi, _, hdep =>
          obtain rfl := Option.some.inj hdi
          have hW := hR.1 (hm 0 9 rfl (by simp [depT1]))
          rw [updV_self (show x 3 = _ from hdep 3 (by simp [depT1]))]
          exact OI_value rfl rfl (about_none (by intro c h; cases h)) (by intro c h; cases h) (.int .i64 (q1 : Int)) W (lgRun_cell 3 _ ⟨h, 517, none⟩ _ _ rfl (by kernel_rfl) Try.underlying3 rfl W (pr6 (Row.below HO.out.2.1 hW (Row.lt HO.out.2.1)) hA)) ⟨rfl, rfl⟩
        | 5, hm, hdi, _, _ =>
          obtain rfl := Option.some.inj hdi
          have hW := hR.1 (hm 0 9 rfl (by simp [depT1]))
          exact OI_value rfl rfl (about_none (by intro c h; cases h)) (by intro c h; cases h) (.agg (Fd.cells (fa, fb))) W (run_midT 23 _ b 0 (Fd.cells (fa, fb)).toList _ rfl (by kernel_rfl) Try.underlying23 rfl (by kernel_rfl) W (box_range (Row.below HO.out.2.2.1 hW (Row.lt HO.out.2.2.1)))) ⟨rfl, rfl⟩
        | 6, _, hdi, _, hdep =>
          obtain rfl := Option.some.inj hdi
          rw [updV_self (show x 0 = _ from hdep 0 (by simp [depT1]))]
          exact OI_value rfl rfl (about_none (by intro c h; cases h)) (by intro c h; cases h) (.pointer (some ⟨h, 0, none⟩)) W (by kernel_rfl) ⟨rfl, rfl⟩
        | 7, _, hdi, _, hdep =>
          obtain rfl := Option.some.inj hdi
          rw [updV_self (show x 6 = _ from hdep 6 (by simp [depT1]))]
          exact OI_value rfl rfl (about_none (by intro c h; cases h)) (by intro c h; cases h) (.pointer (some ⟨h, 4, none⟩)) W (by kernel_rfl) ⟨rfl, rfl⟩
        | 8, _, hdi, _, hdep =>
          obtain rfl := Option.some.inj hdi
          rw [updV_self (show x 7 = _ from hdep 7 (by simp [depT1])), updV_self (show (updV x 7 _) 4 = _ from hdep 4 (by simp [depT1]))]
          exact OI_value rfl rfl (about_none (by intro c h; cases h)) (by intro c h; cases h) (.pointer (some ⟨h, 4 + q1 * 2, none⟩)) W (lgRun_atArr 58 _ 256 2 _ _ h 4 q1 rfl (by kernel_rfl) (by kernel_rfl) Try.underlying58 fieldSize hq2 W) ⟨rfl, rfl⟩
        | 9, _, _, hc, _ => exact (hc (by simp)).elim
        | _ + 10, _, hdi, _, _ => simp [dsT1] at hdi
      case cal =>
        intro x W k ii d hR hk hdi hdep
        match k, hk, hR with
        | 0, hk, hR =>
          obtain rfl := Option.some.inj hk
          obtain rfl := Option.some.inj hdi
          rw [updV_self (show x 8 = _ from hdep 8 (by simp [depT1])), updV_self (show (updV x 8 _) 5 = _ from hdep 5 (by simp [depT1]))]
          have hW := hR.1 (by omega)
          refine OI_skip rfl rfl (about_none (by intro c h; cases h)) (by intro c h; cases h) (W.setCells h (4 + q1 * 2) (Fd.cells (fa, fb)).toList) (run_smidT 23 _ _ h (4 + q1 * 2) (Fd.cells (fa, fb)).toList rfl (by kernel_rfl) (by kernel_rfl) (by kernel_rfl) (fd_one _) W (Row.thereH (Row.below HO.out.2.1 hW (Row.lt HO.out.2.1)) _ _ (by rw [ptC_size hA]; show 4 + q1 * 2 + 2 ≤ 518; omega))) ?_
          refine ⟨(put_none _ _).trans (put_far _ _ _ (by rw [puts_size]; exact Nat.le_of_ble_eq_true rfl)).symm, fun h => absurd h (by omega), fun _ => ⟨?_, (KeepP.of_below hW).trans (KeepP.setCells (st := fun k => k = h) rfl _ _ _)⟩⟩
          have := set_fields (Row.below HO.out.2.1 hW (Row.lt HO.out.2.1)) q1 [(fa, fb)] (by rw [hA]; show q1 + 1 ≤ 256; omega)
          rw [fds_single] at this
          exact this
        | _ + 1, hk, _ => simp at hk
      case done =>
        intro W hR
        simp only [dsT1, putsV, valT1, Act.put, List.setIfInBounds_toArray, List.set_cons_succ, List.set_cons_zero, Nat.reduceAdd]
        have HR := veil (hR.2 (by decide))
        clear hR
        go_wp2_with fail
        go_meet
        exact HR.out
    case rest =>
      obtain ⟨hW2, hK2⟩ := hcut
      obtain ⟨A2, hA2e⟩ : ∃ A2, A1.take q1 ++ [(fa, fb)] ++ A1.drop (q1 + 1) = A2 := ⟨_, rfl⟩
      have hA2 : A2.length = 256 := by rw [← hA2e]; simp [hA]; omega
      rw [hA2e] at hW2
      have hl2 : ∀ j, j < n + 1 → A2[p1 + j]? = (t.l ++ [(fa, fb)])[j]? := by
        intro j hj
        rcases Nat.lt_or_ge j n with e | e
        · rw [← hA2e, List.append_assoc, List.getElem?_append_left (by simp; omega), List.getElem?_take_of_lt (by omega), List.getElem?_append_left (by omega)]
          exact HO.out.1.l j (by omega)
        · obtain rfl : j = n := by omega
          rw [← hA2e, List.getElem?_append_left (by simp; omega), List.getElem?_append_right (by simp; omega), List.getElem?_append_right (by omega), hn]
          simp only [List.length_take, hA]
          rw [show p1 + j - min q1 256 = 0 by omega, Nat.sub_self]
      obtain ⟨q3, hq3⟩ : ∃ q3, q1 + 1 = q3 := ⟨_, rfl⟩
      have x6 := pr6 hW2 hA2
      have f6 := Row.frozen hW2 517
      have v6 : IntKind.i64.wrap ((q1 : Int) + 1) = (q3 : Int) := by rw [IntKind.wrap_i64]; omega
      have hne : ¬ b = h := by omega
      have hbr : Row wc b 23 (Fd.cells (fa, fb)) := (hK2.block b (Row.lt HO.out.2.2.1) hne).trans HO.out.2.2.1
      have hfin := veil (show _ ∧ _ ∧ _ from ⟨set_to hW2 hA2 q3, Row.other hbr (a := ⟨h, 517, none⟩) hne (.int .i64 (q3 : Int)), (HO.out.2.2.2.trans hK2).trans (KeepP.setCell (st := fun k => k = h) rfl wc 517 (.int .i64 (q3 : Int)))⟩)
      have HL2 := veil hl2
      clear hW2 hK2 hbr hl2
      go_upto_region 5 with fail
      obtain ⟨w3, hw3⟩ : ∃ w3, wc.setCell ⟨h, 517, none⟩ (.int .i64 (q3 : Int)) = w3 := ⟨_, rfl⟩
      rw [hw3] at hfin
      rw [hw3]
      clear hw3 x6 f6
      go_wp2_with fail
      refine (wpIn_wide (n := 4)).1 ?_
      refine wpIn_region_any (by kernel_rfl) ?_
      refine anyIn_line2 (valT2 h s s1 (fa, fb)) (fun m W => (m ≤ 1 → Below w3.heap.size w3 W) ∧ (1 < m → PtR W h t.room s1 t.went A2 p1 q3 ∧ KeepP (fun k => k = h) w3 W)) [5, 9] dsT2 depT2 (by kernel_rfl) rfl (by decide) (by decide) ?ord ?inn ?h0 ?fix ?cal ?done
      case ord =>
        intro k i j h1 h2
        match k, h1, h2 with
        | 0, h1, h2 => obtain rfl := Option.some.inj h1; obtain rfl := Option.some.inj h2; exact .inl (by decide)
        | k + 1, _, h2 => simp at h2
      case inn => intro j hj; simp at hj; show j < 10; omega
      case h0 => exact ⟨fun _ => (Below.refl _ _).drew, fun h => absurd h (by omega)⟩
      case fix =>
        intro x W m ii d hR hm hdi hc hdep
        match ii, hm, hdi, hc, hdep with
        | 0, _, hdi, _, _ =>
          obtain rfl := Option.some.inj hdi
          exact OI_value rfl rfl (about_none (by intro c h; cases h)) (by intro c h; cases h) (.pointer (some ⟨h, 0, none⟩)) W (by kernel_rfl) ⟨rfl, rfl⟩
        | 1, _, hdi, _, hdep =>
          obtain rfl := Option.some.inj hdi
          rw [updV_self (show x 0 = _ from hdep 0 (by simp [depT2]))]
          exact OI_value rfl rfl (about_none (by intro c h; cases h)) (by intro c h; cases h) (.pointer (some ⟨h, 0, none⟩)) W (by kernel_rfl) ⟨rfl, rfl⟩
        | 2, _, hdi, _, hdep =>
          obtain rfl := Option.some.inj hdi
          rw [updV_self (show x 1 = _ from hdep 1 (by simp [depT2]))]
          exact OI_value rfl rfl (about_none (by intro c h; cases h)) (by intro c h; cases h) (.pointer (some ⟨h, 2, none⟩)) W (by kernel_rfl) ⟨rfl, rfl⟩
        | 3, hm, hdi, _, hdep =>
          obtain rfl := Option.some.inj hdi
          have hW := hR.1 (hm 1 9 rfl (by simp [depT2]))
          rw [updV_self (show x 2 = _ from hdep 2 (by simp [depT2]))]
          exact OI_value rfl rfl (about_none (by intro c h; cases h)) (by intro c h; cases h) (.int .i64 (s : Int)) W (lgRun_cell 3 _ ⟨h, 2, none⟩ _ _ rfl (by kernel_rfl) Try.underlying3 rfl W (pr2 (Row.below hfin.out.1 hW (Row.lt hfin.out.1)))) ⟨rfl, rfl⟩
        | 4, hm, hdi, _, _ =>
          obtain rfl := Option.some.inj hdi
          have hW := hR.1 (hm 1 9 rfl (by simp [depT2]))
          exact OI_value rfl rfl (about_none (by intro c h; cases h)) (by intro c h; cases h) (.agg (Fd.cells (fa, fb))) W (run_midT 23 _ b 0 (Fd.cells (fa, fb)).toList _ rfl (by kernel_rfl) Try.underlying23 rfl (by kernel_rfl) W (box_range (Row.below hfin.out.2.1 hW (Row.lt hfin.out.2.1)))) ⟨rfl, rfl⟩
        | 5, _, _, hc, _ => exact (hc (by simp)).elim
        | 6, _, hdi, _, hdep =>
          obtain rfl := Option.some.inj hdi
          rw [updV_self (show x 3 = _ from hdep 3 (by simp [depT2])), updV_self (show (updV x 3 _) 5 = _ from hdep 5 (by simp [depT2]))]
          exact OI_value rfl rfl (about_none (by intro c h; cases h)) (by intro c h; cases h) (.int .i64 (s1 : Int)) W (lgRun_addN _ _ _ _ s (sz (fa, fb)) s1 hs1 (by omega) rfl (by kernel_rfl) (by kernel_rfl) W) ⟨rfl, rfl⟩
        | 7, _, hdi, _, hdep =>
          obtain rfl := Option.some.inj hdi
          rw [updV_self (show x 0 = _ from hdep 0 (by simp [depT2]))]
          exact OI_value rfl rfl (about_none (by intro c h; cases h)) (by intro c h; cases h) (.pointer (some ⟨h, 0, none⟩)) W (by kernel_rfl) ⟨rfl, rfl⟩
        | 8, _, hdi, _, hdep =>
          obtain rfl := Option.some.inj hdi
          rw [updV_self (show x 7 = _ from hdep 7 (by simp [depT2]))]
          exact OI_value rfl rfl (about_none (by intro c h; cases h)) (by intro c h; cases h) (.pointer (some ⟨h, 2, none⟩)) W (by kernel_rfl) ⟨rfl, rfl⟩
        | 9, _, _, hc, _ => exact (hc (by simp)).elim
        | _ + 10, _, hdi, _, _ => simp [dsT2] at hdi
      case cal =>
        intro x W k ii d hR hk hdi hdep
        match k, hk, hR with
        | 0, hk, hR =>
          obtain rfl := Option.some.inj hk
          obtain rfl := Option.some.inj hdi
          rw [updV_self (show x 4 = _ from hdep 4 (by simp [depT2]))]
          have hW := hR.1 (by omega)
          refine OI_call rfl rfl (by intro c h; cases h) 34 #[.agg (Fd.cells (fa, fb))] (fun _ _ => trivial) (by kernel_rfl) (by decide) ?_
          refine (callsIn_wide.2 (tab_size1 (fa, fb) (by show fa.size + fb.size ≤ _; omega) W)).mono ?_
          rintro e w9 ⟨rfl, hb9⟩
          exact ⟨_, rfl, rfl, fun _ => hW.trans (hb9.mono hW.size), fun h => absurd h (by omega)⟩
        | 1, hk, hR =>
          obtain rfl := Option.some.inj hk
          obtain rfl := Option.some.inj hdi
          rw [updV_self (show x 8 = _ from hdep 8 (by simp [depT2])), updV_self (show (updV x 8 _) 6 = _ from hdep 6 (by simp [depT2]))]
          have hW := hR.1 (by omega)
          refine OI_skip rfl rfl (about_none (by intro c h; cases h)) (by intro c h; cases h) (W.setCell ⟨h, 2, none⟩ (.int .i64 (s1 : Int))) (lgRun_store 3 _ _ ⟨h, 2, none⟩ (.int .i64 (s1 : Int)) _ rfl rfl (by kernel_rfl) (by kernel_rfl) (by kernel_rfl) W (pr2 (Row.below hfin.out.1 hW (Row.lt hfin.out.1))) (Row.frozen (Row.below hfin.out.1 hW (Row.lt hfin.out.1)) 2)) ?_
          refine ⟨(put_none _ _).trans (put_far _ _ _ (by rw [puts_size]; exact Nat.le_of_ble_eq_true rfl)).symm, fun h => absurd h (by omega), fun _ => ⟨set_size (Row.below hfin.out.1 hW (Row.lt hfin.out.1)) s1, (KeepP.of_below hW).trans (KeepP.setCell (st := fun k => k = h) rfl _ _ _)⟩⟩
        | _ + 2, hk, _ => simp at hk
      case done =>
        intro W hR
        simp only [dsT2, putsV, valT2, Act.put, List.setIfInBounds_toArray, List.set_cons_succ, List.set_cons_zero, Nat.reduceAdd]
        obtain ⟨hW3, hK3⟩ := hR.2 (by decide)
        have hz : size (t.l ++ [(fa, fb)]) = s1 := by rw [size_append, hs2.out]; show s + (sz (fa, fb) + 0) = s1; omega
        have hend := veil (show ∃ A9 p9 q9, PtOk W h ⟨t.room, t.went, t.l ++ [(fa, fb)]⟩ A9 p9 q9 ∧ KeepP (fun k => k = h) w W from by
          refine ⟨A2, p1, q3, ⟨by rw [hz]; exact hW3, hA2, by simp; omega, by omega, ?_, by rw [hz]; omega, HO.out.1.rb, ?_⟩, hfin.out.2.2.trans hK3⟩
          · intro j hj
            exact HL2.out j (by simpa [hn] using hj)
          · have := H.out.2; unfold Tab.came at this ⊢; simp only [List.length_append, List.length_singleton]; omega)
        clear hW3 hK3 hR
        go_wp2_with fail
        go_end0
        exact ⟨rfl, hend.out⟩
end Tb
end Go.Proofs.Ytoajnhngcfjohaa
