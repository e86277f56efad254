/-
  The program's Add.
-/
import Derived.Test.YtoajnhngcfjohaaTbTak
namespace Go.Proofs.Ytoajnhngcfjohaa
open Go Go.RowKit

namespace Tb
section
variable {P : Program} {a : Act} {o : Oper}
theorem lgRun_gtrN (t t' : TypeId) (x y : Operand) (m r : Nat) (c : Bool) (hc : decide (r < m) = c) (ho : o.op = .binOp .gtr t x y t') (hx : a.eval x = .int .i64 (m : Int)) (hy : a.eval y = .int .i64 (r : Int)) (W : World) :
    (execOp a.eval o).run P W = .ok (.value (.bool c)) W := by
  have hd : decide ((r : Int) < (m : Int)) = c := by rw [← hc]; simp
  unfold execOp
  simp only [ho, hx, hy]
  cases c with
  | true => have := of_decide_eq_true hd; go_simp
  | false => have := of_decide_eq_false hd; go_simp
end
theorem addE_no {t : Tab} {f : Fd} (h : t.room < sz f) : t.addE f = 6 ∧ t.add f = t := by unfold Tab.addE Tab.add; rw [if_pos h, if_pos h]; exact ⟨rfl, rfl⟩
theorem addE_yes {t : Tab} {f : Fd} (h : ¬ t.room < sz f) : t.addE f = 0 ∧ t.add f = ⟨t.room, t.went + gone (t.room - sz f) 0 t.l, t.l.drop (gone (t.room - sz f) 0 t.l) ++ [f]⟩ := by
  unfold Tab.addE Tab.add
  rw [if_neg h, if_neg h, gone_b _ _ (by omega)]
  exact ⟨rfl, rfl⟩
def depD1 : Nat → List Nat
  | 1 => [0]
  | 3 => [2]
  | 4 => [3]
  | 5 => [4]
  | 6 => [1, 5]
  | _ => []
def dsD1 : List Nat := [7, 8, 9, 10, 11, 12, 13]
def valD1 (h z r : Nat) (c : Bool) (fa fb : ByteArray) : Nat → Value
  | 0 => .agg (Fd.cells (fa, fb))
  | 1 => .int .i64 (z : Int)
  | 2 => .pointer (some ⟨h, 0, none⟩)
  | 3 => .pointer (some ⟨h, 0, none⟩)
  | 4 => .pointer (some ⟨h, 1, none⟩)
  | 5 => .int .i64 (r : Int)
  | 6 => .bool c
  | _ => undef
def depD2 : Nat → List Nat
  | 2 => [1]
  | 3 => [2]
  | 4 => [3]
  | 6 => [5]
  | 7 => [4, 6]
  | 8 => [0, 7, 6]
  | _ => []
def dsD2 : List Nat := [14, 15, 16, 17, 18, 19, 20, 21, 22]
def valD2 (h r z b1 : Nat) (fa fb : ByteArray) : Nat → Value
  | 0 => .pointer (some ⟨h, 0, none⟩)
  | 1 => .pointer (some ⟨h, 0, none⟩)
  | 2 => .pointer (some ⟨h, 0, none⟩)
  | 3 => .pointer (some ⟨h, 1, none⟩)
  | 4 => .int .i64 (r : Int)
  | 5 => .agg (Fd.cells (fa, fb))
  | 6 => .int .i64 (z : Int)
  | 7 => .int .i64 (b1 : Int)
  | 8 => .tuple #[]
  | _ => undef
set_option maxRecDepth 100000 in
set_option maxHeartbeats 4000000 in
theorem tab_add {w : World} {h : Nat} {t : Tab} {A : List Fd} {p q : Nat} (x : PtOk w h t A p q) (f : Fd) (hf : f.1.size + f.2.size ≤ 1000000000000000000) (hc : t.came + 1 ≤ 1000000000000) :
    Calls Try.prog 15 #[.pointer (some ⟨h, 0, none⟩), .agg f.cells] w fun e w' => e = .returned (.int .i64 (t.addE f : Nat)) ∧
      ∃ A' p' q', PtOk w' h (t.add f) A' p' q' ∧ KeepP (fun k => k = h) w w' := by
  obtain ⟨fa, fb⟩ := f
  have hz0 : sz (fa, fb) = fa.size + fb.size + 32 := rfl
  obtain ⟨z, hz⟩ : ∃ z, sz (fa, fb) = z := ⟨_, rfl⟩
  obtain ⟨r, hr⟩ : ∃ r, t.room = r := ⟨_, rfl⟩
  obtain ⟨c, hcd⟩ : ∃ c, decide (r < z) = c := ⟨_, rfl⟩
  have hrb : r ≤ 4096 := hr ▸ x.rb
  have hb : h < w.heap.size := Row.lt x.row
  obtain ⟨b, hbs⟩ : ∃ b, w.heap.size = b := ⟨_, rfl⟩
  have hfz : fa.size + fb.size ≤ 1000000000000000000 := hf
  rw [hz] at hz0
  have hsize : ∀ W, Calls Try.prog 34 #[.agg (Fd.cells (fa, fb))] W fun e w' => e = .returned (.int .i64 (z : Nat)) ∧ Below W.heap.size W w' := by
    intro W
    have := tab_size1 (fa, fb) hf W
    rw [hz] at this
    exact this
  clear hf
  have hadd := veil (show (c = true → t.addE (fa, fb) = 6 ∧ t.add (fa, fb) = t) ∧ (c = false → t.addE (fa, fb) = 0 ∧ t.add (fa, fb) = ⟨t.room, t.went + gone (r - z) 0 t.l, t.l.drop (gone (r - z) 0 t.l) ++ [(fa, fb)]⟩) from by
    refine ⟨fun e => ?_, fun e => ?_⟩
    · rw [e] at hcd
      exact addE_no (by rw [hr, hz]; exact of_decide_eq_true hcd)
    · rw [e] at hcd
      have := addE_yes (t := t) (f := (fa, fb)) (by rw [hr, hz]; exact of_decide_eq_false hcd)
      rw [hz, hr] at this
      rw [hr]
      exact this)
  have H := veil (show _ ∧ _ from ⟨x, hc⟩)
  clear x hc
  show Calls Try.prog 15 #[.pointer (some ⟨h, 0, none⟩), .agg #[.string fa, .string fb]] w _
  go_enter Try.func15, Try.ntmps15
  go_upto_region 1 with fail
  obtain ⟨w1, hw1⟩ : ∃ w1, w.alloc (.cells #[.string fa, .string fb] 23) = w1 := ⟨_, rfl⟩
  rw [hw1]
  have hB : Below w.heap.size w w1 := hw1 ▸ (Below.refl w.heap.size w).alloc (Nat.le_refl _) _
  have hbx : Row w1 b 23 (Fd.cells (fa, fb)) := by rw [← hw1, ← hbs]; exact Row.new w _ _
  have x1 : PtOk w1 h t A p q := H.out.1.below hB
  have H1 := veil (show _ ∧ _ ∧ _ ∧ _ from ⟨x1, hbx, hB, H.out.2⟩)
  have hhb : h < b := hbs ▸ hb
  clear x1 hbx hB hw1 hbs
  go_upto_region 3 with (go_at_call 32; refine (tab_none H1.out.1).mono ?_; rintro e1 w1 ⟨rfl, rfl⟩)
  go_cut [13] (fun c9 W => c9 = .bool c ∧ Below w1.heap.size w1 W)
  case first =>
    go_wp2_with fail
    refine (wpIn_wide (n := 4)).1 ?_
    refine wpIn_region_any (by kernel_rfl) ?_
    refine anyIn_line2 (valD1 h z r c fa fb) (fun m W => (m ≤ 0 → Below w1.heap.size w1 W) ∧ (0 < m → Below w1.heap.size w1 W)) [1] dsD1 depD1 (by kernel_rfl) rfl (by decide) (by decide) ?ord ?inn ?h0 ?fix ?cal ?done
    case ord =>
      intro k i j h1 h2
      simp at h2
    case inn => intro j hj; simp at hj; show j < 7; omega
    case h0 => exact ⟨fun _ => (Below.refl _ _).drew, fun h => absurd h (by omega)⟩
    case fix =>
      intro x W m ii d hR hm hdi hc hdep
      match ii, hm, hdi, hc, hdep with
      | 0, hm, hdi, _, _ =>
        obtain rfl := Option.some.inj hdi
        have hW := hR.1 (hm 0 1 rfl (by simp [depD1]))
        exact OI_value rfl rfl (about_none (by intro c h; cases h)) (by intro c h; cases h) (.agg (Fd.cells (fa, fb))) W (run_midT 23 _ b 0 (Fd.cells (fa, fb)).toList _ rfl (by kernel_rfl) Try.underlying23 rfl (by kernel_rfl) W (box_range (Row.below H1.out.2.1 hW (Row.lt H1.out.2.1)))) ⟨rfl, rfl⟩
      | 1, _, _, hc, _ => exact (hc (by simp)).elim
      | 2, _, hdi, _, _ =>
        obtain rfl := Option.some.inj hdi
        exact OI_value rfl rfl (about_none (by intro c h; cases h)) (by intro c h; cases h) (.pointer (some ⟨h, 0, none⟩)) W (by kernel_rfl) ⟨rfl, rfl⟩
      | 3, _, hdi, _, hdep =>
        obtain rfl := Option.some.inj hdi
        rw [updV_self (show x 2 = _ from hdep 2 (by simp [depD1]))]
        exact OI_value rfl rfl (about_none (by intro c h; cases h)) (by intro c h; cases h) (.pointer (some ⟨h, 0, none⟩)) W (by kernel_rfl) ⟨rfl, rfl⟩
      | 4, _, hdi, _, hdep =>
        obtain rfl := Option.some.inj hdi
        rw [updV_self (show x 3 = _ from hdep 3 (by simp [depD1]))]
        exact OI_value rfl rfl (about_none (by intro c h; cases h)) (by intro c h; cases h) (.pointer (some ⟨h, 1, none⟩)) W (by kernel_rfl) ⟨rfl, rfl⟩
      | 5, _, hdi, _, hdep =>
        obtain rfl := Option.some.inj hdi
        have hW : Below w1.heap.size w1 W := by
          rcases Nat.eq_zero_or_pos m with e | e
          · exact hR.1 (by omega)
          · exact hR.2 e
        rw [updV_self (show x 4 = _ from hdep 4 (by simp [depD1]))]
        exact OI_value rfl rfl (about_none (by intro c h; cases h)) (by intro c h; cases h) (.int .i64 (r : Int)) W (lgRun_cell 3 _ ⟨h, 1, none⟩ _ _ rfl (by kernel_rfl) Try.underlying3 rfl W (hr ▸ pr1 (Row.below H1.out.1.row hW (Row.lt H1.out.1.row)))) ⟨rfl, rfl⟩
      | 6, _, hdi, _, hdep =>
        obtain rfl := Option.some.inj hdi
        rw [updV_self (show x 1 = _ from hdep 1 (by simp [depD1])), updV_self (show (updV x 1 _) 5 = _ from hdep 5 (by simp [depD1]))]
        exact OI_value rfl rfl (about_none (by intro c h; cases h)) (by intro c h; cases h) (.bool c) W (lgRun_gtrN _ _ _ _ z r c hcd rfl (by kernel_rfl) (by kernel_rfl) W) ⟨rfl, rfl⟩
      | _ + 7, _, hdi, _, _ => simp [dsD1] at hdi
    case cal =>
      intro x W k ii d hR hk hdi hdep
      match k, hk, hR with
      | 0, hk, hR =>
        obtain rfl := Option.some.inj hk
        obtain rfl := Option.some.inj hdi
        rw [updV_self (show x 0 = _ from hdep 0 (by simp [depD1]))]
        have hW := hR.1 (by omega)
        refine OI_call rfl rfl (by intro c h; cases h) 34 #[.agg (Fd.cells (fa, fb))] (fun _ _ => trivial) (by kernel_rfl) (by decide) ?_
        refine (callsIn_wide.2 (hsize W)).mono ?_
        rintro e w9 ⟨rfl, hb9⟩
        exact ⟨_, rfl, rfl, fun h => absurd h (by omega), fun _ => hW.trans (hb9.mono hW.size)⟩
      | _ + 1, hk, _ => simp at hk
    case done =>
      intro W hR
      simp only [dsD1, putsV, valD1, Act.put, List.setIfInBounds_toArray, List.set_cons_succ, List.set_cons_zero, Nat.reduceAdd]
      have HR := veil (hR.2 (by decide))
      clear hR
      go_wp2_with fail
      go_meet
      exact ⟨rfl, HR.out⟩
  case rest =>
    obtain ⟨rfl, hB2⟩ := hcut
    have H2 := veil (show _ ∧ _ ∧ _ from ⟨H1.out.1.below hB2, Row.below H1.out.2.1 hB2 (Row.lt H1.out.2.1), (KeepP.of_below (st := fun k => k = h) H1.out.2.2.1).trans (KeepP.of_below hB2)⟩)
    clear hB2
    cases c with
    | true =>
      go_wp2_with fail
      go_ret
      rw [(hadd.out.1 (by simp)).1, (hadd.out.1 (by simp)).2]
      exact ⟨rfl, ⟨A, p, q, H2.out.1⟩, H2.out.2.2⟩
    | false =>
      have hle : z ≤ r := Nat.not_lt.1 (of_decide_eq_false hcd)
      obtain ⟨b1, hb1⟩ : ∃ b1, r - z = b1 := ⟨_, rfl⟩
      have hb2 : z + b1 = r := by omega
      rw [hb1] at hadd
      go_upto_region 5 with fail
      go_cut [] (fun W => ∃ A' p', PtOk W h ⟨t.room, t.went + gone b1 0 t.l, t.l.drop (gone b1 0 t.l)⟩ A' p' q ∧ KeepP (fun k => k = h) wc W)
      case first =>
        go_wp2_with fail
        refine (wpIn_wide (n := 4)).1 ?_
        refine wpIn_region_any (by kernel_rfl) ?_
        refine anyIn_line2 (valD2 h r z b1 fa fb) (fun m W => (m ≤ 1 → Below wc.heap.size wc W) ∧ (1 < m → ∃ A' p', PtOk W h ⟨t.room, t.went + gone b1 0 t.l, t.l.drop (gone b1 0 t.l)⟩ A' p' q ∧ KeepP (fun k => k = h) wc W)) [6, 8] dsD2 depD2 (by kernel_rfl) rfl (by decide) (by decide) ?ord ?inn ?h0 ?fix ?cal ?done
        case ord =>
          intro k i j h1 h2
          match k, h1, h2 with
          | 0, h1, h2 => obtain rfl := Option.some.inj h1; obtain rfl := Option.some.inj h2; exact .inl (by decide)
          | k + 1, _, h2 => simp at h2
        case inn => intro j hj; simp at hj; show j < 9; omega
        case h0 => exact ⟨fun _ => (Below.refl _ _).drew, fun h => absurd h (by omega)⟩
        case fix =>
          intro x W m ii d hR hm hdi hc hdep
          match ii, hm, hdi, hc, hdep with
          | 0, _, hdi, _, _ =>
            obtain rfl := Option.some.inj hdi
            exact OI_value rfl rfl (about_none (by intro c h; cases h)) (by intro c h; cases h) (.pointer (some ⟨h, 0, none⟩)) W (by kernel_rfl) ⟨rfl, rfl⟩
          | 1, _, hdi, _, _ =>
            obtain rfl := Option.some.inj hdi
            exact OI_value rfl rfl (about_none (by intro c h; cases h)) (by intro c h; cases h) (.pointer (some ⟨h, 0, none⟩)) W (by kernel_rfl) ⟨rfl, rfl⟩
          | 2, _, hdi, _, hdep =>
            obtain rfl := Option.some.inj hdi
            rw [updV_self (show x 1 = _ from hdep 1 (by simp [depD2]))]
            exact OI_value rfl rfl (about_none (by intro c h; cases h)) (by intro c h; cases h) (.pointer (some ⟨h, 0, none⟩)) W (by kernel_rfl) ⟨rfl, rfl⟩
          | 3, _, hdi, _, hdep =>
            obtain rfl := Option.some.inj hdi
            rw [updV_self (show x 2 = _ from hdep 2 (by simp [depD2]))]
            exact OI_value rfl rfl (about_none (by intro c h; cases h)) (by intro c h; cases h) (.pointer (some ⟨h, 1, none⟩)) W (by kernel_rfl) ⟨rfl, rfl⟩
          | 4, _, hdi, _, hdep =>
            obtain rfl := Option.some.inj hdi
            have hcl : W.cell? ⟨h, 1, none⟩ = some (.int .i64 (r : Int)) := by
              rcases Nat.lt_or_ge 1 m with e | e
              · obtain ⟨A9, p9, hO9, _⟩ := hR.2 e
                exact hr ▸ hO9.c1
              · exact hr ▸ (H2.out.1.below (hR.1 e)).c1
            rw [updV_self (show x 3 = _ from hdep 3 (by simp [depD2]))]
            exact OI_value rfl rfl (about_none (by intro c h; cases h)) (by intro c h; cases h) (.int .i64 (r : Int)) W (lgRun_cell 3 _ ⟨h, 1, none⟩ _ _ rfl (by kernel_rfl) Try.underlying3 rfl W (hcl)) ⟨rfl, rfl⟩
          | 5, hm, hdi, _, _ =>
            obtain rfl := Option.some.inj hdi
            have hW := hR.1 (by have := hm 0 6 rfl (by simp [depD2]); omega)
            exact OI_value rfl rfl (about_none (by intro c h; cases h)) (by intro c h; cases h) (.agg (Fd.cells (fa, fb))) W (run_midT 23 _ b 0 (Fd.cells (fa, fb)).toList _ rfl (by kernel_rfl) Try.underlying23 rfl (by kernel_rfl) W (box_range (Row.below H2.out.2.1 hW (Row.lt H2.out.2.1)))) ⟨rfl, rfl⟩
          | 6, _, _, hc, _ => exact (hc (by simp)).elim
          | 7, _, hdi, _, hdep =>
            obtain rfl := Option.some.inj hdi
            rw [updV_self (show x 4 = _ from hdep 4 (by simp [depD2])), updV_self (show (updV x 4 _) 6 = _ from hdep 6 (by simp [depD2]))]
            exact OI_value rfl rfl (about_none (by intro c h; cases h)) (by intro c h; cases h) (.int .i64 (b1 : Int)) W (lgRun_sub _ _ _ _ r z b1 hb2 (by omega) rfl (by kernel_rfl) (by kernel_rfl) W) ⟨rfl, rfl⟩
          | 8, _, _, hc, _ => exact (hc (by simp)).elim
          | _ + 9, _, hdi, _, _ => simp [dsD2] at hdi
        case cal =>
          intro x W k ii d hR hk hdi hdep
          match k, hk, hR with
          | 0, hk, hR =>
            obtain rfl := Option.some.inj hk
            obtain rfl := Option.some.inj hdi
            rw [updV_self (show x 5 = _ from hdep 5 (by simp [depD2]))]
            have hW := hR.1 (by omega)
            refine OI_call rfl rfl (by intro c h; cases h) 34 #[.agg (Fd.cells (fa, fb))] (fun _ _ => trivial) (by kernel_rfl) (by decide) ?_
            refine (callsIn_wide.2 (hsize W)).mono ?_
            rintro e w9 ⟨rfl, hb9⟩
            exact ⟨_, rfl, rfl, fun _ => hW.trans (hb9.mono hW.size), fun h => absurd h (by omega)⟩
          | 1, hk, hR =>
            obtain rfl := Option.some.inj hk
            obtain rfl := Option.some.inj hdi
            rw [updV_self (show x 0 = _ from hdep 0 (by simp [depD2])), updV_self (show (updV x 0 _) 7 = _ from hdep 7 (by simp [depD2]))]
            have hW := hR.1 (by omega)
            refine OI_call rfl rfl (by intro c h; cases h) 35 #[.pointer (some ⟨h, 0, none⟩), .int .i64 (b1 : Int)] (fun _ _ => trivial) (by kernel_rfl) (by decide) ?_
            refine (callsIn_wide.2 (tab_shrink (H2.out.1.below hW) b1 (by omega))).mono ?_
            rintro e w9 ⟨rfl, A9, p9, hO9, hK9⟩
            exact ⟨_, rfl, rfl, fun h => absurd h (by omega), fun _ => ⟨A9, p9, hO9, (KeepP.of_below hW).trans hK9⟩⟩
          | _ + 2, hk, _ => simp at hk
        case done =>
          intro W hR
          simp only [dsD2, putsV, valD2, Act.put, List.setIfInBounds_toArray, List.set_cons_succ, List.set_cons_zero, Nat.reduceAdd]
          have HR := veil (hR.2 (by decide))
          clear hR
          go_wp2_with fail
          go_meet
          exact HR.out
      case rest =>
        obtain ⟨A3, p3, hO3, hK3⟩ := hcut
        have hne : ¬ b = h := by omega
        have hbr : Row wc b 23 (Fd.cells (fa, fb)) := (hK3.block b (Row.lt H2.out.2.1) hne).trans H2.out.2.1
        have hroom : size (t.l.drop (gone b1 0 t.l)) + z ≤ 4096 := by
          have := gone_room b1 0 (Nat.zero_le _) t.l
          omega
        have hcame : (⟨t.room, t.went + gone b1 0 t.l, t.l.drop (gone b1 0 t.l)⟩ : Tab).came + 1 ≤ 1000000000000 := by
          have h1 := H.out.2
          have h2 := gone_le b1 0 t.l
          unfold Tab.came at h1 ⊢
          simp only [List.length_drop]
          omega
        have htk := veil (tab_take hO3 (fa, fb) (by rw [hz]; exact hroom) hcame)
        have b0 : wc.cell? ⟨b, 0, none⟩ = some (.string fa) := Row.cell hbr 0
        have b1 : wc.cell? ⟨b, 1, none⟩ = some (.string fb) := Row.cell hbr 1
        have hbr' : wc.heap[b]? = some (.cells #[.string fa, .string fb] 23 (0, 0)) := hbr
        clear hO3 hroom hcame hbr
        go_wp2_with (go_at_call 36; refine htk.out.mono ?_; rintro e9 w9 ⟨rfl, A9, p9, q9, hO9, hK9⟩)
        go_ret
        rw [(hadd.out.2 (by simp)).1, (hadd.out.2 (by simp)).2]
        exact ⟨rfl, A9, p9, q9, hO9, (H2.out.2.2.trans hK3).trans hK9⟩
end Tb
end Go.Proofs.Ytoajnhngcfjohaa
