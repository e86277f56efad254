/-
  The program's Get.
-/
import Derived.Test.YtoajnhngcfjohaaGqTbNew
namespace Go.Proofs.Ytoajnhngcfjohaa
open Go Go.RowKit

namespace Tb
def getF (t : Tab) (n : Nat) : Fd := (t.get n).getD fd0
def getE (t : Tab) (n : Nat) : Nat := if (t.get n).isNone then 10 else 0
theorem get_none {t : Tab} {n : Nat} (h : n < t.went ∨ t.came ≤ n) : getF t n = fd0 ∧ getE t n = 10 := by
  have : t.get n = none := by
    unfold Tab.get
    by_cases c : n < t.went
    · rw [if_pos c]
    · rw [if_neg c]
      exact List.getElem?_eq_none (by unfold Tab.came at h; omega)
  unfold getF getE
  rw [this]
  exact ⟨rfl, rfl⟩
theorem get_some {t : Tab} {n : Nat} (h0 : ¬ n < t.went) {f : Fd} (h : t.l[n - t.went]? = some f) : getF t n = f ∧ getE t n = 0 := by
  have : t.get n = some f := by
    unfold Tab.get
    rw [if_neg h0, h]
  unfold getF getE
  rw [this]
  exact ⟨rfl, rfl⟩
section
variable {P : Program} {a : Act} {o : Oper}
theorem lgRun_atU (t e : TypeId) (m : Nat) (x ix : Operand) (g off len cap j : Nat) (ho : o.op = .indexAddr t x ix) (hx : a.eval x = .slice (some ⟨g, off, none⟩) len cap) (hix : a.eval ix = .int .u64 (j : Int))
    (hu : P.underlying t = some (.slice e)) (hi : (P.info? e).map (·.size) = some m) (hj : j < len) (W : World) : (execOp a.eval o).run P W = .ok (.value (.pointer (some ⟨g, off + j * m, none⟩))) W := by
  have hsz : (sizeOf e).run P W = .ok m W := by
    cases hq : P.info? e with
    | none => simp [hq] at hi
    | some i =>
      have : i.size = m := by simpa [hq] using hi
      simp [sizeOf, typeInfo, hq, this]
  unfold execOp
  simp [ho, hx, hix, Instr.indexAt, Instr.sureAddr, asIntOf, run_underlying hu, hj, hsz, Addr.add_mid]
theorem lgRun_subU (t t' : TypeId) (x y : Operand) (m r d : Nat) (hd : r + d = m) (hm : m ≤ 140737488355328) (ho : o.op = .binOp .sub t x y t') (hx : a.eval x = .int .u64 (m : Int)) (hy : a.eval y = .int .u64 (r : Int)) (W : World) :
    (execOp a.eval o).run P W = .ok (.value (.int .u64 (d : Int))) W := by
  have hw : IntKind.u64.wrap ((m : Int) - (r : Int)) = (d : Int) := by rw [IntKind.wrap_u64]; omega
  unfold execOp
  simp only [ho, hx, hy]
  go_simp
end
def depG1 : Nat → List Nat
  | 1 => [0]
  | 4 => [3]
  | 5 => [4]
  | 6 => [5]
  | 7 => [2, 6]
  | 8 => [1, 7]
  | 9 => [8]
  | 10 => [9, 1, 6, 8]
  | 11 => [10]
  | _ => []
def dsG1 : List Nat := [22, 23, 24, 25, 26, 27, 28, 29, 30, 31, 100000, 5]
def valG1 (h p nk n g j : Nat) (fa fb : ByteArray) : Nat → Value
  | 0 => .pointer (some ⟨h, 0, none⟩)
  | 1 => .slice (some ⟨h, 4 + p * 2, none⟩) nk nk
  | 2 => .int .u64 (n : Int)
  | 3 => .pointer (some ⟨h, 0, none⟩)
  | 4 => .pointer (some ⟨h, 0, none⟩)
  | 5 => .pointer (some ⟨h, 3, none⟩)
  | 6 => .int .u64 (g : Int)
  | 7 => .int .u64 (j : Int)
  | 8 => .pointer (some ⟨h, 4 + p * 2 + j * 2, none⟩)
  | 9 => .agg (Fd.cells (fa, fb))
  | 10 => undef
  | 11 => .int .i64 0
  | _ => undef
set_option maxRecDepth 100000 in
set_option maxHeartbeats 4000000 in
theorem tab_get {w : World} {h : Nat} {t : Tab} {A : List Fd} {p q : Nat} (x : PtOk w h t A p q) (n : Nat) (hn64 : n ≤ 18446744073709551615) :
    Calls Try.prog 14 #[.pointer (some ⟨h, 0, none⟩), .int .u64 (n : Int)] w fun e w' => e = .returned (.tuple #[.agg (getF t n).cells, .int .i64 (getE t n : Nat)]) ∧ Below w.heap.size w w' := by
  obtain ⟨g, hg⟩ : ∃ g, t.went = g := ⟨_, rfl⟩
  obtain ⟨c, hc⟩ : ∃ c, t.came = c := ⟨_, rfl⟩
  obtain ⟨nk, hk⟩ : ∃ nk, t.l.length = nk := ⟨_, rfl⟩
  have hgc : c = g + nk := by rw [← hc, ← hg, ← hk]; rfl
  have hB : Below w.heap.size w (w.alloc (.cells #[.string ⟨#[]⟩, .string ⟨#[]⟩] 23)) := (Below.refl w.heap.size w).alloc (Nat.le_refl _) _
  have hcame : ∀ W, Below w.heap.size w W → Calls Try.prog 17 #[.pointer (some ⟨h, 0, none⟩)] W fun e w' => e = .returned (.int .u64 (c : Nat)) ∧ ∃ m, w' = W.drewN m := by
    intro W hW
    have := tab_came (x.below hW)
    rw [hc] at this
    exact this
  have x1 := x.below hB
  have x3 := x1.c3
  rw [hg] at x3
  have hwb := x.wb
  rw [hc] at hwb
  have H := veil (show _ ∧ _ ∧ _ ∧ _ from ⟨x1, hB, hcame, x⟩)
  have HT := veil (show _ ∧ _ from ⟨hg, hk⟩)
  have HF := veil (Row.new w 23 #[.string ⟨#[]⟩, .string ⟨#[]⟩])
  by_cases c1 : n < g
  · obtain ⟨e1, e2⟩ := get_none (t := t) (n := n) (.inl (by rw [hg]; exact c1))
    rw [e1, e2]
    clear x x1 hB hcame hg hc hk e1 e2
    have n1 : (n : Int) < (g : Int) := by omega
    go_enter Try.func14, Try.ntmps14
    go_upto_region 1 with fail
    generalize (w.alloc (.cells #[.string ⟨#[]⟩, .string ⟨#[]⟩] 23)) = w1 at *
    go_upto_region 3 with (go_at_call 32; refine (tab_none H.out.1).mono ?_; rintro e1 w1 ⟨rfl, rfl⟩)
    go_wp2_with (with_reducible (show wpList _ _ _ (⟨_, Op.store 23 _ _, _, _, _, _⟩ :: _) _ _)
                 refine store_row rfl 23 _ _ rfl w.heap.size #[.string ⟨#[]⟩, .string ⟨#[]⟩] rfl rfl 23 _ HF.out 2 (by kernel_rfl) rfl rfl (by simp [Value.oneCell']) ?_)
    exact bodyPost_ret (result_twoT rfl _ _ w.heap.size _ _ (HF.out.put #[.string ⟨#[]⟩, .string ⟨#[]⟩]) 2 _ (.int .i64 10) rfl rfl Try.underlying23 (by kernel_rfl) rfl) rfl ⟨rfl, bSetRow H.out.2.1 (Nat.le_refl _) _⟩
  · have n1 : ¬ (n : Int) < (g : Int) := by omega
    by_cases c2 : c ≤ n
    · obtain ⟨e1, e2⟩ := get_none (t := t) (n := n) (.inr (by rw [hc]; exact c2))
      rw [e1, e2]
      have n2 : (c : Int) ≤ (n : Int) := by omega
      clear x x1 hB hcame hg hc hk e1 e2 hgc
      go_enter Try.func14, Try.ntmps14
      go_upto_region 1 with fail
      generalize (w.alloc (.cells #[.string ⟨#[]⟩, .string ⟨#[]⟩] 23)) = w1 at *
      go_upto_region 3 with (go_at_call 32; refine (tab_none H.out.1).mono ?_; rintro e1 w1 ⟨rfl, rfl⟩)
      go_cut [20] (fun v W => v = .bool true ∧ Below w1.heap.size w1 W)
      case first =>
        go_wp2_with (go_at_call 17; refine (H.out.2.2.1 _ H.out.2.1).mono ?_; rintro e1 w2 ⟨rfl, m2, rfl⟩)
        go_meet
        exact ⟨rfl, below_drewN (Below.refl _ _) _⟩
      case rest =>
        obtain ⟨rfl, hb2⟩ := hcut
        have HF2 := veil (Row.below HF.out hb2 (Row.lt HF.out))
        go_wp2_with (with_reducible (show wpList _ _ _ (⟨_, Op.store 23 _ _, _, _, _, _⟩ :: _) _ _)
                     refine store_row rfl 23 _ _ rfl w.heap.size #[.string ⟨#[]⟩, .string ⟨#[]⟩] rfl rfl 23 _ HF2.out 2 (by kernel_rfl) rfl rfl (by simp [Value.oneCell']) ?_)
        exact bodyPost_ret (result_twoT rfl _ _ w.heap.size _ _ (HF2.out.put #[.string ⟨#[]⟩, .string ⟨#[]⟩]) 2 _ (.int .i64 10) rfl rfl Try.underlying23 (by kernel_rfl) rfl) rfl ⟨rfl, bSetRow (H.out.2.1.trans (hb2.mono H.out.2.1.size)) (Nat.le_refl _) _⟩
    · have hj : n - g < nk := by omega
      obtain ⟨⟨fa, fb⟩, hfe⟩ : ∃ f, t.l[n - g]? = some f := ⟨_, List.getElem?_eq_getElem (by omega)⟩
      obtain ⟨e1, e2⟩ := get_some (t := t) (n := n) (by rw [hg]; exact c1) (by rw [hg]; exact hfe)
      rw [e1, e2]
      obtain ⟨j, hje⟩ : ∃ j, n - g = j := ⟨_, rfl⟩
      have hjn : g + j = n := by omega
      have n2 : ¬ (c : Int) ≤ (n : Int) := by omega
      have hth : thA p nk = 4 + p * 2 := if_neg (by omega)
      have hk0 : t.l.length = nk := hk
      have hg0 : t.went = g := hg
      have HE := veil (show A[p + j]? = some (fa, fb) from by rw [x.l j (by omega), ← hje]; exact hfe)
      have hjk2 : j < nk := by omega
      have hn4 : n ≤ 140737488355328 := by omega
      clear x x1 hB hcame hg hc hk e1 e2 hfe hgc hj hje
      have hjn := veil hjn
      have hk0 := veil hk0
      have hg0 := veil hg0
      go_enter Try.func14, Try.ntmps14
      go_upto_region 1 with fail
      generalize (w.alloc (.cells #[.string ⟨#[]⟩, .string ⟨#[]⟩] 23)) = w1 at *
      go_upto_region 3 with (go_at_call 32; refine (tab_none H.out.1).mono ?_; rintro e1 w1 ⟨rfl, rfl⟩)
      go_cut [20] (fun v W => v = .bool false ∧ Below w1.heap.size w1 W)
      case first =>
        go_wp2_with (go_at_call 17; refine (H.out.2.2.1 _ H.out.2.1).mono ?_; rintro e1 w2 ⟨rfl, m2, rfl⟩)
        go_meet
        exact ⟨rfl, below_drewN (Below.refl _ _) _⟩
      case rest =>
        obtain ⟨rfl, hb2⟩ := hcut
        have HF2 := veil (Row.below HF.out hb2 (Row.lt HF.out))
        have HX2 := veil (H.out.1.below hb2)
        have HB2 := veil (H.out.2.1.trans (hb2.mono H.out.2.1.size))
        clear hb2
        have hthere : ∀ W, Below wc.heap.size wc W → Calls Try.prog 33 #[.pointer (some ⟨h, 0, none⟩)] W fun e w' => e = .returned (.slice (some ⟨h, 4 + p * 2, none⟩) nk nk) ∧ ∃ m, w' = W.drewN m := by
          intro W hW
          have := tab_there (HX2.out.below hW) nk hk0.out
          rw [hth] at this
          exact this
        go_upto_region 5 with fail
        go_wp2_with fail
        refine (wpIn_wide (n := 4)).1 ?_
        refine wpIn_region_any (by kernel_rfl) ?_
        refine anyIn_line2 (valG1 h p nk n g j fa fb) (fun m W => (m ≤ 1 → Below wc.heap.size wc W) ∧ (1 < m → Row W w.heap.size 23 (Fd.cells (fa, fb)) ∧ Below w.heap.size w W)) [1, 10] dsG1 depG1 (by kernel_rfl) rfl (by decide) (by decide) ?ord ?inn ?h0 ?fix ?cal ?done
        case ord =>
          intro k i j h1 h2
          match k, h1, h2 with
          | 0, h1, h2 => obtain rfl := Option.some.inj h1; obtain rfl := Option.some.inj h2; exact .inl (by decide)
          | k + 1, _, h2 => simp at h2
        case inn => intro j hj; simp at hj; show j < 12; omega
        case h0 => exact ⟨fun _ => (Below.refl _ _).drew, fun h => absurd h (by omega)⟩
        case fix =>
          intro x W m ii d hR hm hdi hc hdep
          match ii, hm, hdi, hc, hdep with
          | 0, _, hdi, _, _ =>
            obtain rfl := Option.some.inj hdi
            exact OI_value rfl rfl (about_none (by intro c h; cases h)) (by intro c h; cases h) (.pointer (some ⟨h, 0, none⟩)) W (by kernel_rfl) ⟨rfl, rfl⟩
          | 1, _, _, hc, _ => exact (hc (by simp)).elim
          | 2, _, hdi, _, _ =>
            obtain rfl := Option.some.inj hdi
            exact OI_value rfl rfl (about_none (by intro c h; cases h)) (by intro c h; cases h) (.int .u64 (n : Int)) W (by kernel_rfl) ⟨rfl, rfl⟩
          | 3, _, hdi, _, _ =>
            obtain rfl := Option.some.inj hdi
            exact OI_value rfl rfl (about_none (by intro c h; cases h)) (by intro c h; cases h) (.pointer (some ⟨h, 0, none⟩)) W (by kernel_rfl) ⟨rfl, rfl⟩
          | 4, _, hdi, _, hdep =>
            obtain rfl := Option.some.inj hdi
            rw [updV_self (show x 3 = _ from hdep 3 (by simp [depG1]))]
            exact OI_value rfl rfl (about_none (by intro c h; cases h)) (by intro c h; cases h) (.pointer (some ⟨h, 0, none⟩)) W (by kernel_rfl) ⟨rfl, rfl⟩
          | 5, _, hdi, _, hdep =>
            obtain rfl := Option.some.inj hdi
            rw [updV_self (show x 4 = _ from hdep 4 (by simp [depG1]))]
            exact OI_value rfl rfl (about_none (by intro c h; cases h)) (by intro c h; cases h) (.pointer (some ⟨h, 3, none⟩)) W (by kernel_rfl) ⟨rfl, rfl⟩
          | 6, hm, hdi, _, hdep =>
            obtain rfl := Option.some.inj hdi
            have hW := hR.1 (hm 1 10 rfl (by simp [depG1]))
            rw [updV_self (show x 5 = _ from hdep 5 (by simp [depG1]))]
            exact OI_value rfl rfl (about_none (by intro c h; cases h)) (by intro c h; cases h) (.int .u64 (g : Int)) W (lgRun_cell 42 _ ⟨h, 3, none⟩ _ _ rfl (by kernel_rfl) Try.underlying42 rfl W (hg0.out ▸ (HX2.out.below hW).c3)) ⟨rfl, rfl⟩
          | 7, _, hdi, _, hdep =>
            obtain rfl := Option.some.inj hdi
            rw [updV_self (show x 2 = _ from hdep 2 (by simp [depG1])), updV_self (show (updV x 2 _) 6 = _ from hdep 6 (by simp [depG1]))]
            exact OI_value rfl rfl (about_none (by intro c h; cases h)) (by intro c h; cases h) (.int .u64 (j : Int)) W (lgRun_subU _ _ _ _ n g j hjn.out hn4 rfl (by kernel_rfl) (by kernel_rfl) W) ⟨rfl, rfl⟩
          | 8, _, hdi, _, hdep =>
            obtain rfl := Option.some.inj hdi
            rw [updV_self (show x 1 = _ from hdep 1 (by simp [depG1])), updV_self (show (updV x 1 _) 7 = _ from hdep 7 (by simp [depG1]))]
            exact OI_value rfl rfl (about_none (by intro c h; cases h)) (by intro c h; cases h) (.pointer (some ⟨h, 4 + p * 2 + j * 2, none⟩)) W (lgRun_atU 49 _ 2 _ _ h (4 + p * 2) nk nk j rfl (by kernel_rfl) (by kernel_rfl) Try.underlying49 fieldSize hjk2 W) ⟨rfl, rfl⟩
          | 9, hm, hdi, _, hdep =>
            obtain rfl := Option.some.inj hdi
            have hW := hR.1 (hm 1 10 rfl (by simp [depG1]))
            rw [updV_self (show x 8 = _ from hdep 8 (by simp [depG1]))]
            exact OI_value rfl rfl (about_none (by intro c h; cases h)) (by intro c h; cases h) (.agg (Fd.cells (fa, fb))) W (run_midT 23 _ h (4 + p * 2 + j * 2) (Fd.cells (fa, fb)).toList _ rfl (by kernel_rfl) Try.underlying23 rfl (by kernel_rfl) W (by rw [show 4 + p * 2 + j * 2 = 4 + (p + j) * 2 by omega]; exact prF (HX2.out.below hW).row HE.out)) ⟨rfl, rfl⟩
          | 10, _, _, hc, _ => exact (hc (by simp)).elim
          | 11, _, hdi, _, hdep =>
            obtain rfl := Option.some.inj hdi
            rw [updV_self (show x 10 = _ from hdep 10 (by simp [depG1]))]
            exact OI_value rfl rfl (about_none (by intro c h; cases h)) (by intro c h; cases h) (.int .i64 0) W (by kernel_rfl) ⟨rfl, rfl⟩
          | _ + 12, _, hdi, _, _ => simp [dsG1] at hdi
        case cal =>
          intro x W k ii d hR hk hdi hdep
          match k, hk, hR with
          | 0, hk, hR =>
            obtain rfl := Option.some.inj hk
            obtain rfl := Option.some.inj hdi
            rw [updV_self (show x 0 = _ from hdep 0 (by simp [depG1]))]
            have hW := hR.1 (by omega)
            refine OI_call rfl rfl (by intro c h; cases h) 33 #[.pointer (some ⟨h, 0, none⟩)] (fun _ _ => trivial) (by kernel_rfl) (by decide) ?_
            refine (callsIn_wide.2 (hthere W hW)).mono ?_
            rintro e w9 ⟨rfl, m9, rfl⟩
            exact ⟨_, rfl, rfl, fun _ => below_drewN hW _, fun h => absurd h (by omega)⟩
          | 1, hk, hR =>
            obtain rfl := Option.some.inj hk
            obtain rfl := Option.some.inj hdi
            rw [updV_self (show x 9 = _ from hdep 9 (by simp [depG1])), updV_self (show (updV x 9 _) 1 = _ from hdep 1 (by simp [depG1])), updV_self (show (updV (updV x 9 _) 1 _) 6 = _ from hdep 6 (by simp [depG1])), updV_self (show (updV (updV (updV x 9 _) 1 _) 6 _) 8 = _ from hdep 8 (by simp [depG1]))]
            have hW := hR.1 (by omega)
            refine OI_skip rfl rfl (about_none (by intro c h; cases h)) (by intro c h; cases h) (W.setRow w.heap.size (Fd.cells (fa, fb))) (run_store_row 23 _ _ rfl w.heap.size (Fd.cells (fa, fb)) (by kernel_rfl) (by kernel_rfl) 23 _ (Row.below HF2.out hW (Row.lt HF2.out)) 2 (by kernel_rfl) rfl rfl (fd_one _)) ?_
            refine ⟨(put_none _ _).trans (put_far _ _ _ (by rw [puts_size]; exact Nat.le_of_ble_eq_true rfl)).symm, fun h => absurd h (by omega), fun _ => ⟨Row.put (Row.below HF2.out hW (Row.lt HF2.out)) _, bSetRow (HB2.out.trans (hW.mono HB2.out.size)) (Nat.le_refl _) _⟩⟩
          | _ + 2, hk, _ => simp at hk
        case done =>
          intro W hR
          simp only [dsG1, putsV, valG1, Act.put, List.setIfInBounds_toArray, List.set_cons_succ, List.set_cons_zero, Nat.reduceAdd]
          obtain ⟨hR1, hR2⟩ := hR.2 (by decide)
          have HR1 := veil hR1
          have HR2 := veil hR2
          clear hR hR1 hR2
          go_wp2_with fail
          exact bodyPost_ret (result_twoT rfl _ _ w.heap.size _ _ HR1.out 2 _ (.int .i64 0) rfl rfl Try.underlying23 (by kernel_rfl) rfl) rfl ⟨rfl, HR2.out⟩
end Tb
end Go.Proofs.Ytoajnhngcfjohaa
