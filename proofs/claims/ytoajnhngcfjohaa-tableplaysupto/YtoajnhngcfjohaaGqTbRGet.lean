/-
  The document's Get.
-/
import Derived.Test.YtoajnhngcfjohaaGqTbRRoom
import Derived.Test.YtoajnhngcfjohaaGqTbGet
namespace Go.Proofs.Ytoajnhngcfjohaa
open Go Go.RowKit

namespace Tb
def depQ1 : Nat → List Nat
  | 1 => [0]
  | 2 => [1]
  | 3 => [2]
  | 6 => [5]
  | 7 => [6]
  | 8 => [7]
  | 9 => [4, 8]
  | 10 => [3, 9]
  | 11 => [10]
  | 12 => [11, 3, 8]
  | 13 => [12]
  | _ => []
def dsQ1 : List Nat := [19, 20, 21, 22, 23, 24, 25, 26, 27, 28, 29, 30, 100000, 5]
def valQ1 (h lg lo nk lc n g j : Nat) (fa fb : ByteArray) : Nat → Value
  | 0 => .pointer (some ⟨h, 0, none⟩)
  | 1 => .pointer (some ⟨h, 0, none⟩)
  | 2 => .pointer (some ⟨h, 1, none⟩)
  | 3 => .slice (some ⟨lg, lo, none⟩) nk lc
  | 4 => .int .u64 (n : Int)
  | 5 => .pointer (some ⟨h, 0, none⟩)
  | 6 => .pointer (some ⟨h, 0, none⟩)
  | 7 => .pointer (some ⟨h, 2, none⟩)
  | 8 => .int .u64 (g : Int)
  | 9 => .int .u64 (j : Int)
  | 10 => .pointer (some ⟨lg, lo + j * 2, none⟩)
  | 11 => .agg (Fd.cells (fa, fb))
  | 12 => undef
  | 13 => .int .i64 0
  | _ => undef
set_option maxRecDepth 100000 in
set_option maxHeartbeats 4000000 in
theorem ref_get {w : World} {h : Nat} {t : Tab} {v : Value} (x : RtOk w h t v) (n : Nat) (hn64 : n ≤ 18446744073709551615) (hcb : t.came ≤ 1000000000000) :
    Calls Try.prog 22 #[.pointer (some ⟨h, 0, none⟩), .int .u64 (n : Int)] w fun e w' => e = .returned (.tuple #[.agg (getF t n).cells, .int .i64 (getE t n : Nat)]) ∧ Below w.heap.size w w' := by
  obtain ⟨g, hg⟩ : ∃ g, t.went = g := ⟨_, rfl⟩
  obtain ⟨c, hc⟩ : ∃ c, t.came = c := ⟨_, rfl⟩
  obtain ⟨nk, hk⟩ : ∃ nk, t.l.length = nk := ⟨_, rfl⟩
  have hgc : c = g + nk := by rw [← hc, ← hg, ← hk]; rfl
  have hB : Below w.heap.size w (w.alloc (.cells #[.string ⟨#[]⟩, .string ⟨#[]⟩] 23)) := (Below.refl w.heap.size w).alloc (Nat.le_refl _) _
  have hcame : ∀ W, Below w.heap.size w W → Calls Try.prog 23 #[.pointer (some ⟨h, 0, none⟩)] W fun e w' => e = .returned (.int .u64 (c : Nat)) ∧ ∃ m, w' = W.drewN m := by
    intro W hW
    have := ref_came W h t v (x.below hW)
    rw [hc] at this
    exact this
  have x1 := x.below hB
  have x3 : (w.alloc (.cells #[.string ⟨#[]⟩, .string ⟨#[]⟩] 23)).cell? ⟨h, 2, none⟩ = some (.int .u64 (g : Int)) := hg ▸ x1.row.cell 2
  rw [hc] at hcb
  have H := veil (show _ ∧ _ ∧ _ ∧ _ from ⟨x1, hB, hcame, x⟩)
  have HF := veil (Row.new w 23 #[.string ⟨#[]⟩, .string ⟨#[]⟩])
  by_cases c1 : n < g
  · obtain ⟨e1, e2⟩ := get_none (t := t) (n := n) (.inl (by rw [hg]; exact c1))
    rw [e1, e2]
    clear x x1 hB hcame hg hc hk e1 e2 hgc
    have n1 : (n : Int) < (g : Int) := by omega
    go_enter Try.func22, Try.ntmps22
    go_upto_region 1 with fail
    generalize (w.alloc (.cells #[.string ⟨#[]⟩, .string ⟨#[]⟩] 23)) = w1 at *
    go_wp2_with (with_reducible (show wpList _ _ _ (⟨_, Op.store 23 _ _, _, _, _, _⟩ :: _) _ _)
                 refine store_row rfl 23 _ _ rfl w.heap.size #[.string ⟨#[]⟩, .string ⟨#[]⟩] rfl rfl 23 _ HF.out 2 (by kernel_rfl) rfl rfl (by simp [Value.oneCell']) ?_)
    exact bodyPost_ret (result_twoT rfl _ _ w.heap.size _ _ (HF.out.put #[.string ⟨#[]⟩, .string ⟨#[]⟩]) 2 _ (.int .i64 10) rfl rfl Try.underlying23 (by kernel_rfl) rfl) rfl ⟨rfl, bSetRow H.out.2.1 (Nat.le_refl _) _⟩
  · have n1 : ¬ (n : Int) < (g : Int) := by omega
    by_cases c2 : c ≤ n
    · obtain ⟨e1, e2⟩ := get_none (t := t) (n := n) (.inr (by rw [hc]; exact c2))
      rw [e1, e2]
      have n2 : (c : Int) ≤ (n : Int) := by omega
      clear x x1 hB hcame hg hc hk e1 e2 hgc
      go_enter Try.func22, Try.ntmps22
      go_upto_region 1 with fail
      generalize (w.alloc (.cells #[.string ⟨#[]⟩, .string ⟨#[]⟩] 23)) = w1 at *
      go_cut [17] (fun v W => v = .bool true ∧ Below w1.heap.size w1 W)
      case first =>
        go_wp2_with (go_at_call 23; refine (H.out.2.2.1 _ H.out.2.1).mono ?_; rintro e1 w2 ⟨rfl, m2, rfl⟩)
        go_meet
        exact ⟨rfl, below_drewN (Below.refl _ _) _⟩
      case rest =>
        obtain ⟨rfl, hb2⟩ := hcut
        have HF2 := veil (Row.below HF.out hb2 (Row.lt HF.out))
        go_wp2_with (with_reducible (show wpList _ _ _ (⟨_, Op.store 23 _ _, _, _, _, _⟩ :: _) _ _)
                     refine store_row rfl 23 _ _ rfl w.heap.size #[.string ⟨#[]⟩, .string ⟨#[]⟩] rfl rfl 23 _ HF2.out 2 (by kernel_rfl) rfl rfl (by simp [Value.oneCell']) ?_)
        exact bodyPost_ret (result_twoT rfl _ _ w.heap.size _ _ (HF2.out.put #[.string ⟨#[]⟩, .string ⟨#[]⟩]) 2 _ (.int .i64 10) rfl rfl Try.underlying23 (by kernel_rfl) rfl) rfl ⟨rfl, bSetRow (H.out.2.1.trans (hb2.mono H.out.2.1.size)) (Nat.le_refl _) _⟩
    · have hj : n - g < nk := by omega
      obtain ⟨⟨fa, fb⟩, hfe⟩ : ∃ f, t.l[n - g]? = some f := ⟨_, List.getElem?_eq_getElem (by omega)⟩
      obtain ⟨e1, e2⟩ := get_some (t := t) (n := n) (by rw [hg]; exact c1) (by rw [hg]; exact hfe)
      rw [e1, e2]
      obtain ⟨j, hje⟩ : ∃ j, n - g = j := ⟨_, rfl⟩
      have hjn : g + j = n := by omega
      have n2 : ¬ (c : Int) ≤ (n : Int) := by omega
      have hjk2 : j < nk := by omega
      have hn4 : n ≤ 140737488355328 := by omega
      rw [hje] at hfe
      have hs := fds_get2' hfe
      have hown := x.own
      rw [hk] at hown
      obtain ⟨la, lc, rfl, _, _⟩ := hown.shape
      obtain ⟨lg, lo, rfl, _⟩ := RowO.cells hown _ _ hs.1
      have hcl := fun i u => RowO.cells hown i u
      have HC := veil (show ∀ W, Below w.heap.size w W → W.rangeAt lg (lo + j * 2) (Fd.cells (fa, fb)).toList from by
        intro W hW i u hu
        have hi : i < 2 := by have := (List.getElem?_eq_some_iff.1 hu).1; exact this
        have hu2 : (fds t.l)[j * 2 + i]? = some u := (fds_get t.l j (fa, fb) i hfe hi).trans hu
        obtain ⟨g', o', e, y⟩ := hcl _ _ hu2
        obtain ⟨rfl, rfl⟩ : lg = g' ∧ lo = o' := by injection e with e; injection e with e1 e2; exact ⟨e1, e2⟩
        rw [Nat.add_assoc]
        have hlt : lg < w.heap.size := RowO.lt hown lg rfl
        exact (hW.cell (p := ⟨lg, lo + (j * 2 + i), none⟩) hlt).trans y)
      have HE := veil hfe
      have hjn := veil hjn
      have hg0 := veil hg
      clear x x1 hB hcame hg hc hk e1 e2 hfe hgc hj hje hs hown hcl
      go_enter Try.func22, Try.ntmps22
      go_upto_region 1 with fail
      generalize (w.alloc (.cells #[.string ⟨#[]⟩, .string ⟨#[]⟩] 23)) = w1 at *
      go_cut [17] (fun v W => v = .bool false ∧ Below w1.heap.size w1 W)
      case first =>
        go_wp2_with (go_at_call 23; refine (H.out.2.2.1 _ H.out.2.1).mono ?_; rintro e1 w2 ⟨rfl, m2, rfl⟩)
        go_meet
        exact ⟨rfl, below_drewN (Below.refl _ _) _⟩
      case rest =>
        obtain ⟨rfl, hb2⟩ := hcut
        have HF2 := veil (Row.below HF.out hb2 (Row.lt HF.out))
        have HX2 := veil (H.out.1.below hb2)
        have HB2 := veil (H.out.2.1.trans (hb2.mono H.out.2.1.size))
        clear hb2
        go_upto_region 3 with fail
        go_wp2_with fail
        refine (wpIn_wide (n := 4)).1 ?_
        refine wpIn_region_any (by kernel_rfl) ?_
        refine anyIn_line2 (valQ1 h lg lo nk lc n g j fa fb) (fun m W => (m ≤ 0 → Below wc.heap.size wc W) ∧ (0 < m → Row W w.heap.size 23 (Fd.cells (fa, fb)) ∧ Below w.heap.size w W)) [12] dsQ1 depQ1 (by kernel_rfl) rfl (by decide) (by decide) ?ord ?inn ?h0 ?fix ?cal ?done
        case ord =>
          intro k i j h1 h2
          simp at h2
        case inn => intro j hj; simp at hj; show j < 14; omega
        case h0 => exact ⟨fun _ => (Below.refl _ _).drew, fun h => absurd h (by omega)⟩
        case fix =>
          intro x W m ii d hR hm hdi hc hdep
          match ii, hm, hdi, hc, hdep with
          | 0, _, hdi, _, _ =>
            obtain rfl := Option.some.inj hdi
            exact OI_value rfl rfl (about_none (by intro c h; cases h)) (by intro c h; cases h) (.pointer (some ⟨h, 0, none⟩)) W (by kernel_rfl) ⟨rfl, rfl⟩
          | 1, _, hdi, _, hdep =>
            obtain rfl := Option.some.inj hdi
            rw [updV_self (show x 0 = _ from hdep 0 (by simp [depQ1]))]
            exact OI_value rfl rfl (about_none (by intro c h; cases h)) (by intro c h; cases h) (.pointer (some ⟨h, 0, none⟩)) W (by kernel_rfl) ⟨rfl, rfl⟩
          | 2, _, hdi, _, hdep =>
            obtain rfl := Option.some.inj hdi
            rw [updV_self (show x 1 = _ from hdep 1 (by simp [depQ1]))]
            exact OI_value rfl rfl (about_none (by intro c h; cases h)) (by intro c h; cases h) (.pointer (some ⟨h, 1, none⟩)) W (by kernel_rfl) ⟨rfl, rfl⟩
          | 3, hm, hdi, _, hdep =>
            obtain rfl := Option.some.inj hdi
            have hW := hR.1 (hm 0 12 rfl (by simp [depQ1]))
            rw [updV_self (show x 2 = _ from hdep 2 (by simp [depQ1]))]
            exact OI_value rfl rfl (about_none (by intro c h; cases h)) (by intro c h; cases h) (.slice (some ⟨lg, lo, none⟩) nk lc) W (lgRun_cell 49 _ ⟨h, 1, none⟩ _ _ rfl (by kernel_rfl) Try.underlying49 rfl W ((HX2.out.below hW).row.cell 1)) ⟨rfl, rfl⟩
          | 4, _, hdi, _, _ =>
            obtain rfl := Option.some.inj hdi
            exact OI_value rfl rfl (about_none (by intro c h; cases h)) (by intro c h; cases h) (.int .u64 (n : Int)) W (by kernel_rfl) ⟨rfl, rfl⟩
          | 5, _, hdi, _, _ =>
            obtain rfl := Option.some.inj hdi
            exact OI_value rfl rfl (about_none (by intro c h; cases h)) (by intro c h; cases h) (.pointer (some ⟨h, 0, none⟩)) W (by kernel_rfl) ⟨rfl, rfl⟩
          | 6, _, hdi, _, hdep =>
            obtain rfl := Option.some.inj hdi
            rw [updV_self (show x 5 = _ from hdep 5 (by simp [depQ1]))]
            exact OI_value rfl rfl (about_none (by intro c h; cases h)) (by intro c h; cases h) (.pointer (some ⟨h, 0, none⟩)) W (by kernel_rfl) ⟨rfl, rfl⟩
          | 7, _, hdi, _, hdep =>
            obtain rfl := Option.some.inj hdi
            rw [updV_self (show x 6 = _ from hdep 6 (by simp [depQ1]))]
            exact OI_value rfl rfl (about_none (by intro c h; cases h)) (by intro c h; cases h) (.pointer (some ⟨h, 2, none⟩)) W (by kernel_rfl) ⟨rfl, rfl⟩
          | 8, hm, hdi, _, hdep =>
            obtain rfl := Option.some.inj hdi
            have hW := hR.1 (hm 0 12 rfl (by simp [depQ1]))
            rw [updV_self (show x 7 = _ from hdep 7 (by simp [depQ1]))]
            exact OI_value rfl rfl (about_none (by intro c h; cases h)) (by intro c h; cases h) (.int .u64 (g : Int)) W (lgRun_cell 42 _ ⟨h, 2, none⟩ _ _ rfl (by kernel_rfl) Try.underlying42 rfl W (hg0.out ▸ (HX2.out.below hW).row.cell 2)) ⟨rfl, rfl⟩
          | 9, _, hdi, _, hdep =>
            obtain rfl := Option.some.inj hdi
            rw [updV_self (show x 4 = _ from hdep 4 (by simp [depQ1])), updV_self (show (updV x 4 _) 8 = _ from hdep 8 (by simp [depQ1]))]
            exact OI_value rfl rfl (about_none (by intro c h; cases h)) (by intro c h; cases h) (.int .u64 (j : Int)) W (lgRun_subU _ _ _ _ n g j hjn.out hn4 rfl (by kernel_rfl) (by kernel_rfl) W) ⟨rfl, rfl⟩
          | 10, _, hdi, _, hdep =>
            obtain rfl := Option.some.inj hdi
            rw [updV_self (show x 3 = _ from hdep 3 (by simp [depQ1])), updV_self (show (updV x 3 _) 9 = _ from hdep 9 (by simp [depQ1]))]
            exact OI_value rfl rfl (about_none (by intro c h; cases h)) (by intro c h; cases h) (.pointer (some ⟨lg, lo + j * 2, none⟩)) W (lgRun_atU 49 _ 2 _ _ lg lo nk lc j rfl (by kernel_rfl) (by kernel_rfl) Try.underlying49 fieldSize hjk2 W) ⟨rfl, rfl⟩
          | 11, hm, hdi, _, hdep =>
            obtain rfl := Option.some.inj hdi
            have hW := hR.1 (hm 0 12 rfl (by simp [depQ1]))
            rw [updV_self (show x 10 = _ from hdep 10 (by simp [depQ1]))]
            exact OI_value rfl rfl (about_none (by intro c h; cases h)) (by intro c h; cases h) (.agg (Fd.cells (fa, fb))) W (run_midT 23 _ lg (lo + j * 2) (Fd.cells (fa, fb)).toList _ rfl (by kernel_rfl) Try.underlying23 rfl (by kernel_rfl) W (HC.out W (HB2.out.trans (hW.mono HB2.out.size)))) ⟨rfl, rfl⟩
          | 12, _, _, hc, _ => exact (hc (by simp)).elim
          | 13, _, hdi, _, hdep =>
            obtain rfl := Option.some.inj hdi
            rw [updV_self (show x 12 = _ from hdep 12 (by simp [depQ1]))]
            exact OI_value rfl rfl (about_none (by intro c h; cases h)) (by intro c h; cases h) (.int .i64 0) W (by kernel_rfl) ⟨rfl, rfl⟩
          | _ + 14, _, hdi, _, _ => simp [dsQ1] at hdi
        case cal =>
          intro x W k ii d hR hk hdi hdep
          match k, hk, hR with
          | 0, hk, hR =>
            obtain rfl := Option.some.inj hk
            obtain rfl := Option.some.inj hdi
            rw [updV_self (show x 11 = _ from hdep 11 (by simp [depQ1])), updV_self (show (updV x 11 _) 3 = _ from hdep 3 (by simp [depQ1])), updV_self (show (updV (updV x 11 _) 3 _) 8 = _ from hdep 8 (by simp [depQ1]))]
            have hW := hR.1 (by omega)
            refine OI_skip rfl rfl (about_none (by intro c h; cases h)) (by intro c h; cases h) (W.setRow w.heap.size (Fd.cells (fa, fb))) (run_store_row 23 _ _ rfl w.heap.size (Fd.cells (fa, fb)) (by kernel_rfl) (by kernel_rfl) 23 _ (Row.below HF2.out hW (Row.lt HF2.out)) 2 (by kernel_rfl) rfl rfl (fd_one _)) ?_
            refine ⟨(put_none _ _).trans (put_far _ _ _ (by rw [puts_size]; exact Nat.le_of_ble_eq_true rfl)).symm, fun h => absurd h (by omega), fun _ => ⟨Row.put (Row.below HF2.out hW (Row.lt HF2.out)) _, bSetRow (HB2.out.trans (hW.mono HB2.out.size)) (Nat.le_refl _) _⟩⟩
          | _ + 1, hk, _ => simp at hk
        case done =>
          intro W hR
          simp only [dsQ1, putsV, valQ1, Act.put, List.setIfInBounds_toArray, List.set_cons_succ, List.set_cons_zero, Nat.reduceAdd]
          obtain ⟨hR1, hR2⟩ := hR.2 (by decide)
          have HR1 := veil hR1
          have HR2 := veil hR2
          clear hR hR1 hR2
          go_wp2_with fail
          exact bodyPost_ret (result_twoT rfl _ _ w.heap.size _ _ HR1.out 2 _ (.int .i64 0) rfl rfl Try.underlying23 (by kernel_rfl) rfl) rfl ⟨rfl, HR2.out⟩
end Tb
end Go.Proofs.Ytoajnhngcfjohaa
