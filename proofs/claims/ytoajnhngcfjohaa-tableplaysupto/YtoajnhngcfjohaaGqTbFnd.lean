/-
  The program's Find.
-/
import Derived.Test.YtoajnhngcfjohaaGqTbIdf
namespace Go.Proofs.Ytoajnhngcfjohaa
open Go Go.RowKit

namespace Tb
def depF1 : Nat → List Nat
  | 2 => [0, 1]
  | 3 => [2]
  | _ => []
def dsF1 : List Nat := [6, 7, 8, 2]
def valF1 (d : Nat) (I : Int) (fa fb : ByteArray) : Nat → Value
  | 0 => .slice (some ⟨d, 0, none⟩) 99 99
  | 1 => .agg (Fd.cells (fa, fb))
  | 2 => .int .i64 I
  | 3 => .int .i64 I
  | _ => undef
set_option maxRecDepth 100000 in
set_option maxHeartbeats 4000000 in
theorem tab_find (f : Fd) (w : World) : Calls Try.prog 9 #[.agg f.cells] w fun e w' => e = .returned (.tuple #[.int .i64 (firstI (hasF f) fixL 0), .int .i64 (firstI (hasN f) fixL 0)]) ∧ Below w.heap.size w w' := by
  obtain ⟨fa, fb⟩ := f
  obtain ⟨I, hI⟩ : ∃ I, firstI (hasF (fa, fb)) fixL 0 = I := ⟨_, rfl⟩
  obtain ⟨J, hJ⟩ : ∃ J, firstI (hasN (fa, fb)) fixL 0 = J := ⟨_, rfl⟩
  have hfx := fun W => tab_fixed W
  have hIx : ∀ (b : Nat) (T : TypeId) (W : World), Row W b T (fds fixL).toArray → Calls Try.prog 28 #[.slice (some ⟨b, 0, none⟩) 99 99, .agg (Fd.cells (fa, fb))] W fun e w' => e = .returned (.int .i64 I) ∧ Below W.heap.size W w' := by
    intro b T W hR
    rw [← hI]
    exact tab_index (fa, fb) fixL 99 b T fixL_length (by decide) W hR
  have hJx : ∀ (b c : Nat) (T : TypeId) (W : World), Row W b T (fds fixL).toArray → Row W c 23 (Fd.cells (fa, fb)) →
      Calls Try.prog 29 #[.slice (some ⟨b, 0, none⟩) 99 99, .func (.func 30) #[] #[.pointer (some ⟨c, 0, none⟩)]] W fun e w' => e = .returned (.int .i64 J) ∧ Below W.heap.size W w' := by
    intro b c T W hR hF
    rw [← hJ]
    exact tab_indexN (fa, fb) fixL 99 b c T fixL_length (by decide) W hR hF
  have hlen := fixF_len
  have h1 : (fds fixL).toArray.all Value.oneCell' = true := by
    rw [Array.all_eq_true_iff_forall_mem]
    intro u hu
    exact fds_one _ u (by simpa using hu)
  rw [hI, hJ]
  clear hI hJ
  generalize (fds fixL).toArray = X at *
  have hIx := veil hIx
  have hJx := veil hJx
  obtain ⟨w1, hw1⟩ : ∃ w1, w.alloc (.cells #[.string fa, .string fb] 23) = w1 := ⟨_, rfl⟩
  have hB : Below w.heap.size w w1 := hw1 ▸ (Below.refl w.heap.size w).alloc (Nat.le_refl _) _
  obtain ⟨c, hc⟩ : ∃ c, w.heap.size = c := ⟨_, rfl⟩
  have hF : Row w1 c 23 (Fd.cells (fa, fb)) := by rw [← hw1, ← hc]; exact Row.new w _ _
  have HB := veil hB
  have HF := veil hF
  clear hB hF
  show Calls Try.prog 9 #[.agg #[.string fa, .string fb]] w _
  go_enter Try.func9, Try.ntmps9
  go_upto_region 1 with fail
  clear hw1 hc
  go_upto_region 2 with (first
    | (go_at_call 26; refine (hfx _).mono ?_; rintro e2 w2 ⟨rfl, hb2⟩)
    | (with_reducible (show wpList _ _ _ (⟨some 4, Op.alloc _, _, _, _, _⟩ :: _) _ _)
       refine wpL_valP rfl (.pointer (some ⟨w2.heap.size, 0, none⟩)) (w2.alloc (.cells (fds (List.replicate 99 fd0)).toArray 52)) (by as_aux_lemma => kernel_rfl) ?_)
    | (with_reducible (show wpList _ _ _ (⟨_, Op.store _ _ _, _, _, _, _⟩ :: _) _ _)
       refine store_row rfl 52 _ _ rfl w2.heap.size X rfl rfl 52 _ (Row.new _ _ _) 198 (by kernel_rfl) rfl hlen h1 ?_))
  simp only [Act.put, List.setIfInBounds_toArray, List.set_cons_succ, List.set_cons_zero]
  have hb3 := (Below.refl w2.heap.size w2).alloc (Nat.le_refl _) (.cells (fds (List.replicate 99 fd0)).toArray 52)
  have HF2 := veil (Row.below (Row.below HF.out hb2 (Row.lt HF.out)) (bSetRow hb3 (Nat.le_refl _) X) (Nat.lt_of_lt_of_le (Row.lt HF.out) hb2.size))
  have HB2 := veil ((HB.out.trans (hb2.mono HB.out.size)).trans ((bSetRow hb3 (Nat.le_refl _) X).mono (Nat.le_trans HB.out.size hb2.size)))
  have HR2 := veil ((Row.new w2 52 (fds (List.replicate 99 fd0)).toArray).put X)
  clear hb2 hb3 hfx h1
  generalize w2.heap.size = d at *
  generalize (w2.alloc (.cells (fds (List.replicate 99 fd0)).toArray 52)).setRow d X = w3 at *
  have y0 : w3.cell? ⟨c, 0, none⟩ = some (.string fa) := HF2.out.cell 0
  have y1 : w3.cell? ⟨c, 1, none⟩ = some (.string fb) := HF2.out.cell 1
  go_cut [2] (fun v W => v = .int .i64 I ∧ Below w3.heap.size w3 W)
  case first =>
    go_wp2_with fail
    refine (wpIn_wide (n := 4)).1 ?_
    refine wpIn_region_any (by kernel_rfl) ?_
    refine anyIn_line2 (valF1 d I fa fb) (fun _ W => Below w3.heap.size w3 W) [2] dsF1 depF1 (by kernel_rfl) rfl (by decide) (by decide) ?ord ?inn ?h0 ?fix ?cal ?done
    case ord =>
      intro k i j h1 h2
      simp at h2
    case inn => intro j hj; simp at hj; show j < 4; omega
    case h0 => exact (Below.refl _ _).drew
    case fix =>
      intro x W m ii d hR hm hdi hc hdep
      match ii, hm, hdi, hc, hdep with
      | 0, _, hdi, _, _ =>
        obtain rfl := Option.some.inj hdi
        exact OI_value rfl rfl (about_none (by intro c h; cases h)) (by intro c h; cases h) (.slice (some ⟨d, 0, none⟩) 99 99) W (by kernel_rfl) ⟨rfl, rfl⟩
      | 1, _, hdi, _, _ =>
        obtain rfl := Option.some.inj hdi
        exact OI_value rfl rfl (about_none (by intro c h; cases h)) (by intro c h; cases h) (.agg (Fd.cells (fa, fb))) W (run_midT 23 _ c 0 (Fd.cells (fa, fb)).toList _ rfl (by kernel_rfl) Try.underlying23 rfl (by kernel_rfl) W (box_range (Row.below HF2.out hR (Row.lt HF2.out)))) ⟨rfl, rfl⟩
      | 2, _, _, hc, _ => exact (hc (by simp)).elim
      | 3, _, hdi, _, hdep =>
        obtain rfl := Option.some.inj hdi
        rw [updV_self (show x 2 = _ from hdep 2 (by simp [depF1]))]
        exact OI_value rfl rfl (about_none (by intro c h; cases h)) (by intro c h; cases h) (.int .i64 I) W (by kernel_rfl) ⟨rfl, rfl⟩
      | _ + 4, _, hdi, _, _ => simp [dsF1] at hdi
    case cal =>
      intro x W k ii d hR hk hdi hdep
      match k, hk, hR with
      | 0, hk, hR =>
        obtain rfl := Option.some.inj hk
        obtain rfl := Option.some.inj hdi
        rw [updV_self (show x 0 = _ from hdep 0 (by simp [depF1])), updV_self (show (updV x 0 _) 1 = _ from hdep 1 (by simp [depF1]))]
        have hW := hR
        refine OI_call rfl rfl (by intro c h; cases h) 28 #[.slice (some ⟨d, 0, none⟩) 99 99, .agg (Fd.cells (fa, fb))] (fun _ _ => trivial) (by kernel_rfl) (by decide) ?_
        refine (callsIn_wide.2 (hIx.out d _ W (Row.below HR2.out hW (Row.lt HR2.out)))).mono ?_
        rintro e w9 ⟨rfl, hb9⟩
        exact ⟨_, rfl, rfl, hW.trans (hb9.mono hW.size)⟩
      | _ + 1, hk, _ => simp at hk
    case done =>
      intro W hR
      simp only [dsF1, putsV, valF1, Act.put, List.setIfInBounds_toArray, List.set_cons_succ, List.set_cons_zero, Nat.reduceAdd]
      have HR := veil hR
      clear hR
      go_wp2_with fail
      go_meet
      exact ⟨rfl, HR.out⟩
  case rest =>
    obtain ⟨rfl, hb5⟩ := hcut
    have hRw := Row.below HR2.out hb5 (Row.lt HR2.out)
    have hFw := Row.below HF2.out hb5 (Row.lt HF2.out)
    have HB5 := veil (HB2.out.trans (hb5.mono HB2.out.size))
    have HC := veil (hJx.out d c _ wc hRw hFw)
    clear hRw hFw hb5 y0 y1
    go_wp2_with (go_at_call 29; refine HC.out.mono ?_; rintro e4 w4 ⟨rfl, hb4⟩)
    go_ret2
    exact ⟨rfl, HB5.out.trans (hb4.mono HB5.out.size)⟩
end Tb
end Go.Proofs.Ytoajnhngcfjohaa
