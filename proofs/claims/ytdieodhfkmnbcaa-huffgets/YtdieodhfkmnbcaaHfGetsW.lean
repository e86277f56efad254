/-
  HuffGets, walked.
-/
import Derived.Test.YtdieodhfkmnbcaaHfRefG
import Derived.Test.YtdieodhfkmnbcaaChaTwin
namespace Go.Proofs.Ytdieodhfkmnbcaa
open Go Go.RowKit

theorem run_quo2c {P : Program} {a : Act} {o : Oper} (t t' : TypeId) (x y : Operand) (m c : Nat) (hc : c = m / 2) (ho : o.op = .binOp .quo t x y t') (hx : a.eval x = .int .i64 (m : Int)) (hy : a.eval y = .int .i64 2) (hm : m < 9223372036854775808) (W : World) :
    (execOp a.eval o).run P W = .ok (.value (.int .i64 (c : Int))) W := by
  have hw : IntKind.i64.wrap ((m : Int) / 2) = ((m / 2 : Nat) : Int) := by rw [IntKind.wrap_i64]; omega
  rw [hc]
  unfold execOp
  simp only [ho, hx, hy]
  go_simp
set_option maxRecDepth 20000 in
set_option maxHeartbeats 2000000 in
theorem gets_walk (q : SL) (w : World) (hq : q.Ok w) (hs : q.len ≤ 140737488355328) : Calls Try.prog 3 #[.slice q.a q.len q.cap] w fun e w' => e = .returned (.bool true) ∧ Below w.heap.size w w' := by
  have HQ := veil hq
  clear hq
  obtain ⟨c, hc⟩ : ∃ c, c = q.len / 2 := ⟨_, rfl⟩
  have HC := veil hc
  have hcl : c ≤ 9223372036854775807 := by omega
  clear hc
  go_enter Try.func3, Try.ntmps3
  go_wp2_with (with_reducible (show wpList _ _ _ (⟨_, Op.binOp BinOp.quo _ _ _ _, _, _, _, _⟩ :: _) _ _)
               refine val_run rfl (.int .i64 (c : Int)) (run_quo2c _ _ _ _ q.len c HC.out rfl (by kernel_rfl) (by kernel_rfl) (by omega) _) ?_)
  refine (beyond_len w c hcl).mono ?_
  rintro e2 w2 ⟨rfl, b2⟩
  by_cases hbig : 1048576 < c
  · rw [decide_eq_true hbig]
    go_wp2_with fail
    go_ret
    exact ⟨rfl, b2⟩
  · rw [decide_eq_false hbig]
    have hl : q.len ≤ 2097153 := by have := HC.out; omega
    go_wp2_with fail
    refine (twin_sl q w2 (HQ.out.below b2) (by omega)).mono ?_
    rintro e3 w3 ⟨g, rfl, ht, hg, hb3⟩
    have b3 := b2.trans (hb3.mono b2.size)
    have HT := veil ht
    clear ht hb3 b2 hg hbig
    go_wp2_with fail
    have hT := HT.out.ok HQ.out.hb
    by_cases hlim : 1048576 < q.len
    · refine (get_limit (twinS g q.len q.b) hlim (by show q.len ≤ _; omega) w3).mono ?_
      rintro e4 w4 ⟨rfl, hb4⟩
      have b4 := b3.trans (hb4.mono b3.size)
      have HT4 := veil (HT.out.below hb4)
      clear hT hb4 b3 HT
      go_wp2_with fail
      refine (getR_limit q hlim (by omega) w4).mono ?_
      rintro e5 w5 ⟨rfl, hw5⟩
      subst hw5
      go_wp2_with fail
      refine (left_sl q g _ (HQ.out.below b4) (by omega) HT4.out).mono ?_
      rintro e6 w6 ⟨rfl, hb6⟩
      go_wp2_with fail
      go_ret
      exact ⟨rfl, b4.trans (hb6.mono b4.size)⟩
    · refine (get_any (twinS g q.len q.b) w3 hT (by show q.len ≤ _; omega)).mono ?_
      rintro e4 w4 ⟨s, E, rfl, hc4, hb4⟩
      have b4 := b3.trans (hb4.mono b3.size)
      have HT4 := veil (HT.out.below hb4)
      have HC4 := veil hc4
      clear hT hb4 b3 HT hc4
      go_wp2_with fail
      refine (getR_any q w4 (HQ.out.below b4) (by omega)).mono ?_
      rintro e5 w5 ⟨s', E', rfl, hc5, hb5⟩
      have b5 := b4.trans (hb5.mono b4.size)
      have HT5 := veil (HT4.out.below hb5)
      have hsame : s' = s ∧ E' = E := by
        have hc4 : Hf.getT q.b = none ∧ E = 5 ∧ s = ⟨#[]⟩ ∨ ∃ t, Hf.getT q.b = some t ∧ E = 0 ∧ s = strOf t := HC4.out
        rcases hc4 with ⟨h1, h2, h3⟩ | ⟨t, h1, h2, h3⟩
        · rcases hc5 with ⟨k1, k2, k3⟩ | ⟨t', k1, k2, k3⟩
          · exact ⟨k3.trans h3.symm, k2.trans h2.symm⟩
          · rw [h1] at k1; cases k1
        · rcases hc5 with ⟨k1, k2, k3⟩ | ⟨t', k1, k2, k3⟩
          · rw [h1] at k1; cases k1
          · rw [h1] at k1
            injection k1 with k1
            subst k1
            exact ⟨k3.trans h3.symm, k2.trans h2.symm⟩
      obtain ⟨rfl, rfl⟩ := hsame
      clear hc5 hb5 b4 HT4 HC4
      have hee : (E' == E') = true := by simp
      go_wp2_with fail
      refine (left_sl q g _ (HQ.out.below b5) (by omega) HT5.out).mono ?_
      rintro e6 w6 ⟨rfl, hb6⟩
      go_wp2_with fail
      go_ret
      exact ⟨rfl, b5.trans (hb6.mono b5.size)⟩
end Go.Proofs.Ytdieodhfkmnbcaa
