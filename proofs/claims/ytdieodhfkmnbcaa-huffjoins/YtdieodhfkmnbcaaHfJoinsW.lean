/-
  HuffJoins, walked.
-/
import Derived.Test.YtdieodhfkmnbcaaHfEight
import Derived.Laws.AppendOwnNone
namespace Go.Proofs.Ytdieodhfkmnbcaa
open Go Go.RowKit

/-- Bytes appended to a row of the call's own. -/
theorem run_app (q : SL) (w : World) (hq : q.Ok w) (base n : Nat) (v : Value) (xs : List By) (ty : TypeId) (hown : w.ownsRow base 5 1 v n (vb xs)) (hl : n + q.len ≤ 8388608) (hbase : base ≤ w.heap.size) :
    ∃ v' w', (Builtin.append_ #[22, 22] ty #[v, .slice q.a q.len q.cap]).run Try.prog w = .ok v' w' ∧ w'.ownsRow base 5 1 v' (n + q.len) (vb (xs ++ q.b)) ∧ w.grownBy w' v.ownBlock := by
  obtain ⟨i0, hi, hz0, hz1, hz2⟩ := info_parts (P := Try.prog) (e := 5) (z := .int .u8 0) (size := 1) (bytes := 1) (by kernel_rfl)
  obtain ⟨ad, len, cap, g, off, b⟩ := q
  cases ad with
  | none =>
    obtain ⟨h1, h2⟩ := hq.nil rfl
    simp only at h1 h2
    subst h1 h2
    have hb0 : b = [] := List.eq_nil_of_length_eq_zero hq.hb
    subst hb0
    exact ⟨v, w, run_append_owned_none (P := Try.prog) (w := w) base 22 ty 5 i0 1 Try.underlying22 hi v n (vb xs) hown, by simpa using hown, rfl, rfl, rfl, Nat.le_refl _, fun _ _ _ => rfl⟩
  | some ad =>
    have hb : b.length = len := hq.hb
    simp only at hl
    obtain ⟨v', w', h1, h2, h3, _⟩ := run_append_own (P := Try.prog) w base 22 ty 5 i0 (.int .u8 0) 1 1 Try.underlying22 hi hz0 hz1 hz2 rfl (by decide) v n (vb xs) hown ad len cap (vb b) (by rw [vb_length, hb, Nat.mul_one]) (fun j u hj => by
      obtain ⟨h1, rfl⟩ := vb_get' b j u hj
      have e := hq.at_ (show 0 < len by omega)
      simp only at e
      injection e with e
      subst e
      rw [add_at]
      exact hq.cell j (show j < len by omega)) (vb_one b) (by unfold maxLen; omega) (by omega) hbase
    rw [← vb_append] at h2
    exact ⟨v', w', h1, h2, h3⟩
theorem wpList_wanted {P : Program} {w : World} {ops : Array Oper} {rest : List Oper} {o : Oper} {a : Act} {Q : Exit → Act → World → Prop} (hw : Region.wanted o (yielded ops a.tmps) = true)
    (h : ∀ K : Act → World → Prop, (∀ a w, wpList P ops Q rest a w → K a w) → o.wp P a w K Q) : wpList P ops Q (o :: rest) a w :=
  wpList_step fun K hK => by rw [hw, if_pos rfl]; exact h K hK
theorem app_G {P : Program} {w w' : World} {ops : Array Oper} {rest : List Oper} {o : Oper} {a : Act} {Q : Exit → Act → World → Prop} (hgd : Region.wanted o (yielded ops a.tmps) = true) (s x : Operand) (t : TypeId)
    (hop : o.op = .call { callee := .builtin .append, args := #[s, x], argTypes := #[t, t] }) (vs vx v' : Value) (hs : a.eval s = vs) (hx : a.eval x = vx) (hrun : (Builtin.append_ #[t, t] o.type #[vs, vx]).run P w = .ok v' w')
    (h : wpList P ops Q rest (a.put o.dst v') w') : wpList P ops Q (o :: rest) a w :=
  wpList_wanted hgd fun K hK => by
    unfold Oper.wp
    simp [execOp, hop, resolve, invoke, builtin, hs, hx, hrun, Result.andThen]
    exact hK _ _ h

set_option maxRecDepth 20000 in
set_option maxHeartbeats 600000 in
theorem joins_walk (s t : ByteArray) (w : World) (hs : s.size ≤ 9223372036854775807) (ht : t.size ≤ 9223372036854775807) : Calls Try.prog 6 #[.string s, .string t] w fun e w' => e = .returned (.bool true) ∧ Below w.heap.size w w' := by
  go_enter Try.func6, Try.ntmps6
  go_wp2_with fail
  refine (alive_any w).mono ?_
  rintro e1 w1 ⟨rfl, b1⟩
  by_cases h1 : 2000 < s.size
  · have f1 : decide ((s.size : Int) > 2000) = true := by simp; omega
    go_wp2_with fail
    refine (alive_any w1).mono ?_
    rintro e3 w3 ⟨rfl, hb3⟩
    go_wp2_with fail
    go_ret
    exact ⟨rfl, b1.trans (hb3.mono b1.size)⟩
  have f1 : decide ((s.size : Int) > 2000) = false := by simp; omega
  by_cases h2 : 2000 < t.size
  · have f2 : decide ((t.size : Int) > 2000) = true := by simp; omega
    go_wp2_with fail
    refine (alive_any w1).mono ?_
    rintro e3 w3 ⟨rfl, hb3⟩
    go_wp2_with fail
    go_ret
    exact ⟨rfl, b1.trans (hb3.mono b1.size)⟩
  have f2 : decide ((t.size : Int) > 2000) = false := by simp; omega
  have hst : (s ++ t).size = s.size + t.size := by simp
  have hTs := Hf.txt_length_le (bOf s)
  have hTt := Hf.txt_length_le (bOf t)
  rw [bOf_length] at hTs hTt
  have hcat : (Hf.txt (bOf (s ++ t))).length = (Hf.txt (bOf s)).length + (Hf.txt (bOf t)).length := by rw [bOf_append, Hf.txt_append, List.length_append]
  have hcatB : bitBytes (Hf.txt (bOf (s ++ t))) = bitBytes (Hf.txt (bOf s)) ++ bitBytes (Hf.txt (bOf t)) := by rw [bOf_append, Hf.txt_append, bitBytes_append]
  have HC := veil hcat
  have HCB := veil hcatB
  have HST := veil hst
  obtain ⟨N, hN⟩ : ∃ N, N = (Hf.txt (bOf s)).length := ⟨_, rfl⟩
  obtain ⟨M, hM⟩ : ∃ M, M = (Hf.txt (bOf t)).length := ⟨_, rfl⟩
  have HN := veil hN
  have HM := veil hM
  have hNb : N ≤ 60000 := by omega
  have hMb : M ≤ 60000 := by omega
  have hnc : ¬ (9223372036854775807 < s.size + t.size) := by omega
  clear hcat hcatB hst hN hM hTs hTt
  go_wp2_with fail
  refine (eight_any s w1 (by omega)).mono ?_
  rintro e2 w2 ⟨rfl, hb2⟩
  have b2 := b1.trans (hb2.mono b1.size)
  rw [← HN.out]
  clear hb2 b1
  go_wp2_with fail
  refine (eight_any t w2 (by omega)).mono ?_
  rintro e3 w3 ⟨rfl, hb3⟩
  have b3 := b2.trans (hb3.mono b2.size)
  rw [← HM.out]
  clear hb3 b2
  go_wp2_with fail
  have hNM : (N : Int) + (M : Int) = ((N + M : Nat) : Int) := by omega
  rw [hNM]
  clear hNM
  refine (lawBits_any (s ++ t) (N + M) w3 (by rw [HST.out]; omega) (by rw [HC.out, HN.out, HM.out])).mono ?_
  rintro e4 w4 ⟨v4, rfl, hown4, hb4⟩
  have b4 := b3.trans (hb4.mono b3.size)
  obtain ⟨q4, rfl, hq4l, hq4b, hq4, _⟩ := SL.of_own hown4
  have HQ4 := veil hq4
  have HQ4B := veil hq4b
  have HQ4L := veil hq4l
  have f4 : (((q4.len : Nat) : Int) == (N : Int) + (M : Int)) = true := by rw [hq4l]; simp
  clear hown4 hq4 hq4b hb4 b3 hq4l
  unfold SL.v
  go_wp2_with fail
  refine (eight_any (s ++ t) w4 (by rw [HST.out]; omega)).mono ?_
  rintro e5 w5 ⟨rfl, hb5⟩
  have b5 := b4.trans (hb5.mono b4.size)
  have HQ5 := veil (HQ4.out.below hb5)
  have HQ45 := veil (show 0 < q4.len → q4.g < w5.heap.size from fun p => by have := HQ4.out.lt p; have := hb5.size; omega)
  rw [HC.out, ← HN.out, ← HM.out]
  have f5 : (((N + M : Nat) : Int) == (N : Int) + (M : Int)) = true := by simp
  clear hb5 b4 HQ4
  go_wp2_with fail
  refine (lawBits_any s N w5 (by omega) HN.out).mono ?_
  rintro e6 w6 ⟨v6, rfl, hown6, hb6⟩
  have s5 := b5.size
  have b6 := b5.trans (hb6.mono b5.size)
  have HQ6 := veil (HQ5.out.below hb6)
  have HO6 := veil hown6
  have s6 := hb6.size
  clear hown6 hb6 b5 HQ5
  go_wp2_with fail
  refine (lawBits_any t M w6 (by omega) HM.out).mono ?_
  rintro e7 w7 ⟨v7, rfl, hown7, hb7⟩
  have b7 := b6.trans (hb7.mono b6.size)
  have HQ7 := veil (HQ6.out.below hb7)
  have s7 := hb7.size
  obtain ⟨q7, rfl, hq7l, hq7b, hq7, _⟩ := SL.of_own hown7
  have HQ7B := veil hq7b
  obtain ⟨v8, w8, hrun8, hown8, hg8⟩ := run_app q7 w7 hq7 w5.heap.size N v6 _ 22 (own_blk HO6.out (fun g hg => hb7.block g (HO6.out.lt g hg).2)) (by omega) (by omega)
  have hg8b : Below w5.heap.size w7 w8 := ⟨hg8.os, hg8.tape, hg8.output, hg8.size, fun k hk => hg8.block k (by omega) (fun e => by have := (HO6.out.lt k e.symm).1; omega)⟩
  obtain ⟨q8, hq8v, hq8l, hq8b, hq8, _⟩ := SL.of_own hown8
  have HQ8 := veil hq8
  have HQ8B := veil hq8b
  have hQ48 : q4.Ok w8 := HQ7.out.same (fun p => hg8.block _ (HQ7.out.lt p) (fun e => by
    have h1 := (HO6.out.lt q4.g e.symm).1
    have h2 := HQ45.out p
    omega)) hg8.size
  have HQ48 := veil hQ48
  have b8 : Below w.heap.size w w8 := b7.trans (hg8b.mono s5)
  have HV := veil hq8v
  subst hq8v
  have HQ7L := veil hq7l
  have HQ8L := veil hq8l
  clear hown7 hb7 hown8 hq8 hq8b hg8 hg8b hQ48 HQ7 hq7b hq7 HO6 hq7l hq8l
  unfold SL.v at hrun8 ⊢
  go_wp2_with (with_reducible (show wpList _ _ _ (⟨_, Op.call { callee := .builtin .append, args := _, argTypes := _ }, _, _, _, _⟩ :: _) _ _)
               refine app_G (by kernel_rfl) _ _ 22 (by rfl) v6 (.slice q7.a q7.len q7.cap) (.slice q8.a q8.len q8.cap) (by kernel_rfl) (by kernel_rfl) hrun8 ?_)
  refine (same_bool q4 q8 w8 HQ48.out HQ8.out (by rw [HQ4L.out]; omega) (by have h1 := HQ8L.out; have h2 := HQ7L.out; omega)).mono ?_
  rintro e9 w9 ⟨rfl, hb9⟩
  have HD := veil (show decide (q4.b = q8.b) = true from decide_eq_true (by rw [HQ4B.out, HQ8B.out, HCB.out, HQ7B.out]))
  rw [HD.out]
  have b9 := b8.trans (hb9.mono b8.size)
  go_wp2_with fail
  go_ret
  exact ⟨rfl, b9⟩
end Go.Proofs.Ytdieodhfkmnbcaa
