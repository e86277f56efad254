/-
  HelloBack: the walk.
-/
import Derived.Test.YtjccjlhnjihfjaaDoorGhHeLives
import Derived.Test.YtjccjlhnjihfjaaDoorGh4
namespace Go.Proofs.YtjccjlhnjihfjaaDoor
open Go Go.RowKit

section
variable {P : Program} {ops : Array Oper} {rest : List Oper} {o : Oper} {a : Act} {w : World} {Q : Exit → Act → World → Prop}
/-- What came in is appended to a row of the call's own, as many bytes as there can be. -/
theorem append_slW (hgd : o.guard = none) (s x : Operand) (t : TypeId) (ho : o.op = .call { callee := .builtin .append, args := #[s, x], argTypes := #[t, t] })
    (base : Nat) (i : TypeInfo) (ht : P.underlying t = some (.slice 5)) (hi : P.info? 5 = some i) (hz : i.zero = some (.int .u8 0)) (hsize : i.size = 1) (hby : i.bytes = 1)
    (v : Value) (n : Nat) (xs : List By) (hs : a.eval s = v) (hown : w.ownsRow base 5 1 v n (vb xs)) (q : SL) (hq : q.Ok w) (hx : a.eval x = .slice q.a q.len q.cap) (hl : n + q.len ≤ 140737488355328) (hbase : base ≤ w.heap.size)
    (h : ∀ v' w', w'.ownsRow base 5 1 v' (n + q.len) (vb (xs ++ q.b)) → w.grownBy w' v.ownBlock → wpList P ops Q rest (a.put o.dst v') w') : wpList P ops Q (o :: rest) a w := by
  obtain ⟨ad, len, cap, g, off, b⟩ := q
  cases ad with
  | none =>
    obtain ⟨h1, h2⟩ := hq.nil rfl
    simp only at h1 h2
    subst h1 h2
    have hb0 : b = [] := List.eq_nil_of_length_eq_zero hq.hb
    subst hb0
    refine wpList_append_own_none hgd s x t ho base 5 i 1 ht hi v n (vb xs) hs hown hx (h _ _ ?_ ⟨rfl, rfl, rfl, Nat.le_refl _, fun _ _ _ => rfl⟩)
    simpa using hown
  | some ad =>
    have hb : b.length = len := hq.hb
    refine wpList_append_own w hgd s x t ho base 5 i (.int .u8 0) 1 1 ht hi hz hsize hby rfl (by decide) v n (vb xs) hs hown ad len cap (vb b) hx (by rw [vb_length, hb, Nat.mul_one]) ?_ (vb_one b) (by unfold maxLen; simp only at hl; omega) (by simp only at hl; omega) hbase ?_
    · intro j u hj
      obtain ⟨h1, rfl⟩ := vb_get' b j u hj
      have e := hq.at_ (show 0 < len by omega)
      simp only at e
      injection e with e
      subst e
      rw [add_at]
      exact hq.cell j (show j < len by omega)
    · intro v' w' h1 h2 _
      rw [← vb_append] at h1
      exact h v' w' h1 h2
end
theorem limsL_le (l : He.Q4) : (He.limsL l).length ≤ 32 := by
  rw [← numsTo_four]
  exact numsTo_le l 4
theorem bytes_le {h : He.H} (hf : h.Fine) : h.bytes.length ≤ 97 := by
  unfold He.H.bytes
  have h1 := limsL_le h.l
  have h2 := hf.n32
  have h3 := hf.p32
  rw [List.length_cons, List.length_append]
  split <;> split <;> simp only [List.length_append, List.length_nil] <;> omega
theorem eqlH_self {a : Act} {o : Oper} (x y : Operand) (t' : TypeId) (p : He.H) (hp : p.Fine) (ho : o.op = .binOp .eql 27 x y t') (hx : a.eval x = .agg (heC p)) (hy : a.eval y = .agg (heC p)) (w : World) :
    (execOp a.eval o).run Tryd.prog w = .ok (.value (.bool true)) w := by
  have h := exec_eqlH x y t' p p hp hp ho hx hy w
  rwa [decide_eq_true rfl] at h

set_option maxRecDepth 20000 in
set_option maxHeartbeats 2000000 in
theorem back_walk (h : He.H) (hf : h.Fine) (m : SL) (w : World) (hL : Lens w) (hm : m.Ok w) (lm : m.len ≤ 140737488351232) :
    Calls Tryd.prog 6 #[.agg (heC h), .slice m.a m.len m.cap] w fun e w' => e = .returned (.bool true) ∧ Below w.heap.size w w' := by
  obtain ⟨i0, hi, hz0, hz1, hz2⟩ := info_parts (P := Tryd.prog) (e := 5) (z := .int .u8 0) (size := 1) (bytes := 1) (by kernel_rfl)
  obtain ⟨W0, hW0⟩ : ∃ W0, W0 = w.alloc (.cells (heC h) 27) := ⟨_, rfl⟩
  have b0 : Below w.heap.size w W0 := by rw [hW0]; exact (Below.refl _ w).alloc (Nat.le_refl _) _
  have r0 : Row W0 w.heap.size 27 (heC h) := by rw [hW0]; exact Row.new _ _ _
  have B0 := veil b0
  have R0 := veil r0
  have HL := veil hL
  have HM := veil hm
  have LM := veil lm
  have HF := veil hf
  have hlt := r0.lt
  have M0 := veil (hm.below b0)
  rw [hW0] at R0
  clear hf hL hm lm b0 r0
  go_enter Tryd.func6, Tryd.ntmps6
  go_wp2_with (with_reducible (show wpList _ _ _ (⟨some 11, Op.load 27 _, _, _, _, _⟩ :: _) _ _)
               refine load_strL rfl 27 _ rfl w.heap.size rfl _ _ R0.out 69 _ Tryd.underlying27 (by kernel_rfl) (heC_size HF.out) ?_)
  rw [← hW0]
  rw [← hW0] at R0
  clear hW0
  refine (put_any h HF.out W0 (HL.out.step B0.out)).mono ?_
  rintro e1 w1 ⟨a1, c1, rfl, o1, bb1⟩
  have B1 := veil (B0.out.trans (bb1.mono B0.out.size))
  have R1 := veil (R0.out.below bb1 hlt)
  have M1 := veil (M0.out.below bb1)
  clear R0 M0 B0
  by_cases hmay : h.may
  · have e1 : He.putO h = h.bytes := by unfold He.putO; rw [if_pos hmay]
    have e2 : He.putE h = 0 := by unfold He.putE; rw [if_pos hmay]
    rw [e1] at o1 ⊢
    rw [e2]
    obtain ⟨q, hv, hql, hqb, hqok, _⟩ := SL.of_own o1
    have hv' : (.slice a1 h.bytes.length c1 : Value) = .slice q.a q.len q.cap := hv.symm
    rw [hv']
    have hle := bytes_le HF.out
    have HQ := veil hqok
    have HQL := veil (show q.len ≤ 97 by omega)
    have HQB := veil hqb
    have HG := veil (He.got_put hmay HF.out m.b)
    have hee : ((h.bytes.length : Int) == (q.len : Int)) = true := by rw [hql]; simp
    have hs1 := B1.out.size
    clear e1 e2 o1 hv hv' hqok hqb hle hmay bb1 hql
    go_wp2_with (first
      | (with_reducible (show wpList _ _ _ (⟨some 25, Op.call _, _, _, _, _⟩ :: _) _ _)
         refine append_slW rfl _ _ 28 rfl w1.heap.size i0 Tryd.underlying28 hi hz0 hz1 hz2 (.slice none 0 0) 0 [] rfl (World.ownsRow_nil _ _ _ _) q HQ.out rfl (by have := HQL.out; omega) (Nat.le_refl _) ?_
         intro v2 w2 hown2 hgrow2
         rw [Nat.zero_add, List.nil_append] at hown2
         obtain ⟨a2, c2, rfl⟩ := own_shapeF hown2
         have B2 := veil (show Below w1.heap.size w1 w2 from ⟨hgrow2.os, hgrow2.tape, hgrow2.output, hgrow2.size, fun k hk => hgrow2.block k hk (by rintro ⟨⟩)⟩)
         have O2 := veil hown2
         clear hown2 hgrow2)
      | (with_reducible (show wpList _ _ _ (⟨some 27, Op.call _, _, _, _, _⟩ :: _) _ _)
         refine append_slW rfl _ _ 28 rfl w1.heap.size i0 Tryd.underlying28 hi hz0 hz1 hz2 (.slice a2 q.len c2) q.len q.b rfl O2.out m (M1.out.below B2.out) rfl (by have := HQL.out; have := LM.out; omega) B2.out.size ?_
         intro v3 w3 hown3 hgrow3
         obtain ⟨a3, c3, rfl⟩ := own_shapeF hown3
         have B3 := veil (show Below w1.heap.size w1 w3 from B2.out.trans ⟨hgrow3.os, hgrow3.tape, hgrow3.output, hgrow3.size, fun k hk => hgrow3.block k (Nat.lt_of_lt_of_le hk B2.out.size) (fun e => by
           have := (O2.out.lt k e.symm).1
           omega)⟩)
         have O3 := veil hown3
         clear hown3 hgrow3 O2))
    obtain ⟨z, hz, hzl, hzb, hzok, _⟩ := SL.of_own O3.out
    have hz' : (.slice a3 (q.len + m.len) c3 : Value) = .slice z.a z.len z.cap := hz.symm
    rw [hz']
    have HZ := veil hzok
    have hgz : He.got z.b = (h, h.bytes.length, 0) := by rw [hzb, HQB.out]; exact HG.out
    have lz : z.len ≤ 140737488355328 := by have := HQL.out; have := LM.out; omega
    have B4 := veil (B1.out.trans (B3.out.mono B1.out.size))
    have R4 := veil (R1.out.below B3.out R1.out.lt)
    clear O3 hz hz' hzb hzok hzl R1 M1 B2 B3
    refine (heGet_any z w3 HZ.out lz (HL.out.step B4.out)).mono ?_
    rintro e5 w5 h5
    obtain ⟨rfl, bb5⟩ := h5.val hgz
    have B5 := veil (B4.out.trans (bb5.mono B4.out.size))
    have R5 := veil (R4.out.below bb5 R4.out.lt)
    have hlt5 := R5.out.lt
    obtain ⟨W6, hW6⟩ : ∃ W6, W6 = w5.alloc (.cells (heC h) 27) := ⟨_, rfl⟩
    have r6 : Row W6 w.heap.size 27 (heC h) := by rw [hW6]; exact R5.out.alloc _
    have x6 : Row W6 w5.heap.size 27 (heC h) := by rw [hW6]; exact Row.new _ _ _
    have B6 := veil (show Below w.heap.size w W6 by rw [hW6]; exact B5.out.alloc B5.out.size _)
    have R6 := veil r6
    have X6 := veil x6
    rw [hW6] at R6 X6 B6
    clear hgz lz HZ R4 B4 bb5 h5 r6 x6 hW6 B5 R5
    go_wp2_with (first
      | (with_reducible (show wpList _ _ _ (⟨_, Op.store 27 (.tmp 7) _, _, _, _, _⟩ :: _) _ _)
         refine store_new rfl 27 _ _ rfl w5.heap.size (heC h) rfl rfl _ _ rfl 69 (by kernel_rfl) (by kernel_rfl) (heC_size HF.out) (he_one _) ?_)
      | (with_reducible (show wpList _ _ _ (⟨some 41, Op.load 27 _, _, _, _, _⟩ :: _) _ _)
         refine value_G (by rfl) (.agg (heC h)) (lgRun_row 27 _ rfl w5.heap.size rfl _ _ 69 _ Tryd.underlying27 (by kernel_rfl) (heC_size HF.out) _ X6.out) ?_)
      | (with_reducible (show wpList _ _ _ (⟨some 42, Op.load 27 _, _, _, _, _⟩ :: _) _ _)
         refine value_G (by rfl) (.agg (heC h)) (lgRun_row 27 _ rfl w.heap.size rfl _ _ 69 _ Tryd.underlying27 (by kernel_rfl) (heC_size HF.out) _ R6.out) ?_)
      | (with_reducible (show wpList _ _ _ (⟨some 43, Op.binOp _ _ _ _ _, _, _, _, _⟩ :: _) _ _)
         refine value_G (by rfl) (.bool true) (eqlH_self (.tmp 41) (.tmp 42) _ h HF.out rfl rfl rfl _) ?_))
    refine (lives_any _ (HL.out.step B6.out)).mono ?_
    rintro e7 w7 ⟨rfl, bb7⟩
    have B7 := veil (B6.out.trans (bb7.mono B6.out.size))
    clear bb7
    go_wp2_with fail
    go_ret
    exact ⟨rfl, B7.out⟩
  · have e1 : He.putO h = [] := by unfold He.putO; rw [if_neg hmay]
    have e2 : He.putE h = 1 := by unfold He.putE; rw [if_neg hmay]
    rw [e1, e2]
    clear e1 e2 o1 bb1 hmay
    go_wp2_with fail
    refine (lives_any w1 (HL.out.step B1.out)).mono ?_
    rintro e7 w7 ⟨rfl, bb7⟩
    have B7 := veil (B1.out.trans (bb7.mono B1.out.size))
    clear bb7
    go_wp2_with fail
    go_ret
    exact ⟨rfl, B7.out⟩
end Go.Proofs.YtjccjlhnjihfjaaDoor
