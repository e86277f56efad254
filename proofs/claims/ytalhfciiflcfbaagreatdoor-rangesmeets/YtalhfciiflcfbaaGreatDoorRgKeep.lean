/-
  What Keep answers: the program's and the document's. Written by mkkeep8.py.
-/
import Derived.Test.YtalhfciiflcfbaaGreatDoorRgRefG
namespace Go.Proofs.YtalhfciiflcfbaaGreatDoor
open Go Go.RowKit Go.Shelf

/-- The last ranges of a set, or a refusal. -/
def KeepR (l : List (Nat × Nat)) (n : Int) (out : List (Nat × Nat)) (E : Int) : Prop :=
  (¬ (Rg.setOk l ∧ 0 ≤ n ∧ n ≤ 64) ∧ out = [] ∧ E = 1) ∨ ((Rg.setOk l ∧ 0 ≤ n ∧ n ≤ 64) ∧ out = l.drop (l.length - min n.toNat l.length) ∧ E = 0)
theorem keep_unique {l o o' : List (Nat × Nat)} {n E E' : Int} (h : KeepR l n o E) (h' : KeepR l n o' E') : o = o' ∧ E = E' := by
  rcases h with ⟨n1, rfl, rfl⟩ | ⟨y1, rfl, rfl⟩ <;> rcases h' with ⟨n2, rfl, rfl⟩ | ⟨y2, rfl, rfl⟩
  · exact ⟨rfl, rfl⟩
  · exact absurd y2 n1
  · exact absurd y1 n2
  · exact ⟨rfl, rfl⟩
theorem keep_len {l o : List (Nat × Nat)} {n E : Int} (h : KeepR l n o E) : o.length ≤ 64 := by
  rcases h with ⟨_, rfl, _⟩ | ⟨⟨y, _, _⟩, rfl, _⟩
  · simp
  · have := y.1
    rw [List.length_drop]
    omega
/-- What is left of ranges from a place on. -/
def cutR (s : RL) (d : Nat) : RL := ⟨match s.a with | none => none | some ad => if d = s.cap then some ad else some (ad.add (d * 2)), s.len - d, s.cap - d, s.g, s.off + d * 2, s.l.drop d⟩
theorem cutR_ok {w : World} {s : RL} (h : s.Ok w) (d : Nat) (hd : d ≤ s.len) : (cutR s d).Ok w := by
  have hc := h.hcap
  have gd : ∀ j, gr (s.l.drop d) j = gr s.l (d + j) := fun j => by unfold gr; rw [List.getElem?_drop]
  refine ⟨?_, ?_, fun q => ?_, fun p => ?_, fun p => ?_, fun j hj => ?_, fun j => ?_⟩
  · show (s.l.drop d).length = s.len - d; rw [List.length_drop, h.hb]
  · show s.len - d ≤ s.cap - d; omega
  · cases ha : s.a with
    | none =>
      obtain ⟨h1, h2⟩ := h.nil ha
      show s.len - d = 0 ∧ s.cap - d = 0
      omega
    | some ad =>
      unfold cutR at q
      rw [ha] at q
      simp only at q
      split at q <;> cases q
  · have p' : 0 < s.len - d := p
    have ha := h.at_ (by omega)
    unfold cutR
    rw [ha]
    simp only
    rw [if_neg (by omega), Addr.add_mid]
  · have p' : 0 < s.len - d := p
    exact h.lt (by omega)
  · have hj' : j < s.len - d := hj
    have hq := h.cell (d + j) (by omega)
    show w.cell? ⟨s.g, s.off + d * 2 + j * 2, none⟩ = some (.int .u64 ((gr (s.l.drop d) j).1 : Int)) ∧ w.cell? ⟨s.g, s.off + d * 2 + j * 2 + 1, none⟩ = some (.int .u64 ((gr (s.l.drop d) j).2 : Int))
    rw [gd, show s.off + d * 2 + j * 2 = s.off + (d + j) * 2 by omega]
    exact hq
  · show (gr (s.l.drop d) j).1 < _ ∧ (gr (s.l.drop d) j).2 < _
    rw [gd]
    exact h.small _
section
variable {P : Program} {a : Act} {o : Oper}
theorem run_cutR (t e : TypeId) (x lo : Operand) (s : RL) (d : Nat) (ho : o.op = .slice t x (some lo) none none) (hx : a.eval x = .slice s.a s.len s.cap) (hh : a.eval lo = .int .i64 (d : Int)) (hu : P.underlying t = some (.slice e)) (hi1 : (P.info? e).map (·.size) = some 2) (W : World) (hs : s.Ok W) (hn : d ≤ s.len) :
    (execOp a.eval o).run P W = .ok (.value (.slice (cutR s d).a (cutR s d).len (cutR s d).cap)) W := by
  have hsz : (sizeOf e).run P W = .ok 2 W := by
    cases hq : P.info? e with
    | none => simp [hq] at hi1
    | some i =>
      have : i.size = 2 := by simpa [hq] using hi1
      simp [sizeOf, typeInfo, hq, this]
  unfold execOp cutR
  cases ha : s.a with
  | none =>
    obtain ⟨h1, h2⟩ := hs.nil ha
    obtain rfl : d = 0 := by omega
    rw [ha, h1, h2] at hx
    simp [ho, hx, hh, h1, h2, Instr.sliceAt, Instr.slice, Instr.sliceBounds, Instr.sliceBound, asIntOf, run_underlying hu, hsz]
  | some ad =>
    rw [ha] at hx
    have hc := hs.hcap
    by_cases e' : d = s.cap
    · simp [ho, hx, hh, Instr.sliceAt, Instr.slice, Instr.sliceBounds, Instr.sliceBound, asIntOf, run_underlying hu, hsz, hn, e'.symm]
    · simp [ho, hx, hh, Instr.sliceAt, Instr.slice, Instr.sliceBounds, Instr.sliceBound, asIntOf, run_underlying hu, hsz, hn, e', show ¬ s.cap = d from fun q => e' q.symm]
theorem run_minI (x y : Operand) (t : TypeId) (p q : Nat) (ho : o.op = .call { callee := .builtin .min, args := #[x, y], argTypes := #[t, t] }) (hx : a.eval x = .int .i64 (p : Int)) (hy : a.eval y = .int .i64 (q : Int)) (W : World) : (execOp a.eval o).run P W = .ok (.value (.int .i64 ((min p q : Nat) : Int))) W := by
  unfold execOp
  simp only [ho, resolve, invoke, builtin, List.map_toArray, List.map_cons, List.map_nil, hx, hy]
  go_simp
  by_cases h : p ≤ q
  · simp [Nat.min_eq_left h]; omega
  · simp [Nat.min_eq_right (show q ≤ p by omega)]; omega
theorem run_maxI (x y : Operand) (t : TypeId) (z : Int) (d : Nat) (hz : (d : Int) = max 0 z) (ho : o.op = .call { callee := .builtin .max, args := #[x, y], argTypes := #[t, t] }) (hx : a.eval x = .int .i64 0) (hy : a.eval y = .int .i64 z) (W : World) : (execOp a.eval o).run P W = .ok (.value (.int .i64 (d : Int))) W := by
  unfold execOp
  simp only [ho, resolve, invoke, builtin, List.map_toArray, List.map_cons, List.map_nil, hx, hy]
  go_simp
  by_cases h : 0 ≤ z
  · first | omega | (simp; omega) | (congr 1; omega) | (split <;> first | omega | (congr 2; omega) | (simp; omega))
  · first | omega | (simp; omega) | (congr 1; omega) | (split <;> first | omega | (congr 2; omega) | (simp; omega))
end
section
variable {F : Fence} {n : Nat} {P : Program} {ops : Array Oper} {rest : List Oper} {o : Oper} {a : Act} {w : World} {Q : Exit → Act → World → Prop}
theorem val_In (hgd : o.guard = none) (hab : o.about P w a.eval = none) (hd : ∀ c, o.op ≠ .defer c) (v : Value) (hr : (execOp a.eval o).run P w = .ok (.value v) w) (h : wpListIn F n P ops Q rest (a.put o.dst v) w) : wpListIn F n P ops Q (o :: rest) a w := by
  refine wpListIn_plain hgd fun K hK => ⟨(fun f hf => by rw [hab] at hf; cases hf), ?_⟩
  rw [Oper.semAt_eq _ _ _ hd, hr]
  exact hK _ _ h
end
section
variable {F : Fence} {n : Nat} {ops : Array Oper} {rest : List Oper} {o : Oper} {a : Act} {w : World} {Q : Exit → Act → World → Prop}
set_option maxRecDepth 20000 in
theorem cut_rlIn (hgd : o.guard = none) (x lo : Operand) (ho : o.op = .slice 22 x (some lo) none none) (s : RL) (hx : a.eval x = .slice s.a s.len s.cap) (d : Nat) (hh : a.eval lo = .int .i64 (d : Int)) (hs : s.Ok w) (hn : d ≤ s.len)
    (h : wpListIn F n Tryz.prog ops Q rest (a.put o.dst (.slice (cutR s d).a (cutR s d).len (cutR s d).cap)) w) : wpListIn F n Tryz.prog ops Q (o :: rest) a w :=
  val_In hgd (about_none (by intro c h; rw [ho] at h; cases h)) (by intro c h; rw [ho] at h; cases h) _ (run_cutR 22 25 x lo s d ho hx hh Tryz.underlying22 (by kernel_rfl) w hs hn) h
end

set_option maxRecDepth 20000 in
set_option maxHeartbeats 1000000 in
theorem rg_keep (s : RL) (n : Int) (w : World) (hs : s.Ok w) (hn1 : -9223372036854775808 ≤ n) (hn2 : n ≤ 9223372036854775807) :
    Calls Tryz.prog 18 #[.slice s.a s.len s.cap, .int .i64 n] w fun e w' => ∃ (o : RL) (E : Int), e = .returned (.tuple #[.slice o.a o.len o.cap, .int .i64 E]) ∧ KeepR s.l n o.l E ∧ AnsR w.heap.size w' o ∧ Below w.heap.size w w' := by
  have HS := veil hs
  have HCK := veil (rg_check s w hs)
  clear hs
  by_cases hno : ¬ Rg.setOk s.l
  · have HN := veil (show KeepR s.l n [] 1 from .inl ⟨fun h => hno h.1, rfl, rfl⟩)
    go_enter Tryz.func18, Tryz.ntmps18
    go_wp2_with fail
    refine HCK.out.mono ?_
    rintro e1 w1 ⟨hc1, hb1⟩
    have HB1 := veil hb1
    clear hb1
    rcases hc1 with ⟨rfl, h⟩ | ⟨rfl, _⟩
    · exact absurd h hno
    · clear hno
      go_wp2_with fail
      go_ret2
      exact ⟨⟨none, 0, 0, 0, 0, []⟩, 1, rfl, HN.out, ans_nil _ _, HB1.out⟩
  have HSET := veil (Classical.not_not.1 hno)
  clear hno
  by_cases h0 : n < 0
  · have d0 : decide (n < 0) = true := by simp; omega
    have HN := veil (show KeepR s.l n [] 1 from .inl ⟨fun h => by omega, rfl, rfl⟩)
    clear h0
    go_enter Tryz.func18, Tryz.ntmps18
    go_wp2_with fail
    refine HCK.out.mono ?_
    rintro e1 w1 ⟨hc1, hb1⟩
    have HB1 := veil hb1
    clear hb1
    rcases hc1 with ⟨rfl, _⟩ | ⟨rfl, h⟩
    · skip
      go_wp2_with fail
      go_ret2
      exact ⟨⟨none, 0, 0, 0, 0, []⟩, 1, rfl, HN.out, ans_nil _ _, HB1.out⟩
    · exact absurd HSET.out h
  have d0 : decide (n < 0) = false := by simp; omega
  by_cases h64 : 64 < n
  · have d1 : decide ((64 : Int) < n) = true := by simp; omega
    have HN := veil (show KeepR s.l n [] 1 from .inl ⟨fun h => by omega, rfl, rfl⟩)
    clear h0 h64
    go_enter Tryz.func18, Tryz.ntmps18
    go_wp2_with fail
    refine HCK.out.mono ?_
    rintro e1 w1 ⟨hc1, hb1⟩
    have HB1 := veil hb1
    clear hb1
    rcases hc1 with ⟨rfl, _⟩ | ⟨rfl, h⟩
    · skip
      go_wp2_with fail
      go_ret2
      exact ⟨⟨none, 0, 0, 0, 0, []⟩, 1, rfl, HN.out, ans_nil _ _, HB1.out⟩
    · exact absurd HSET.out h
  obtain ⟨m, rfl⟩ : ∃ m : Nat, n = (m : Int) := ⟨n.toNat, by omega⟩
  have d1 : decide ((64 : Int) < (m : Int)) = false := by simp; omega
  have d2 : decide (64 < m) = false := by simp; omega
  have hm64 : m ≤ 64 := by omega
  have hlen : s.l.length = s.len := HS.out.hb
  have hl64 : s.len ≤ 64 := by rw [← hlen]; exact HSET.out.1
  obtain ⟨d, hd⟩ : ∃ d, d = s.len - min m s.len := ⟨_, rfl⟩
  have hdl : d ≤ s.len := by omega
  have HR := veil (show KeepR s.l (m : Int) (s.l.drop d) 0 from .inr ⟨⟨HSET.out, by omega, by omega⟩, by rw [Int.toNat_natCast, hlen, ← hd], rfl⟩)
  have HD := veil hd
  have O0 : Hid (∀ W : World, W.ownsRow w.heap.size 25 2 (.slice none 0 0) ([] : List (Nat × Nat)).length (vr [])) := fun W => ⟨rfl, .inl ⟨rfl, rfl⟩⟩
  have HSM := veil (show ∀ j, (gr (s.l.drop d) j).1 < 18446744073709551616 ∧ (gr (s.l.drop d) j).2 < 18446744073709551616 from fun j => by
    have := HS.out.small (d + j)
    unfold gr at this ⊢
    rw [List.getElem?_drop]
    exact this)
  clear h0 h64 hd hlen
  refine (callsIn_wide (n := 4)).1 ?_
  refine callsIn_of_wp Tryz.func18 rfl trivial ?_ rfl
  simp only [Tryz.ntmps18, List.size_toArray, List.length_cons, List.length_nil, Nat.reduceAdd, Nat.reduceSub, Array.replicate_succ, Array.replicate_zero, List.push_toArray, List.append_toArray, List.nil_append, List.cons_append]
  gi_wp2_with fail
  refine ⟨trivial, (callsIn_wide.2 HCK.out).mono ?_⟩
  rintro e1 w1 ⟨hc1, hb1⟩
  obtain rfl : e1 = .returned (.bool true) := by
    rcases hc1 with ⟨h, _⟩ | ⟨_, h⟩
    · exact h
    · exact absurd HSET.out h
  have HB1 := veil hb1
  have HS1 := veil (HS.out.below hb1)
  clear hb1 hc1
  gi_wp2_with (first
    | (with_reducible (show wpListIn _ _ _ _ _ (⟨some 23, Op.call _, _, _, _, _⟩ :: _) _ _)
       refine val_In rfl (about_builtin _ _ _ rfl) (by intro c h; cases h) (.int .i64 ((min m s.len : Nat) : Int)) (run_minI _ _ 3 m s.len rfl rfl rfl _) ?_)
    | (with_reducible (show wpListIn _ _ _ _ _ (⟨some 24, Op.binOp _ _ _ _ _, _, _, _, _⟩ :: _) _ _)
       refine val_In rfl (about_none (by intro c h; cases h)) (by intro c h; cases h) (.int .i64 (d : Int)) (run_subI 3 3 _ _ s.len (min m s.len) d (by have := HD.out; omega) (by omega) rfl rfl rfl _) ?_)
    | (with_reducible (show wpListIn _ _ _ _ _ (⟨some 25, Op.slice _ _ _ _ _, _, _, _, _⟩ :: _) _ _)
       refine cut_rlIn rfl _ _ rfl s rfl d (by rfl) HS1.out hdl ?_)
    | (with_reducible (show wpListIn _ _ _ _ _ (⟨some 26, Op.call _, _, _, _, _⟩ :: _) _ _)
       refine append_rlIn rfl _ _ rfl w.heap.size (.slice none 0 0) [] rfl (O0.out _) (cutR s d) (cutR_ok HS1.out d hdl) rfl (by show 0 + (s.len - d) ≤ _; omega) HB1.out.size ?_
       intro v2 w2 hown2 hgrow2
       rw [List.nil_append] at hown2
       have hb2 : Below w.heap.size w w2 := HB1.out.grown hgrow2 HB1.out.size (fun k e => by cases e)
       obtain ⟨a2, c2, rfl, _⟩ := own_slice hown2
       obtain ⟨g2, ANS⟩ := ans_of_own hown2 rfl HSM.out
       have HANS := veil ANS
       have HB2 := veil hb2
       clear hown2 hgrow2 hb2 ANS))
  go_ret2
  exact ⟨_, 0, rfl, HR.out, HANS.out, HB2.out⟩

set_option maxRecDepth 20000 in
set_option maxHeartbeats 1000000 in
theorem ref_keep8 (s : RL) (n : Int) (w : World) (hs : s.Ok w) (hn1 : -9223372036854775808 ≤ n) (hn2 : n ≤ 9223372036854775807) :
    Calls Tryz.prog 20 #[.slice s.a s.len s.cap, .int .i64 n] w fun e w' => ∃ (o : RL) (E : Int), e = .returned (.tuple #[.slice o.a o.len o.cap, .int .i64 E]) ∧ KeepR s.l n o.l E ∧ AnsR w.heap.size w' o ∧ Below w.heap.size w w' := by
  have HS := veil hs
  have HCK := veil (ref_check8 s w hs)
  clear hs
  by_cases hno : ¬ Rg.setOk s.l
  · have HN := veil (show KeepR s.l n [] 1 from .inl ⟨fun h => hno h.1, rfl, rfl⟩)
    go_enter Tryz.func20, Tryz.ntmps20
    go_wp2_with fail
    refine HCK.out.mono ?_
    rintro e1 w1 ⟨hc1, hb1⟩
    have HB1 := veil hb1
    clear hb1
    rcases hc1 with ⟨rfl, h⟩ | ⟨rfl, _⟩
    · exact absurd h hno
    · clear hno
      go_wp2_with fail
      go_ret2
      exact ⟨⟨none, 0, 0, 0, 0, []⟩, 1, rfl, HN.out, ans_nil _ _, HB1.out⟩
  have HSET := veil (Classical.not_not.1 hno)
  clear hno
  by_cases h0 : n < 0
  · have d0 : decide (n < 0) = true := by simp; omega
    have HN := veil (show KeepR s.l n [] 1 from .inl ⟨fun h => by omega, rfl, rfl⟩)
    clear h0
    go_enter Tryz.func20, Tryz.ntmps20
    go_wp2_with fail
    refine HCK.out.mono ?_
    rintro e1 w1 ⟨hc1, hb1⟩
    have HB1 := veil hb1
    clear hb1
    rcases hc1 with ⟨rfl, _⟩ | ⟨rfl, h⟩
    · skip
      go_wp2_with fail
      go_ret2
      exact ⟨⟨none, 0, 0, 0, 0, []⟩, 1, rfl, HN.out, ans_nil _ _, HB1.out⟩
    · exact absurd HSET.out h
  have d0 : decide (n < 0) = false := by simp; omega
  by_cases h64 : 64 < n
  · have d1 : decide ((64 : Int) < n) = true := by simp; omega
    have HN := veil (show KeepR s.l n [] 1 from .inl ⟨fun h => by omega, rfl, rfl⟩)
    clear h0 h64
    go_enter Tryz.func20, Tryz.ntmps20
    go_wp2_with fail
    refine HCK.out.mono ?_
    rintro e1 w1 ⟨hc1, hb1⟩
    have HB1 := veil hb1
    clear hb1
    rcases hc1 with ⟨rfl, _⟩ | ⟨rfl, h⟩
    · skip
      go_wp2_with fail
      go_ret2
      exact ⟨⟨none, 0, 0, 0, 0, []⟩, 1, rfl, HN.out, ans_nil _ _, HB1.out⟩
    · exact absurd HSET.out h
  obtain ⟨m, rfl⟩ : ∃ m : Nat, n = (m : Int) := ⟨n.toNat, by omega⟩
  have d1 : decide ((64 : Int) < (m : Int)) = false := by simp; omega
  have d2 : decide (64 < m) = false := by simp; omega
  have hm64 : m ≤ 64 := by omega
  have hlen : s.l.length = s.len := HS.out.hb
  have hl64 : s.len ≤ 64 := by rw [← hlen]; exact HSET.out.1
  obtain ⟨d, hd⟩ : ∃ d, d = s.len - min m s.len := ⟨_, rfl⟩
  have hdl : d ≤ s.len := by omega
  have HR := veil (show KeepR s.l (m : Int) (s.l.drop d) 0 from .inr ⟨⟨HSET.out, by omega, by omega⟩, by rw [Int.toNat_natCast, hlen, ← hd], rfl⟩)
  have HD := veil hd
  have hw : IntKind.i64.wrap ((s.len : Int) - (m : Int)) = (s.len : Int) - (m : Int) := by rw [IntKind.wrap_i64]; omega
  have O0 : Hid (∀ W : World, W.ownsRow w.heap.size 25 2 (.slice none 0 0) ([] : List (Nat × Nat)).length (vr [])) := fun W => ⟨rfl, .inl ⟨rfl, rfl⟩⟩
  have HSM := veil (show ∀ j, (gr (s.l.drop d) j).1 < 18446744073709551616 ∧ (gr (s.l.drop d) j).2 < 18446744073709551616 from fun j => by
    have := HS.out.small (d + j)
    unfold gr at this ⊢
    rw [List.getElem?_drop]
    exact this)
  clear h0 h64 hd hlen
  refine (callsIn_wide (n := 4)).1 ?_
  refine callsIn_of_wp Tryz.func20 rfl trivial ?_ rfl
  simp only [Tryz.ntmps20, List.size_toArray, List.length_cons, List.length_nil, Nat.reduceAdd, Nat.reduceSub, Array.replicate_succ, Array.replicate_zero, List.push_toArray, List.append_toArray, List.nil_append, List.cons_append]
  gi_wp2_with fail
  refine ⟨trivial, (callsIn_wide.2 HCK.out).mono ?_⟩
  rintro e1 w1 ⟨hc1, hb1⟩
  obtain rfl : e1 = .returned (.bool true) := by
    rcases hc1 with ⟨h, _⟩ | ⟨_, h⟩
    · exact h
    · exact absurd HSET.out h
  have HB1 := veil hb1
  have HS1 := veil (HS.out.below hb1)
  clear hb1 hc1
  gi_wp2_with (first
    | (with_reducible (show wpListIn _ _ _ _ _ (⟨some 24, Op.call _, _, _, _, _⟩ :: _) _ _)
       refine val_In rfl (about_builtin _ _ _ rfl) (by intro c h; cases h) (.int .i64 (d : Int)) (run_maxI _ _ 3 ((s.len : Int) - (m : Int)) d (by have := HD.out; omega) rfl rfl rfl _) ?_)
    | (with_reducible (show wpListIn _ _ _ _ _ (⟨some 25, Op.slice _ _ _ _ _, _, _, _, _⟩ :: _) _ _)
       refine cut_rlIn rfl _ _ rfl s rfl d (by rfl) HS1.out hdl ?_)
    | (with_reducible (show wpListIn _ _ _ _ _ (⟨some 26, Op.call _, _, _, _, _⟩ :: _) _ _)
       refine append_rlIn rfl _ _ rfl w.heap.size (.slice none 0 0) [] rfl (O0.out _) (cutR s d) (cutR_ok HS1.out d hdl) rfl (by show 0 + (s.len - d) ≤ _; omega) HB1.out.size ?_
       intro v2 w2 hown2 hgrow2
       rw [List.nil_append] at hown2
       have hb2 : Below w.heap.size w w2 := HB1.out.grown hgrow2 HB1.out.size (fun k e => by cases e)
       obtain ⟨a2, c2, rfl, _⟩ := own_slice hown2
       obtain ⟨g2, ANS⟩ := ans_of_own hown2 rfl HSM.out
       have HANS := veil ANS
       have HB2 := veil hb2
       clear hown2 hgrow2 hb2 ANS))
  go_ret2
  exact ⟨_, 0, rfl, HR.out, HANS.out, HB2.out⟩
end Go.Proofs.YtalhfciiflcfbaaGreatDoor
