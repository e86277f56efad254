/-
  Out of LgNum, LgFind, LgCut.
-/
import Derived.Test.YtohoieleakieeaaGreatDoorGlLgRead

/-! The numbers of packets; is one of several such? -/
namespace Go.Proofs.YtohoieleakieeaaGreatDoor
open Go Go.RowKit

/-- One packet of a list. -/
theorem way_at {w : World} {a : Option Addr} {n cap : Nat} {l : List Lg.Pk} {e : TypeId} (h : RowO w e 4 (.slice a n cap) n (vp l)) {k : Nat} {p : Lg.Pk} (hk : l[k]? = some p) : ∃ g o, a = some ⟨g, o, none⟩ ∧ g < w.heap.size ∧
    w.cell? ⟨g, o + k * 4, none⟩ = some (.int .u64 (p.num : Int)) ∧ w.cell? ⟨g, o + k * 4 + 1, none⟩ = some (.int .i64 (p.size : Int)) ∧ w.cell? ⟨g, o + k * 4 + 2, none⟩ = some (.int .u64 (p.time : Int)) ∧ w.cell? ⟨g, o + k * 4 + 3, none⟩ = some (.bool p.asks) := by
  have at_ : ∀ q u, q < 4 → (pkC p)[q]? = some u → ∃ g o, a = some ⟨g, o, none⟩ ∧ w.cell? ⟨g, o + (k * 4 + q), none⟩ = some u := fun q u hq hu => h.cells (k * 4 + q) u ((vp_at l k p hk q hq).trans hu)
  obtain ⟨g, o, e0, c0⟩ := at_ 0 _ (by decide) rfl
  obtain ⟨g1, o1, e1, c1⟩ := at_ 1 _ (by decide) rfl
  obtain ⟨g2, o2, e2, c2⟩ := at_ 2 _ (by decide) rfl
  obtain ⟨g3, o3, e3, c3⟩ := at_ 3 _ (by decide) rfl
  rw [e0] at e1 e2 e3
  injection e1 with e1
  injection e1 with e1 f1
  injection e2 with e2
  injection e2 with e2 f2
  injection e3 with e3
  injection e3 with e3 f3
  subst e1 f1 e2 f2 e3 f3
  exact ⟨g, o, e0, h.lt g (by rw [e0]; rfl), c0, c1, c2, c3⟩
def vnum (l : List Nat) : List Value := l.map fun n : Nat => Value.int .u64 (n : Int)
theorem Tryz.infoNu : (Tryz.prog.info? 23).map (fun i => (i.zero, i.size, i.bytes)) = some (some (.int .u64 0), 1, 8) := by kernel_rfl
theorem nu_info : ∃ i0, Tryz.prog.info? 23 = some i0 ∧ i0.zero = some (.int .u64 0) ∧ i0.size = 1 ∧ i0.bytes = 8 := by
  have h := Tryz.infoNu
  cases hq : Tryz.prog.info? 23 with
  | none => rw [hq] at h; cases h
  | some i =>
    rw [hq] at h
    simp only [Option.map_some, Option.some.injEq, Prod.mk.injEq] at h
    exact ⟨i, rfl, h.1, h.2.1, h.2.2⟩
theorem nu_append (w : World) (ty : TypeId) (base : Nat) (v : Value) (l : List Nat) (x : Nat) (b : Nat) (h : w.ownsRow base 23 1 v l.length (vnum l)) (hr : w.cell? ⟨b, 0, none⟩ = some (.int .u64 (x : Int))) (hl : l.length ≤ 100000) (hb : base ≤ w.heap.size) :
    ∃ v' w', (Builtin.append_ #[49, 49] ty #[v, .slice (some ⟨b, 0, none⟩) 1 1]).run Tryz.prog w = .ok v' w' ∧ w'.ownsRow base 23 1 v' (l ++ [x]).length (vnum (l ++ [x])) ∧ w.grownBy w' v.ownBlock ∧ (v'.ownBlock = v.ownBlock ∨ v'.ownBlock = some w.heap.size) := by
  obtain ⟨i0, h1, h2, h3, h4⟩ := nu_info
  obtain ⟨v', w', a1, a2, a3, _, a4⟩ := run_append_own_at (P := Tryz.prog) w base 49 ty 23 i0 _ 1 8 Tryz.underlying49 h1 h2 h3 h4 rfl (by decide) v l.length (vnum l) h ⟨b, 0, none⟩ 1 1 [.int .u64 (x : Int)] rfl (fun j u hu => by
    match j with
    | 0 => rw [← Option.some.inj hu, Addr.add_mid]; exact hr
    | _ + 1 => simp at hu) (fun u hu => by rw [List.mem_singleton.1 hu]; rfl) (by unfold maxLen; omega) (by omega) hb
  refine ⟨v', w', a1, ?_, a3, a4⟩
  rw [List.length_append, List.length_singleton]
  unfold vnum
  rw [List.map_append]
  exact a2
theorem below_grown {B : Nat} {w w' : World} {v : Value} (h : w.grownBy w' v.ownBlock) (hv : ∀ k, v.ownBlock = some k → B ≤ k) (hB : B ≤ w.heap.size) : Below B w w' :=
  ⟨h.os, h.tape, h.output, h.size, fun k hk => h.block k (by omega) (fun e => by have := hv k e.symm; omega)⟩
set_option maxRecDepth 20000 in
set_option maxHeartbeats 1000000 in
theorem numbers_any (v : Value) (l : List Lg.Pk) (w : World) (h : RowO w 78 4 v l.length (vp l)) (hl : l.length ≤ 100000) :
    Calls Tryz.prog 32 #[v] w fun e w' => ∃ u, e = .returned u ∧ w'.ownsRow w.heap.size 23 1 u l.length (vnum (l.map (·.num))) ∧ Below w.heap.size w w' := by
  obtain ⟨a, cap, rfl, _, _⟩ := h.shape
  obtain ⟨n, hn⟩ : ∃ n, l.length = n := ⟨_, rfl⟩
  rw [hn] at h ⊢
  have H := veil h
  have HN := veil hn
  have HL := veil hl
  have hn5 : n ≤ 100000 := by rw [← hn]; exact hl
  clear h hn hl
  go_enter Tryz.func32, Tryz.ntmps32
  go_wp2_with fail
  go_loopw [2, 7] (fun uv iv wr => ∃ (k : Nat) (ov : Value), k ≤ n ∧ iv = .int .i64 k ∧ uv = ov ∧ wr.ownsRow w.heap.size 23 1 ov k (vnum ((l.take k).map (·.num))) ∧ Below w.heap.size w wr)
    (fun _ iv _ => n - (intOf iv).toNat)
  case atStart => exact ⟨0, _, Nat.zero_le _, rfl, rfl, by rw [List.take_zero]; exact World.ownsRow_nil _ _ _ _, Below.refl _ _⟩
  case round =>
    obtain ⟨k, ov, hk, rfl, hov, hown, hbel⟩ := hrel
    symm at hov
    subst hov
    by_cases hlt : k < n
    · have hkl : k < l.length := by rw [HN.out]; exact hlt
      obtain ⟨p, hget⟩ : ∃ p, l[k]? = some p := ⟨_, List.getElem?_eq_getElem hkl⟩
      obtain ⟨g, o, rfl, _, x0, x1, x2, x3⟩ := way_at (H.out.below hbel) hget
      have hlen : ((l.take k).map (·.num)).length = k := by rw [List.length_map, List.length_take]; omega
      have htk : (l.take (k + 1)).map (·.num) = (l.take k).map (·.num) ++ [p.num] := by rw [List.take_add_one, hget, List.map_append]; rfl
      obtain ⟨W1, hW1⟩ : ∃ W1, W1 = wr.alloc (.cells #[.int .u64 (p.num : Int), .int .i64 (p.size : Int), .int .u64 (p.time : Int), .bool p.asks] 78) := ⟨_, rfl⟩
      have hb1 : Below w.heap.size w W1 := by rw [hW1]; exact hbel.alloc hbel.size _
      have hb2 := hb1.alloc hb1.size (.cells #[.int .u64 (p.num : Int)] 23)
      have hown2 : (W1.alloc (.cells #[.int .u64 (p.num : Int)] 23)).ownsRow w.heap.size 23 1 ov ((l.take k).map (·.num)).length (vnum ((l.take k).map (·.num))) := by
        rw [hlen, hW1]
        exact own_below2 (own_below2 hown ((Below.refl _ _).alloc (Nat.le_refl _) _)) ((Below.refl _ _).alloc (Nat.le_refl _) _)
      obtain ⟨v', w', a1, a2, a3, a4⟩ := nu_append _ 49 w.heap.size ov _ p.num W1.heap.size hown2 ((Row.new W1 23 #[.int .u64 (p.num : Int)]).cell 0) (by rw [hlen]; have := HL.out; omega) hb2.size
      have hb3 : Below w.heap.size w w' := hb2.trans (below_grown a3 (fun q hq => (hown2.lt q hq).1) hb2.size)
      rw [← htk, show ((l.take (k + 1)).map (·.num)).length = k + 1 by rw [List.length_map, List.length_take]; omega] at a2
      have HO := veil a2
      have HB := veil hb3
      have HLt := veil hlt
      rw [show W1.heap.size = wr.heap.size + 1 by rw [hW1]; simp] at a1
      subst hW1
      have A1 := veil a1
      clear a1
      clear hown hbel hkl hget hlen htk hb1 hb2 hown2 a2 a3 a4 hb3
      go_wp2_with (with_reducible (show wpList _ _ _ (⟨some 15, Op.call _, _, _, _, _⟩ :: _) _ _)
                   refine wpL_append rfl _ _ _ rfl _ _ _ _ rfl rfl A1.out ?_)
      go_roundw
      case rel => exact ⟨k + 1, _, by have := HLt.out; omega, by go_num, rfl, HO.out, HB.out⟩
      case measure => have := HLt.out; simp [intOf]; omega
    · have e : k = n := by omega
      subst e
      have hto : l.take k = l := by rw [← HN.out]; exact List.take_length
      rw [hto] at hown
      have HO := veil hown
      have HB := veil hbel
      clear hto hown hbel hlt
      go_wp2
      go_ret
      exact ⟨_, rfl, HO.out, HB.out⟩
end Go.Proofs.YtohoieleakieeaaGreatDoor

/-! Written by mklgfind.py: is there such a packet among several? -/
namespace Go.Proofs.YtohoieleakieeaaGreatDoor
open Go Go.RowKit

set_option maxRecDepth 20000 in
theorem asks1_any (p : Lg.Pk) (w : World) : Calls Tryz.prog 89 #[.agg (pkC p)] w fun e w' => e = .returned (.bool p.asks) ∧ Below w.heap.size w w' := by
  have B := veil ((Below.refl w.heap.size w).alloc (Nat.le_refl _) (.cells (pkC p) 78))
  unfold pkC at B ⊢
  go_enter Tryz.func89, Tryz.ntmps89
  go_wp2
  go_ret
  exact ⟨rfl, B.out⟩
set_option maxRecDepth 20000 in
set_option maxHeartbeats 1000000 in
theorem index_asks  (X : Lg.Pk → Bool) (v : Value) (l : List Lg.Pk) (w : World) (h : RowO w 78 4 v l.length (vp l)) (hl : l.length ≤ 100000) (hX : ∀ W, Below w.heap.size w W → ∀ p ∈ l, Calls Tryz.prog 89 #[.agg (pkC p)] W fun e W' => e = .returned (.bool (X p)) ∧ Below W.heap.size W W') :
    Calls Tryz.prog 121 #[v, .func (.func 89) #[] #[]] w fun e w' => (l.any X = true ∧ (∃ k : Nat, e = .returned (.int .i64 (k : Int))) ∨ l.any X = false ∧ e = .returned (.int .i64 (-1))) ∧ Below w.heap.size w w' := by
  obtain ⟨a, cap, rfl, _, _⟩ := h.shape
  obtain ⟨n, hn⟩ : ∃ n, l.length = n := ⟨_, rfl⟩
  rw [hn] at h ⊢
  have H := veil h
  have HN := veil hn
  have HX := veil hX
  have hn5 : n ≤ 100000 := by rw [← hn]; exact hl
  clear h hn hl hX
  go_enter Tryz.func121, Tryz.ntmps121
  go_wp2_with fail
  go_loopw [8] (fun iv wr => ∃ k : Nat, k ≤ n ∧ iv = .int .i64 k ∧ (l.take k).any X = false ∧ Below w.heap.size w wr)
    (fun iv _ => n - (intOf iv).toNat)
  case atStart => exact ⟨0, Nat.zero_le _, rfl, by simp, Below.refl _ _⟩
  case round =>
    obtain ⟨k, hk, rfl, hno, hbel⟩ := hrel
    by_cases hlt : k < n
    · have hkl : k < l.length := by rw [HN.out]; exact hlt
      obtain ⟨p, hget⟩ : ∃ p, l[k]? = some p := ⟨_, List.getElem?_eq_getElem hkl⟩
      obtain ⟨g9, o9, rfl, _, x0, x1, x2, x3⟩ := way_at (H.out.below hbel) hget
      have hpm : p ∈ l := List.mem_of_getElem? hget
      have htk : (l.take (k + 1)).any X = X p := by rw [List.take_add_one, hget, List.any_append, hno]; simp
      have PC := veil (HX.out wr hbel p hpm)
      have HB := veil hbel
      have HLt := veil hlt
      have HT := veil htk
      have HP := veil hpm
      clear hbel hkl hget htk hno hpm
      unfold pkC at PC
      go_wp2_with fail
      refine PC.out.mono ?_
      rintro e1 w1 ⟨rfl, hb1⟩
      have HB1 := veil (HB.out.trans (hb1.mono HB.out.size))
      clear hb1 x0 x1 x2 x3 PC
      cases hx : X p
      · have HT2 := veil (HT.out.trans hx)
        go_wp2
        go_roundw
        case rel => exact ⟨k + 1, by have := HLt.out; omega, by go_num, HT2.out, HB1.out⟩
        case measure => have := HLt.out; simp [intOf]; omega
      · have HA := veil (show l.any X = true from List.any_eq_true.2 ⟨p, HP.out, hx⟩)
        go_wp2
        go_ret
        exact ⟨.inl ⟨HA.out, k, rfl⟩, HB1.out⟩
    · have e : k = n := by omega
      subst e
      have hto : l.take k = l := by rw [← HN.out]; exact List.take_length
      rw [hto] at hno
      have HO := veil hno
      have HB := veil hbel
      clear hto hno hbel hlt
      go_wp2
      go_ret
      exact ⟨.inr ⟨HO.out, rfl⟩, HB.out⟩
set_option maxRecDepth 20000 in
theorem contains_asks  (X : Lg.Pk → Bool) (v : Value) (l : List Lg.Pk) (w : World) (h : RowO w 78 4 v l.length (vp l)) (hl : l.length ≤ 100000) (hX : ∀ W, Below w.heap.size w W → ∀ p ∈ l, Calls Tryz.prog 89 #[.agg (pkC p)] W fun e W' => e = .returned (.bool (X p)) ∧ Below W.heap.size W W') :
    Calls Tryz.prog 88 #[v, .func (.func 89) #[] #[]] w fun e w' => e = .returned (.bool (l.any X)) ∧ Below w.heap.size w w' := by
  have IC := veil (index_asks  X v l w h hl hX)
  obtain ⟨b, hbb⟩ : ∃ b, l.any X = b := ⟨_, rfl⟩
  rw [hbb] at IC ⊢
  clear h hl hX hbb
  go_enter Tryz.func88, Tryz.ntmps88
  go_wp2_with fail
  refine IC.out.mono ?_
  rintro e1 w1 ⟨⟨ha, k, rfl⟩ | ⟨ha, rfl⟩, hb⟩
  · subst ha
    have k1 : decide ((0 : Int) ≤ (k : Int)) = true := by simp
    have HB := veil hb
    clear hb
    go_wp2
    go_ret
    exact ⟨rfl, HB.out⟩
  · subst ha
    have HB := veil hb
    clear hb
    go_wp2
    go_ret
    exact ⟨rfl, HB.out⟩
set_option maxRecDepth 20000 in
set_option maxHeartbeats 1000000 in
theorem index_counts (g : Nat) (X : Lg.Pk → Bool) (v : Value) (l : List Lg.Pk) (w : World) (h : RowO w 78 4 v l.length (vp l)) (hl : l.length ≤ 100000) (hX : ∀ W, Below w.heap.size w W → ∀ p ∈ l, Calls Tryz.prog 91 #[.pointer (some ⟨g, 0, none⟩), .agg (pkC p)] W fun e W' => e = .returned (.bool (X p)) ∧ Below W.heap.size W W') :
    Calls Tryz.prog 121 #[v, .func (.func 91) #[.pointer (some ⟨g, 0, none⟩)] #[]] w fun e w' => (l.any X = true ∧ (∃ k : Nat, e = .returned (.int .i64 (k : Int))) ∨ l.any X = false ∧ e = .returned (.int .i64 (-1))) ∧ Below w.heap.size w w' := by
  obtain ⟨a, cap, rfl, _, _⟩ := h.shape
  obtain ⟨n, hn⟩ : ∃ n, l.length = n := ⟨_, rfl⟩
  rw [hn] at h ⊢
  have H := veil h
  have HN := veil hn
  have HX := veil hX
  have hn5 : n ≤ 100000 := by rw [← hn]; exact hl
  clear h hn hl hX
  go_enter Tryz.func121, Tryz.ntmps121
  go_wp2_with fail
  go_loopw [8] (fun iv wr => ∃ k : Nat, k ≤ n ∧ iv = .int .i64 k ∧ (l.take k).any X = false ∧ Below w.heap.size w wr)
    (fun iv _ => n - (intOf iv).toNat)
  case atStart => exact ⟨0, Nat.zero_le _, rfl, by simp, Below.refl _ _⟩
  case round =>
    obtain ⟨k, hk, rfl, hno, hbel⟩ := hrel
    by_cases hlt : k < n
    · have hkl : k < l.length := by rw [HN.out]; exact hlt
      obtain ⟨p, hget⟩ : ∃ p, l[k]? = some p := ⟨_, List.getElem?_eq_getElem hkl⟩
      obtain ⟨g9, o9, rfl, _, x0, x1, x2, x3⟩ := way_at (H.out.below hbel) hget
      have hpm : p ∈ l := List.mem_of_getElem? hget
      have htk : (l.take (k + 1)).any X = X p := by rw [List.take_add_one, hget, List.any_append, hno]; simp
      have PC := veil (HX.out wr hbel p hpm)
      have HB := veil hbel
      have HLt := veil hlt
      have HT := veil htk
      have HP := veil hpm
      clear hbel hkl hget htk hno hpm
      unfold pkC at PC
      go_wp2_with fail
      refine PC.out.mono ?_
      rintro e1 w1 ⟨rfl, hb1⟩
      have HB1 := veil (HB.out.trans (hb1.mono HB.out.size))
      clear hb1 x0 x1 x2 x3 PC
      cases hx : X p
      · have HT2 := veil (HT.out.trans hx)
        go_wp2
        go_roundw
        case rel => exact ⟨k + 1, by have := HLt.out; omega, by go_num, HT2.out, HB1.out⟩
        case measure => have := HLt.out; simp [intOf]; omega
      · have HA := veil (show l.any X = true from List.any_eq_true.2 ⟨p, HP.out, hx⟩)
        go_wp2
        go_ret
        exact ⟨.inl ⟨HA.out, k, rfl⟩, HB1.out⟩
    · have e : k = n := by omega
      subst e
      have hto : l.take k = l := by rw [← HN.out]; exact List.take_length
      rw [hto] at hno
      have HO := veil hno
      have HB := veil hbel
      clear hto hno hbel hlt
      go_wp2
      go_ret
      exact ⟨.inr ⟨HO.out, rfl⟩, HB.out⟩
set_option maxRecDepth 20000 in
theorem contains_counts (g : Nat) (X : Lg.Pk → Bool) (v : Value) (l : List Lg.Pk) (w : World) (h : RowO w 78 4 v l.length (vp l)) (hl : l.length ≤ 100000) (hX : ∀ W, Below w.heap.size w W → ∀ p ∈ l, Calls Tryz.prog 91 #[.pointer (some ⟨g, 0, none⟩), .agg (pkC p)] W fun e W' => e = .returned (.bool (X p)) ∧ Below W.heap.size W W') :
    Calls Tryz.prog 88 #[v, .func (.func 91) #[.pointer (some ⟨g, 0, none⟩)] #[]] w fun e w' => e = .returned (.bool (l.any X)) ∧ Below w.heap.size w w' := by
  have IC := veil (index_counts g X v l w h hl hX)
  obtain ⟨b, hbb⟩ : ∃ b, l.any X = b := ⟨_, rfl⟩
  rw [hbb] at IC ⊢
  clear h hl hX hbb
  go_enter Tryz.func88, Tryz.ntmps88
  go_wp2_with fail
  refine IC.out.mono ?_
  rintro e1 w1 ⟨⟨ha, k, rfl⟩ | ⟨ha, rfl⟩, hb⟩
  · subst ha
    have k1 : decide ((0 : Int) ≤ (k : Int)) = true := by simp
    have HB := veil hb
    clear hb
    go_wp2
    go_ret
    exact ⟨rfl, HB.out⟩
  · subst ha
    have HB := veil hb
    clear hb
    go_wp2
    go_ret
    exact ⟨rfl, HB.out⟩
end Go.Proofs.YtohoieleakieeaaGreatDoor

/-! Parts of a list of packets in memory: one packet is written, some are brought up, the first ones are cut off. No function of the program in sight. -/
namespace Go.Proofs.YtohoieleakieeaaGreatDoor
open Go Go.RowKit

theorem vp_cons (p : Lg.Pk) (l : List Lg.Pk) : vp (p :: l) = .int .u64 (p.num : Int) :: .int .i64 (p.size : Int) :: .int .u64 (p.time : Int) :: .bool p.asks :: vp l := rfl
theorem vp_set : ∀ (l : List Lg.Pk) (j : Nat) (p : Lg.Pk), j < l.length → vp (l.set j p) = ((((vp l).set (j * 4) (.int .u64 (p.num : Int))).set (j * 4 + 1) (.int .i64 (p.size : Int))).set (j * 4 + 2) (.int .u64 (p.time : Int))).set (j * 4 + 3) (.bool p.asks)
  | [], _, _, h => absurd h (Nat.not_lt_zero _)
  | q :: l, 0, p, _ => rfl
  | q :: l, j + 1, p, h => by
    rw [List.set_cons_succ, vp_cons, vp_set l j p (by simpa using h), vp_cons, show (j + 1) * 4 = j * 4 + 1 + 1 + 1 + 1 by omega, show j * 4 + 1 + 1 + 1 + 1 + 1 = (j * 4 + 1) + 1 + 1 + 1 + 1 by omega, show j * 4 + 1 + 1 + 1 + 1 + 2 = (j * 4 + 2) + 1 + 1 + 1 + 1 by omega, show j * 4 + 1 + 1 + 1 + 1 + 3 = (j * 4 + 3) + 1 + 1 + 1 + 1 by omega]
    simp only [List.set_cons_succ]
theorem vp_take (l : List Lg.Pk) (k : Nat) : vp (l.take k) = (vp l).take (k * 4) := by
  induction l generalizing k with
  | nil => simp [vp]
  | cons p l ih =>
    cases k with
    | zero => simp [vp]
    | succ k =>
      rw [List.take_succ_cons, vp_cons, vp_cons, ih, show (k + 1) * 4 = k * 4 + 1 + 1 + 1 + 1 by omega]
      simp only [List.take_succ_cons]
theorem vp_drop (l : List Lg.Pk) (k : Nat) : vp (l.drop k) = (vp l).drop (k * 4) := by
  induction l generalizing k with
  | nil => simp [vp]
  | cons p l ih =>
    cases k with
    | zero => simp
    | succ k =>
      rw [List.drop_succ_cons, vp_cons, ih, show (k + 1) * 4 = k * 4 + 1 + 1 + 1 + 1 by omega]
      simp only [List.drop_succ_cons]
theorem RowO.setCell {w : World} {e : TypeId} {size n b o cap : Nat} {xs : List Value} (h : RowO w e size (.slice (some ⟨b, o, none⟩) n cap) n xs) (j : Nat) (u : Value) : RowO (w.setCell ⟨b, o + j, none⟩ u) e size (.slice (some ⟨b, o, none⟩) n cap) n (xs.set j u) := by
  refine ⟨by rw [List.length_set]; exact h.1, ?_⟩
  rcases h.2 with ⟨h1, _⟩ | ⟨g', o', c', cur, h3, h4, h5, h6, h7, h8⟩
  · cases h1
  · injection h3 with e1 e2 e3
    injection e1 with e1
    injection e1 with e1 e4
    subst e1 e3 e4
    refine .inr ⟨b, o, cap, cur.setIfInBounds (o + j) u, rfl, heap_setCell_same w b (o + j) cur e u h4, h5, h6, by rw [Array.size_setIfInBounds]; exact h7, ?_⟩
    rw [Array.toList_setIfInBounds, ← h8, List.drop_set, if_neg (by omega), List.take_set, show o + j - o = j by omega]
/-- A packet is written over another one. -/
theorem RowO.setPk {w : World} {e : TypeId} {n b o cap : Nat} {l : List Lg.Pk} (h : RowO w e 4 (.slice (some ⟨b, o, none⟩) n cap) n (vp l)) (hl : l.length = n) (j : Nat) (hj : j < n) (p : Lg.Pk) :
    RowO ((((w.setCell ⟨b, o + j * 4, none⟩ (.int .u64 (p.num : Int))).setCell ⟨b, o + j * 4 + 1, none⟩ (.int .i64 (p.size : Int))).setCell ⟨b, o + j * 4 + 2, none⟩ (.int .u64 (p.time : Int))).setCell ⟨b, o + j * 4 + 3, none⟩ (.bool p.asks)) e 4 (.slice (some ⟨b, o, none⟩) n cap) n (vp (l.set j p)) := by
  rw [vp_set l j p (by omega)]
  have h1 := (((h.setCell (j * 4) (.int .u64 (p.num : Int))).setCell (j * 4 + 1) (.int .i64 (p.size : Int))).setCell (j * 4 + 2) (.int .u64 (p.time : Int))).setCell (j * 4 + 3) (.bool p.asks)
  rw [show o + (j * 4 + 1) = o + j * 4 + 1 by omega, show o + (j * 4 + 2) = o + j * 4 + 2 by omega, show o + (j * 4 + 3) = o + j * 4 + 3 by omega] at h1
  exact h1
def cutO (o cap lo size : Nat) : Nat := if lo = cap then o else o + lo * size
/-- Some are brought up to others, and what is ahead of them is cut off. -/
theorem bring_up {P : Program} (w : World) (ty t e : TypeId) (n b o cap d s : Nat) (l : List Lg.Pk) (hu : P.underlying t = some (.slice e)) (hs4 : (P.info? e).map (·.size) = some 4) (h : RowO w e 4 (.slice (some ⟨b, o, none⟩) n cap) n (vp l)) (hl : l.length = n) (hi : d + s ≤ n) :
    ∃ w', (Builtin.copy_ #[t, t] ty #[.slice (some ⟨b, cutO o cap d 4, none⟩) s (cap - d), .slice (some ⟨b, o, none⟩) s cap]).run P w = .ok (goInt s) w' ∧ RowO w' e 4 (.slice (some ⟨b, cutO o cap d 4, none⟩) (n - d) (cap - d)) (n - d) (vp (l.take s ++ l.drop (d + s))) ∧ KeepP (fun k => k = b) w w' := by
  have hsrc := h
  rcases h.2 with ⟨h1, _⟩ | ⟨g', o', c', cur, h3, h4, h5, h6, h7, h8⟩
  · cases h1
  · injection h3 with e1 e2 e3
    injection e1 with e1
    injection e1 with e1 e4
    subst e1 e3 e4
    have hlen : (vp (l.take s)).length = s * 4 := by rw [vp_length, List.length_take]; omega
    have hfit : cutO o cap d 4 + (vp (l.take s)).length ≤ cur.size := by
      rw [hlen]
      unfold cutO
      split <;> omega
    have hr := lgRun_copy (P := P) w t t ty e b (cutO o cap d 4) s (cap - d) ⟨b, o, none⟩ s cap 4 cur e (vp (l.take s)) hu hs4 h4 (by rw [hlen]; congr 1; exact (Nat.min_self s).symm) (fun j v hv => by
      rw [Addr.add_mid]
      rw [vp_take, List.getElem?_take] at hv
      split at hv
      · obtain ⟨g9, o9, q1, q2⟩ := hsrc.cells j v hv
        injection q1 with q1
        injection q1 with q1 q3
        subst q1 q3
        exact q2
      · cases hv) hfit (vp_one _)
    rw [show Nat.min s s = s from Nat.min_self s] at hr
    refine ⟨_, hr, ⟨?_, .inr ⟨b, cutO o cap d 4, cap - d, _, rfl, setRow_heap w b cur _ e _ h4, by omega, by omega, ?_, ?_⟩⟩, KeepP.setRow (st := fun k => k = b) rfl _ _⟩
    · rw [vp_length, List.length_append, List.length_take, List.length_drop]; omega
    · simp only [List.size_toArray, List.length_append, List.length_take, List.length_drop, Array.length_toList]
      rw [hlen] at hfit ⊢
      unfold cutO at hfit ⊢
      split <;> rename_i q
      · rw [if_pos q] at hfit; omega
      · rw [if_neg q] at hfit; omega
    · have e2 : (cur.toList.take (cutO o cap d 4)).length = cutO o cap d 4 := by rw [List.length_take, Array.length_toList]; omega
      show ((cur.toList.take (cutO o cap d 4) ++ vp (l.take s) ++ cur.toList.drop (cutO o cap d 4 + (vp (l.take s)).length)).drop (cutO o cap d 4)).take _ = _
      rw [List.append_assoc, List.drop_left' e2, vp_append, List.take_append, hlen, List.take_of_length_le (by rw [hlen]; omega)]
      congr 1
      rw [vp_drop, ← h8, List.drop_take, List.drop_drop]
      by_cases q : d = cap
      · have hs0 : s = 0 := by omega
        have hn : n = cap := by omega
        subst hs0
        rw [show (n - d) * 4 - 0 * 4 = 0 by omega, show n * 4 - (d + 0) * 4 = 0 by omega]
        simp
      · unfold cutO
        rw [if_neg q, show o + d * 4 + s * 4 = o + (d + s) * 4 by omega, show (n - d) * 4 - s * 4 = n * 4 - (d + s) * 4 by omega]
section
variable {P : Program} {a : Act} {o : Oper}
theorem lgSize {e : TypeId} {m : Nat} (hi : (P.info? e).map (·.size) = some m) (W : World) : (sizeOf e).run P W = .ok m W := by
  cases hq : P.info? e with
  | none => simp [hq] at hi
  | some i =>
    have : i.size = m := by simpa [hq] using hi
    simp [sizeOf, typeInfo, hq, this]
theorem lgRun_cutLH (t e : TypeId) (m : Nat) (x lo hi : Operand) (g off len cap l h : Nat) (ho : o.op = .slice t x (some lo) (some hi) none) (hx : a.eval x = .slice (some ⟨g, off, none⟩) len cap) (hl : a.eval lo = .int .i64 (l : Int)) (hh : a.eval hi = .int .i64 (h : Int)) (hu : P.underlying t = some (.slice e)) (hm : (P.info? e).map (·.size) = some m) (h1 : l ≤ h) (h2 : h ≤ cap) (W : World) :
    (execOp a.eval o).run P W = .ok (.value (.slice (some ⟨g, cutO off cap l m, none⟩) (h - l) (cap - l))) W := by
  have hsz := lgSize hm W
  unfold execOp cutO
  by_cases e' : l = cap
  · simp [ho, hx, hl, hh, Instr.sliceAt, Instr.slice, Instr.sliceBounds, Instr.sliceBound, asIntOf, run_underlying hu, hsz, h2, e']
    omega
  · simp [ho, hx, hl, hh, Instr.sliceAt, Instr.slice, Instr.sliceBounds, Instr.sliceBound, asIntOf, run_underlying hu, hsz, h1, h2, Addr.add_mid, e', show ¬ cap = l from fun q => e' q.symm]
theorem lgRun_cutH (t e : TypeId) (m : Nat) (x hi : Operand) (g off len cap h : Nat) (ho : o.op = .slice t x none (some hi) none) (hx : a.eval x = .slice (some ⟨g, off, none⟩) len cap) (hh : a.eval hi = .int .i64 (h : Int)) (hu : P.underlying t = some (.slice e)) (hm : (P.info? e).map (·.size) = some m) (h2 : h ≤ cap) (W : World) :
    (execOp a.eval o).run P W = .ok (.value (.slice (some ⟨g, off, none⟩) h cap)) W := by
  have hsz := lgSize hm W
  unfold execOp
  by_cases e' : cap = 0
  · simp [ho, hx, hh, Instr.sliceAt, Instr.slice, Instr.sliceBounds, Instr.sliceBound, asIntOf, run_underlying hu, hsz, e']
    omega
  · simp [ho, hx, hh, Instr.sliceAt, Instr.slice, Instr.sliceBounds, Instr.sliceBound, asIntOf, run_underlying hu, hsz, h2, Addr.add_mid, e']
theorem lgRun_cutL (t e : TypeId) (m : Nat) (x lo : Operand) (g off len cap l : Nat) (ho : o.op = .slice t x (some lo) none none) (hx : a.eval x = .slice (some ⟨g, off, none⟩) len cap) (hl : a.eval lo = .int .i64 (l : Int)) (hu : P.underlying t = some (.slice e)) (hm : (P.info? e).map (·.size) = some m) (h1 : l ≤ len) (h2 : len ≤ cap) (W : World) :
    (execOp a.eval o).run P W = .ok (.value (.slice (some ⟨g, cutO off cap l m, none⟩) (len - l) (cap - l))) W := by
  have hsz := lgSize hm W
  unfold execOp cutO
  by_cases e' : l = cap
  · simp [ho, hx, hl, Instr.sliceAt, Instr.slice, Instr.sliceBounds, Instr.sliceBound, asIntOf, run_underlying hu, hsz, h2, e']
    omega
  · simp [ho, hx, hl, Instr.sliceAt, Instr.slice, Instr.sliceBounds, Instr.sliceBound, asIntOf, run_underlying hu, hsz, h1, Addr.add_mid, e', show ¬ cap = l from fun q => e' q.symm]
end
end Go.Proofs.YtohoieleakieeaaGreatDoor
