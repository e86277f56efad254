/-
  Out of TbRef, RgGuard, TbLine, TbPt, TbPt2, TbShr.
-/
import Derived.Test.YtoajnhngcfjohaaGq1
import Derived.Test.YtoajnhngcfjohaaRows
import Derived.Deep.MidRow
import Derived.BigQuiet
import Derived.Deep.CutRange
import Derived.Deep.DeepCutAuto

/-! The document's table: in memory; how great it is. -/
namespace Go.Proofs.Ytoajnhngcfjohaa
open Go Go.RowKit

namespace Tb
/-- The document's table. -/
def rtC (t : Tab) (v : Value) : Array Value := #[.int .i64 (t.room : Int), v, .int .u64 (t.went : Int)]
structure RtOk (w : World) (h : Nat) (t : Tab) (v : Value) : Prop where
  row : Row w h 62 (rtC t v)
  own : RowO w 23 2 v t.l.length (fds t.l)
  sz : size t.l ≤ 1000000000000
  wb : t.went ≤ 1000000000000
theorem RtOk.below {w w' : World} {h : Nat} {t : Tab} {v : Value} (x : RtOk w h t v) (hb : Below w.heap.size w w') : RtOk w' h t v := ⟨x.row.below hb x.row.lt, x.own.below hb, x.sz, x.wb⟩
theorem fds_get2' {l : List Fd} {j : Nat} {g : Fd} (h : l[j]? = some g) : (fds l)[j * 2]? = some (.string g.1) ∧ (fds l)[j * 2 + 1]? = some (.string g.2) :=
  ⟨by have := fds_get l j g 0 h (by omega); rw [Nat.add_zero] at this; exact this, by have := fds_get l j g 1 h (by omega); exact this⟩
theorem size_take_succ {l : List Fd} {k : Nat} {g : Fd} (h : l[k]? = some g) : size (l.take (k + 1)) = size (l.take k) + sz g := by
  rw [List.take_add_one, h]
  simp only [Option.toList_some, size_append, size]
  rfl
theorem size_take_le (l : List Fd) (k : Nat) : size (l.take k) ≤ size l := by
  have h := size_append (l.take k) (l.drop k)
  rw [List.take_append_drop] at h
  omega
set_option maxRecDepth 100000 in
set_option maxHeartbeats 4000000 in
theorem ref_size (w : World) (h : Nat) (t : Tab) (v : Value) (x : RtOk w h t v) : Calls Try.prog 25 #[.pointer (some ⟨h, 0, none⟩)] w fun e w' => e = .returned (.int .i64 (size t.l : Nat)) ∧ ∃ m, w' = w.drewN m := by
  obtain ⟨ad, cap, hv, _, _⟩ := x.own.shape
  have hcl := fun j u => RowO.cells (hv ▸ x.own) j u
  subst hv
  have hsz := x.sz
  have hlen := size_length t.l
  have x1 : w.cell? ⟨h, 1, none⟩ = some (.slice ad t.l.length cap) := x.row.cell 1
  obtain ⟨room, went, l⟩ := t
  simp only at hcl x1 hsz hlen ⊢
  clear x
  obtain ⟨n, hn⟩ : ∃ n, l.length = n := ⟨_, rfl⟩
  rw [hn] at x1 hlen
  have HC := veil hcl
  have HS := veil hsz
  have HN := veil hlen
  have HL := veil hn
  clear hcl hsz hlen hn
  go_enter Try.func25, Try.ntmps25
  go_wp2_with fail
  go_loopw [3, 4] (fun nv iv wr => ∃ k S : Nat, k ≤ n ∧ iv = .int .i64 (k : Int) ∧ nv = .int .i64 (S : Int) ∧ size (l.take k) = S ∧ ∃ m, wr = w.drewN m)
    (fun _ iv _ => n - (intOf iv).toNat)
  case atStart => exact ⟨0, 0, Nat.zero_le _, rfl, rfl, rfl, 0, rfl⟩
  case round =>
    obtain ⟨k, S, hk, rfl, rfl, hS, m, rfl⟩ := hrel
    by_cases hlt : k < n
    · obtain ⟨⟨ga, gb⟩, hg⟩ : ∃ g, l[k]? = some g := ⟨_, List.getElem?_eq_getElem (by have := HL.out; omega)⟩
      have hs := fds_get2' hg
      obtain ⟨g, o, rfl, y0⟩ := HC.out _ _ hs.1
      have y1 : w.cell? ⟨g, o + k * 2 + 1, none⟩ = some (.string gb) := by
        obtain ⟨g', o', e, y⟩ := HC.out _ _ hs.2
        obtain ⟨rfl, rfl⟩ : g = g' ∧ o = o' := by injection e with e; injection e with e1 e2; exact ⟨e1, e2⟩
        rw [Nat.add_assoc]; exact y
      simp only at y0
      have hS1 := size_take_succ hg
      have hS2 := size_take_le l (k + 1)
      have hz : sz (ga, gb) = ga.size + gb.size + 32 := rfl
      have HH := veil (show size (l.take (k + 1)) = S + ga.size + gb.size + 32 ∧ S + ga.size + gb.size + 32 ≤ 1000000000000 from by have := HS.out; omega)
      have HLT := veil (show k < n ∧ n ≤ 1000000000000 from ⟨hlt, by have := HN.out; have := HS.out; omega⟩)
      have bI : (k : Int) < (n : Int) := by omega
      clear hs hg hS hS1 hS2 hz hlt hk
      obtain ⟨La, hLa⟩ : ∃ La, ga.size = La := ⟨_, rfl⟩
      obtain ⟨Lb, hLb⟩ : ∃ Lb, gb.size = Lb := ⟨_, rfl⟩
      rw [hLa, hLb] at HH
      have w1 : IntKind.i64.wrap ((S : Int) + (La : Int)) = ((S + La : Nat) : Int) := by have := HH.out; rw [IntKind.wrap_i64]; omega
      have w2 : IntKind.i64.wrap (((S + La : Nat) : Int) + (Lb : Int)) = ((S + La + Lb : Nat) : Int) := by have := HH.out; rw [IntKind.wrap_i64]; omega
      have w3 : IntKind.i64.wrap (((S + La + Lb : Nat) : Int) + 32) = ((S + La + Lb + 32 : Nat) : Int) := by have := HH.out; rw [IntKind.wrap_i64]; omega
      have w5 : IntKind.i64.wrap ((k : Int) + 1) = ((k + 1 : Nat) : Int) := by have := HLT.out; rw [IntKind.wrap_i64]; omega
      generalize S + La = S1 at *
      generalize S1 + Lb = S2 at *
      generalize S2 + 32 = S3 at *
      go_wp2_with fail
      go_quiet (fail)
      go_wp2_with fail
      go_roundw
      case rel => exact ⟨k + 1, S3, by have := HLT.out; omega, (by first | rfl | go_num), rfl, HH.out.1, _, rfl⟩
      case measure => have := HLT.out; simp [intOf]; omega
    · obtain rfl : k = n := by omega
      have HZ := veil (show size l = S from by rw [← hS, List.take_of_length_le (by have := HL.out; omega)])
      clear hS hlt hk
      go_wp2_with fail
      go_ret
      exact ⟨by rw [HZ.out]; rfl, m, rfl⟩
set_option maxRecDepth 100000 in
set_option maxHeartbeats 4000000 in
theorem ref_new_no (r : Int) (w : World) (h : r < 0 ∨ 4096 < r) : Calls Try.prog 13 #[.int .i64 r] w fun e w' => e = .returned (.tuple #[.pointer none, .int .i64 1]) ∧ w' = w := by
  by_cases h0 : r < 0
  · have n2 : decide (r < 0) = true := by simp; omega
    clear h
    go_enter Try.func13, Try.ntmps13
    go_wp2_with fail
    go_ret2
    exact ⟨rfl, rfl⟩
  · have n2 : decide (r < 0) = false := by simp; omega
    have n3 : decide (4096 < r) = true := by simp; omega
    have n4 : 4096 < r := by omega
    clear h
    go_enter Try.func13, Try.ntmps13
    go_wp2_with fail
    go_ret2
    exact ⟨rfl, rfl⟩
set_option maxRecDepth 100000 in
set_option maxHeartbeats 4000000 in
theorem ref_new (r : Nat) (w : World) (h : r ≤ 4096) : Calls Try.prog 13 #[.int .i64 (r : Int)] w fun e w' => e = .returned (.tuple #[.pointer (some ⟨w.heap.size, 0, none⟩), .int .i64 0]) ∧ RtOk w' w.heap.size ⟨r, 0, []⟩ (.slice none 0 0) ∧ Below w.heap.size w w' := by
  have n2 : decide ((r : Int) < 0) = false := by simp
  have n3 : decide (4096 < (r : Int)) = false := by simp; omega
  have n4 : ¬ (r : Int) < 0 := by omega
  have n5 : ¬ 4096 < (r : Int) := by omega
  go_enter Try.func13, Try.ntmps13
  go_wp2_with fail
  go_ret2
  exact ⟨rfl, ⟨Row.new _ _ _, RowO.nil _ _ _, by simp [size], by simp⟩, (Below.refl w.heap.size w).alloc (Nat.le_refl _) _⟩
set_option maxRecDepth 100000 in
set_option maxHeartbeats 4000000 in
theorem ref_gone (w : World) (h : Nat) (t : Tab) (v : Value) (x : RtOk w h t v) : Calls Try.prog 24 #[.pointer (some ⟨h, 0, none⟩)] w fun e w' => e = .returned (.int .u64 (t.went : Int)) ∧ w' = w := by
  have x2 : w.cell? ⟨h, 2, none⟩ = some (.int .u64 (t.went : Int)) := x.row.cell 2
  clear x
  go_enter Try.func24, Try.ntmps24
  go_wp2_with fail
  go_ret
  exact ⟨rfl, rfl⟩
set_option maxRecDepth 100000 in
set_option maxHeartbeats 4000000 in
theorem ref_came (w : World) (h : Nat) (t : Tab) (v : Value) (x : RtOk w h t v) : Calls Try.prog 23 #[.pointer (some ⟨h, 0, none⟩)] w fun e w' => e = .returned (.int .u64 (t.came : Nat)) ∧ ∃ m, w' = w.drewN m := by
  have x2 : w.cell? ⟨h, 2, none⟩ = some (.int .u64 (t.went : Int)) := x.row.cell 2
  obtain ⟨ad, cap, hv, _, _⟩ := x.own.shape
  subst hv
  have x1 : w.cell? ⟨h, 1, none⟩ = some (.slice ad t.l.length cap) := x.row.cell 1
  have hl := size_length t.l
  have hs := x.sz
  have hw := x.wb
  obtain ⟨n, hn⟩ : ∃ n, t.l.length = n := ⟨_, rfl⟩
  have hc : t.came = t.went + n := by unfold Tab.came; rw [hn]
  rw [hn] at x1 hl
  rw [hc]
  have v1 : IntKind.u64.wrap (n : Int) = (n : Int) := by rw [IntKind.wrap_u64]; omega
  have v2 : IntKind.u64.wrap ((t.went : Int) + (n : Int)) = ((t.went + n : Nat) : Int) := by rw [IntKind.wrap_u64]; omega
  clear x hl hs hw hn hc
  go_enter Try.func23, Try.ntmps23
  go_wp2_with fail
  go_quiet (fail)
  go_wp2_with fail
  go_ret
  exact ⟨rfl, _, rfl⟩
end Tb
end Go.Proofs.Ytoajnhngcfjohaa

/-! Single operations, guarded ones among them. No program in sight. -/
namespace Go.Proofs.Ytoajnhngcfjohaa
open Go Go.RowKit

section
variable {F : Fence} {n : Nat} {P : Program} {ops : Array Oper} {Q : Exit → Act → World → Prop} {a : Act} {w : World}
end
section
variable {P : Program} {a : Act} {o : Oper}
end
end Go.Proofs.Ytoajnhngcfjohaa

/-! A drawn region whose operations have values that are known ahead, with a line of calls that turn the world; what stands ahead of one in the line runs ahead of it. Parts of a row. -/
namespace Go.Proofs.Ytoajnhngcfjohaa
open Go Go.RowKit

theorem puts_same : ∀ (ds : List Nat) (a : Act) (k : Nat) (x y : Nat → Value), (∀ j, k ≤ j → j < k + ds.length → x j = y j) → putsV a ds k x = putsV a ds k y
  | [], _, _, _, _, _ => rfl
  | e :: ds, a, k, x, y, h => by
    rw [putsV, putsV, h k (Nat.le_refl _) (by simp), puts_same ds _ _ x y (fun j h1 h2 => h j (by omega) (by simp; omega))]
section
variable {F : Fence} {n : Nat} {P : Program} {ops : Array Oper} {Q : Exit → Act → World → Prop} {md : Region.Mode}
theorem anyIn_line2 {a0 : Act} {W0 : World} (V : Nat → Value) (R : Nat → World → Prop) (ch ds : List Nat) (dep : Nat → List Nat) (hd : edgesB md ops dep = true) (hlen : ds.length = ops.size) (hnd : ds.Nodup) (hchn : ch.Nodup)
    (hord : ∀ k i j, ch[k]? = some j → ch[k + 1]? = some i → j ∈ dep i ∨ ∃ q ∈ dep i, j ∈ dep q)
    (hin : ∀ j ∈ ch, j < ops.size)
    (h0 : R 0 W0)
    (hfix : ∀ (x : Nat → Value) (W : World) (m i d : Nat), R m W → (∀ k c, ch[k]? = some c → i ∈ dep c → m ≤ k) → ds[i]? = some d → i ∉ ch → (∀ j ∈ dep i, x j = V j) → wpOpIn F n P ops Q i (fun a' W' => a' = (putsV a0 ds 0 x).put (some d) (V i) ∧ W' = W) (putsV a0 ds 0 x) W)
    (hcal : ∀ (x : Nat → Value) (W : World) (k i d : Nat), R k W → ch[k]? = some i → ds[i]? = some d → (∀ j ∈ dep i, x j = V j) → wpOpIn F n P ops Q i (fun a' W' => a' = (putsV a0 ds 0 x).put (some d) (V i) ∧ R (k + 1) W') (putsV a0 ds 0 x) W)
    (hdone : ∀ (W : World), R ch.length W → Q .normal (putsV a0 ds 0 V) W) : wpAnyIn F n P md ops Q ops.size (Array.replicate ops.size false) a0 W0 := by
  refine anyIn_inv2 (Inv := fun l a W => ∃ (x : Nat → Value) (m : Nat), a = putsV a0 ds 0 x ∧ R m W ∧ (∀ j, On l j → x j = V j) ∧ (∀ k j, ch[k]? = some j → (On l j ↔ k < m)) ∧ m ≤ ch.length ∧ (∀ j, On l j → ∀ i ∈ dep j, On l i)) dep ops.size rfl hd ?_ ?_ _ _ _ _ (by simp) (by simp) ?_
  · rintro l a W i hl ⟨x, m, rfl, h1, h2, h5, h6, h4⟩ hi hno hdep
    have hi' : i < ds.length := by omega
    have hdi : ds[i]? = some ds[i] := List.getElem?_eq_getElem hi'
    have hfx : ∀ j ∈ dep i, x j = V j := fun j hj => h2 j (hdep j hj)
    have hon : ∀ j, On (l.setIfInBounds i true) j ↔ j = i ∨ On l j := by
      intro j
      constructor
      · intro h
        by_cases e : j = i
        · exact .inl e
        · exact .inr (h.of_set (Ne.symm e))
      · rintro (rfl | h)
        · exact On.self (by omega)
        · exact h.set
    have hcl : ∀ j, On (l.setIfInBounds i true) j → ∀ i' ∈ dep j, On (l.setIfInBounds i true) i' := by
      intro j hj q hq
      rcases (hon j).1 hj with rfl | hj
      · exact (hdep q hq).set
      · exact (h4 j hj q hq).set
    have hup : ∀ j, On (l.setIfInBounds i true) j → updV x i (V i) j = V j := by
      intro j hj
      unfold updV
      split
      · rename_i e; rw [e]
      · rename_i e; exact h2 j (((hon j).1 hj).resolve_left e)
    by_cases hc : i ∈ ch
    · obtain ⟨k, hk, hki⟩ := List.getElem_of_mem hc
      have hk' : ch[k]? = some i := by rw [List.getElem?_eq_getElem hk, hki]
      have hmk : m ≤ k := Nat.le_of_not_lt fun h => hno ((h5 k i hk').2 h)
      have hm : m = k := by
        cases k with
        | zero => omega
        | succ p =>
          have hp : ch[p]? = some ch[p] := List.getElem?_eq_getElem (by omega)
          have hjp : On l ch[p] := by
            rcases hord p i _ hp hk' with e | ⟨q, e1, e2⟩
            · exact hdep _ e
            · exact h4 q (hdep q e1) _ e2
          have := (h5 p _ hp).1 hjp
          omega
      subst hm
      refine wpOpIn_mono ?_ (hcal x W m i ds[i] h1 hk' hdi hfx)
      rintro a' W' ⟨rfl, hR⟩
      refine ⟨updV x i (V i), m + 1, ?_, hR, hup, ?_, by omega, hcl⟩
      · rw [puts_put ds a0 0 i _ x _ hnd hdi, Nat.zero_add]
      · intro k j hkj
        rw [hon j, h5 k j hkj]
        constructor
        · rintro (rfl | h)
          · by_cases hkm : k < m
            · omega
            · by_cases hkm2 : m < k
              · obtain ⟨p1, p2⟩ := List.getElem?_eq_some_iff.1 hkj
                obtain ⟨q1, q2⟩ := List.getElem?_eq_some_iff.1 hk'
                exact absurd (q2.trans p2.symm) (List.pairwise_iff_getElem.1 hchn m k q1 p1 hkm2)
              · omega
          · omega
        · intro h
          by_cases hkm : k = m
          · subst hkm
            rw [hkj] at hk'
            exact .inl (Option.some.inj hk')
          · exact .inr (by omega)
    · refine wpOpIn_mono ?_ (hfix x W m i ds[i] h1 (fun k c hkc hic => Nat.le_of_not_lt fun h => hno (h4 c ((h5 k c hkc).2 h) i hic)) hdi hc hfx)
      rintro a' W' ⟨rfl, rfl⟩
      refine ⟨updV x i (V i), m, ?_, h1, hup, ?_, h6, hcl⟩
      · rw [puts_put ds a0 0 i _ x _ hnd hdi, Nat.zero_add]
      · intro k j hkj
        have hne : j ≠ i := fun e => hc (e ▸ List.mem_of_getElem? hkj)
        rw [hon j, ← h5 k j hkj]
        exact ⟨fun h => h.resolve_left hne, .inr⟩
  · rintro l a W ⟨x, m, rfl, h1, h2, h5, h6, _⟩ hall
    have hm : m = ch.length := by
      rcases Nat.lt_or_ge m ch.length with h | h
      · have hp : ch[m]? = some ch[m] := List.getElem?_eq_getElem h
        have := (h5 m _ hp).1 (hall _ (hin _ (List.getElem_mem h)))
        omega
      · omega
    subst hm
    rw [puts_same ds a0 0 x V (fun j _ hj => h2 j (hall j (by omega)))]
    exact hdone W h1
  · refine ⟨_, 0, (puts_start a0 ds 0).symm, h0, fun j hj => absurd hj (On.none _ _), fun k j _ => ⟨fun h => absurd h (On.none _ _), fun h => absurd h (Nat.not_lt_zero _)⟩, Nat.zero_le _, fun j hj => absurd hj (On.none _ _)⟩
end
section
variable {P : Program} {a : Act} {o : Oper}
theorem run_midT (ty : TypeId) (x : Operand) (g off : Nat) (cs : List Value) (d : TypeDesc) (ho : o.op = .load ty x) (hx : a.eval x = .pointer (some ⟨g, off, none⟩)) (hu : P.underlying ty = some d) (hd : d.isRow = true) (hi : (P.info? ty).map (·.size) = some cs.length) (W : World) (hc : W.rangeAt g off cs) :
    (execOp a.eval o).run P W = .ok (.value (.agg cs.toArray)) W := by
  have h := run_loadAt_mid (P := P) W g off ty cs d hc hu hd hi
  unfold execOp
  simp only [ho, hx, Sem.run_bind, h, Result.andThen_ok, Sem.run_pure]
theorem run_smidT (ty : TypeId) (x y : Operand) (g off : Nat) (cs : List Value) (ho : o.op = .store ty x y) (hx : a.eval x = .pointer (some ⟨g, off, none⟩)) (hy : a.eval y = .agg cs.toArray) (hi : (P.info? ty).map (·.size) = some cs.length) (h1 : cs.toArray.all (·.oneCell') = true) (W : World) (ht : W.there g off cs.length) :
    (execOp a.eval o).run P W = .ok .skip (W.setCells g off cs) := by
  have h := run_storeAt_mid (P := P) W g off ty cs.toArray (by simpa using ht) (by simpa using hi) h1
  unfold execOp
  simp only [ho, hx, hy, Sem.run_bind, h, Result.andThen_ok, Sem.run_pure]
end
theorem Row.setCells : ∀ (vs : List Value) {w : World} {g : Nat} {t : TypeId} {cs : Array Value} (o : Nat), Row w g t cs → o + vs.length ≤ cs.size → Row (w.setCells g o vs) g t (cs.toList.take o ++ vs ++ cs.toList.drop (o + vs.length)).toArray
  | [], w, g, t, cs, o, h, _ => by
    rw [World.setCells]
    simp only [List.length_nil, Nat.add_zero, List.append_nil, List.take_append_drop]
    exact h
  | v :: r, w, g, t, cs, o, h, hl => by
    rw [World.setCells]
    have h1 := Row.setCells r (o + 1) (h.set o v) (by rw [Array.size_setIfInBounds]; simp only [List.length_cons] at hl; omega)
    have e : ((cs.setIfInBounds o v).toList.take (o + 1) ++ r ++ (cs.setIfInBounds o v).toList.drop (o + 1 + r.length)) = cs.toList.take o ++ v :: r ++ cs.toList.drop (o + (v :: r).length) := by
      obtain ⟨l⟩ := cs
      simp only [List.length_cons, List.size_toArray] at hl
      simp only [List.setIfInBounds_toArray, List.length_cons]
      have e1 : (l.set o v).take (o + 1) = l.take o ++ [v] := by
        rw [List.take_add_one, List.take_set_of_le (Nat.le_refl _), List.getElem?_set_self (by omega)]
        rfl
      have e2 : (l.set o v).drop (o + 1 + r.length) = l.drop (o + (r.length + 1)) := by
        rw [List.drop_set_of_lt (by omega)]
        congr 1
        omega
      rw [e1, e2]
      simp
    rwa [e] at h1
theorem Row.rangeH {w : World} {g : Nat} {t : TypeId} {cs : Array Value} (h : Row w g t cs) (o : Nat) (vs : List Value) (hv : ∀ j v, vs[j]? = some v → cs[o + j]? = some v) : w.rangeAt g o vs := fun j v e => (h.cell (o + j)).trans (hv j v e)
theorem Row.thereH {w : World} {g : Nat} {t : TypeId} {cs : Array Value} (h : Row w g t cs) (o n : Nat) (hl : o + n ≤ cs.size) : w.there g o n := fun j hj =>
  ⟨by rw [h.cell (o + j), Array.getElem?_eq_getElem (by omega)]; rfl, h.frozen (o + j)⟩

end Go.Proofs.Ytoajnhngcfjohaa

/-! The program's table in memory; what only reads it. -/
namespace Go.Proofs.Ytoajnhngcfjohaa
open Go Go.RowKit

namespace Tb
def ptH (r s g : Nat) : List Value := [.bool true, .int .i64 (r : Int), .int .i64 (s : Int), .int .u64 (g : Int)]
def ptT (p q : Nat) : List Value := [.int .i64 (p : Int), .int .i64 (q : Int)]
/-- The program's table: A are the fields at its places, those from p on, up to q, are there. -/
def ptC (r s g : Nat) (A : List Fd) (p q : Nat) : Array Value := (ptH r s g ++ (fds A ++ ptT p q)).toArray
abbrev PtR (w : World) (h r s g : Nat) (A : List Fd) (p q : Nat) : Prop := Row w h 60 (ptC r s g A p q)
structure PtOk (w : World) (h : Nat) (t : Tab) (A : List Fd) (p q : Nat) : Prop where
  row : PtR w h t.room (size t.l) t.went A p q
  al : A.length = 256
  pq : p + t.l.length = q
  q1 : q ≤ 256
  l : ∀ j, j < t.l.length → A[p + j]? = t.l[j]?
  sz : size t.l ≤ 4096
  rb : t.room ≤ 4096
  wb : t.came ≤ 1000000000000
section
variable {w : World} {h r s g : Nat} {A : List Fd} {p q : Nat}
theorem ptC_size (hA : A.length = 256) : (ptC r s g A p q).size = 518 := by simp [ptC, ptH, ptT, fds_length, hA]
theorem pr0 (x : PtR w h r s g A p q) : w.cell? ⟨h, 0, none⟩ = some (.bool true) := (Row.cell x 0).trans (by simp [ptC, ptH])
theorem pr1 (x : PtR w h r s g A p q) : w.cell? ⟨h, 1, none⟩ = some (.int .i64 (r : Int)) := (Row.cell x 1).trans (by simp [ptC, ptH])
theorem pr2 (x : PtR w h r s g A p q) : w.cell? ⟨h, 2, none⟩ = some (.int .i64 (s : Int)) := (Row.cell x 2).trans (by simp [ptC, ptH])
theorem pr3 (x : PtR w h r s g A p q) : w.cell? ⟨h, 3, none⟩ = some (.int .u64 (g : Int)) := (Row.cell x 3).trans (by simp [ptC, ptH])
theorem pr5 (x : PtR w h r s g A p q) (hA : A.length = 256) : w.cell? ⟨h, 516, none⟩ = some (.int .i64 (p : Int)) := by
  have hl : (fds A).length = 512 := by rw [fds_length, hA]
  rw [Row.cell x 516]
  simp [ptC, ptH, ptT, hl]
theorem pr6 (x : PtR w h r s g A p q) (hA : A.length = 256) : w.cell? ⟨h, 517, none⟩ = some (.int .i64 (q : Int)) := by
  have hl : (fds A).length = 512 := by rw [fds_length, hA]
  rw [Row.cell x 517]
  simp [ptC, ptH, ptT, hl]
theorem ptC_A {j : Nat} {u : Value} (hu : (fds A)[j]? = some u) : (ptC r s g A p q)[4 + j]? = some u := by
  have hl := (List.getElem?_eq_some_iff.1 hu).1
  simp only [ptC, List.getElem?_toArray]
  rw [List.getElem?_append_right (by simp [ptH]), List.getElem?_append_left (by simpa [ptH] using hl)]
  simpa [ptH] using hu
/-- A field at a place. -/
theorem prF (x : PtR w h r s g A p q) {j : Nat} {f : Fd} (hf : A[j]? = some f) : w.rangeAt h (4 + j * 2) f.cells.toList :=
  Row.rangeH x _ _ fun i v e => by
    have hi : i < 2 := by have := (List.getElem?_eq_some_iff.1 e).1; exact this
    rw [Nat.add_assoc]
    exact ptC_A ((fds_get A j f i hf hi).trans e)
theorem set_room (x : PtR w h r s g A p q) (r' : Nat) : PtR (w.setCell ⟨h, 1, none⟩ (.int .i64 (r' : Int))) h r' s g A p q := by
  have := Row.set x 1 (.int .i64 (r' : Int))
  simpa [PtR, ptC, ptH] using this
theorem set_size (x : PtR w h r s g A p q) (s' : Nat) : PtR (w.setCell ⟨h, 2, none⟩ (.int .i64 (s' : Int))) h r s' g A p q := by
  have := Row.set x 2 (.int .i64 (s' : Int))
  simpa [PtR, ptC, ptH] using this
theorem set_gone (x : PtR w h r s g A p q) (g' : Nat) : PtR (w.setCell ⟨h, 3, none⟩ (.int .u64 (g' : Int))) h r s g' A p q := by
  have := Row.set x 3 (.int .u64 (g' : Int))
  simpa [PtR, ptC, ptH] using this
theorem set_tail {X : List Value} (H : List Value) (hH : H.length = 4) (hX : X.length = 512) (a b v : Value) : ((H ++ (X ++ [a, b])).toArray.setIfInBounds 516 v = (H ++ (X ++ [v, b])).toArray) ∧ ((H ++ (X ++ [a, b])).toArray.setIfInBounds 517 v = (H ++ (X ++ [a, v])).toArray) := by
  constructor <;>
  · rw [List.setIfInBounds_toArray, List.set_append_right _ _ (by omega), List.set_append_right _ _ (by omega), hH, hX]
    rfl
theorem set_from (x : PtR w h r s g A p q) (hA : A.length = 256) (p' : Nat) : PtR (w.setCell ⟨h, 516, none⟩ (.int .i64 (p' : Int))) h r s g A p' q := by
  have := Row.set x 516 (.int .i64 (p' : Int))
  unfold ptC ptT at this
  rw [(set_tail (ptH r s g) rfl (by rw [fds_length, hA]) _ _ _).1] at this
  exact this
theorem set_to (x : PtR w h r s g A p q) (hA : A.length = 256) (q' : Nat) : PtR (w.setCell ⟨h, 517, none⟩ (.int .i64 (q' : Int))) h r s g A p q' := by
  have := Row.set x 517 (.int .i64 (q' : Int))
  unfold ptC ptT at this
  rw [(set_tail (ptH r s g) rfl (by rw [fds_length, hA]) _ _ _).2] at this
  exact this
theorem fds_take (l : List Fd) (k : Nat) : (fds l).take (k * 2) = fds (l.take k) := by
  rcases Nat.lt_or_ge l.length k with hk | hk
  · rw [List.take_of_length_le (by rw [fds_length]; omega), List.take_of_length_le (by omega)]
  · have : fds l = fds (l.take k) ++ fds (l.drop k) := by rw [← fds_append, List.take_append_drop]
    rw [this, List.take_append_of_le_length (by rw [fds_length, List.length_take]; omega), List.take_of_length_le (by rw [fds_length, List.length_take]; omega)]
theorem fds_drop (l : List Fd) (k : Nat) : (fds l).drop (k * 2) = fds (l.drop k) := by
  rcases Nat.lt_or_ge l.length k with hk | hk
  · rw [List.drop_of_length_le (by rw [fds_length]; omega), List.drop_of_length_le (by omega)]
    rfl
  · have : fds l = fds (l.take k) ++ fds (l.drop k) := by rw [← fds_append, List.take_append_drop]
    rw [this, List.drop_append_of_le_length (by rw [fds_length, List.length_take]; omega), List.drop_of_length_le (by rw [fds_length, List.length_take]; omega), List.nil_append]
/-- Cells within the fields' part are other ones. -/
theorem set_fields (x : PtR w h r s g A p q) (j : Nat) (B : List Fd) (hj : j + B.length ≤ A.length) : PtR (w.setCells h (4 + j * 2) (fds B)) h r s g (A.take j ++ B ++ A.drop (j + B.length)) p q := by
  have lB := fds_length B
  have lA := fds_length A
  have hs : (ptC r s g A p q).toList = ptH r s g ++ (fds A ++ ptT p q) := rfl
  have := Row.setCells (fds B) (4 + j * 2) x (by simp only [ptC, List.size_toArray, List.length_append, ptH, ptT, List.length_cons, List.length_nil]; omega)
  rw [hs] at this
  have e1 : (ptH r s g ++ (fds A ++ ptT p q)).take (4 + j * 2) = ptH r s g ++ fds (A.take j) := by
    rw [show 4 + j * 2 = (ptH r s g).length + j * 2 from rfl, List.take_length_add_append, List.take_append_of_le_length (by omega), fds_take]
  have e2 : (ptH r s g ++ (fds A ++ ptT p q)).drop (4 + j * 2 + (fds B).length) = fds (A.drop (j + B.length)) ++ ptT p q := by
    rw [lB, show 4 + j * 2 + B.length * 2 = (ptH r s g).length + (j + B.length) * 2 by simp [ptH]; omega, List.drop_length_add_append, List.drop_append_of_le_length (by omega), fds_drop]
  rw [e1, e2] at this
  unfold PtR ptC
  rw [fds_append, fds_append]
  simpa only [List.append_assoc] using this
end
section
variable {w : World} {h : Nat} {t : Tab} {A : List Fd} {p q : Nat}
theorem PtOk.below {w' : World} (x : PtOk w h t A p q) (hb : Below w.heap.size w w') : PtOk w' h t A p q := ⟨Row.below x.row hb (Row.lt x.row), x.al, x.pq, x.q1, x.l, x.sz, x.rb, x.wb⟩
theorem PtOk.same {w' : World} (x : PtOk w h t A p q) (hk : w'.heap[h]? = w.heap[h]?) : PtOk w' h t A p q := ⟨hk.trans x.row, x.al, x.pq, x.q1, x.l, x.sz, x.rb, x.wb⟩
theorem PtOk.c0 (x : PtOk w h t A p q) : w.cell? ⟨h, 0, none⟩ = some (.bool true) := pr0 x.row
theorem PtOk.c1 (x : PtOk w h t A p q) : w.cell? ⟨h, 1, none⟩ = some (.int .i64 (t.room : Int)) := pr1 x.row
theorem PtOk.c2 (x : PtOk w h t A p q) : w.cell? ⟨h, 2, none⟩ = some (.int .i64 (size t.l : Nat)) := pr2 x.row
theorem PtOk.c3 (x : PtOk w h t A p q) : w.cell? ⟨h, 3, none⟩ = some (.int .u64 (t.went : Int)) := pr3 x.row
theorem PtOk.c5 (x : PtOk w h t A p q) : w.cell? ⟨h, 516, none⟩ = some (.int .i64 (p : Int)) := pr5 x.row x.al
theorem PtOk.c6 (x : PtOk w h t A p q) : w.cell? ⟨h, 517, none⟩ = some (.int .i64 (q : Int)) := pr6 x.row x.al
end
set_option maxRecDepth 100000 in
set_option maxHeartbeats 4000000 in
theorem tab_none {w : World} {h : Nat} {t : Tab} {A : List Fd} {p q : Nat} (x : PtOk w h t A p q) : Calls Try.prog 32 #[.pointer (some ⟨h, 0, none⟩)] w fun e w' => e = .returned (.bool false) ∧ w' = w := by
  have x0 := x.c0
  clear x
  go_enter Try.func32, Try.ntmps32
  go_wp2_with fail
  go_ret
  exact ⟨rfl, rfl⟩
set_option maxRecDepth 100000 in
set_option maxHeartbeats 4000000 in
theorem tab_none_nil (w : World) : Calls Try.prog 32 #[.pointer none] w fun e w' => e = .returned (.bool true) ∧ w' = w := by
  go_enter Try.func32, Try.ntmps32
  go_wp2_with fail
  go_ret
  exact ⟨rfl, rfl⟩
set_option maxRecDepth 100000 in
set_option maxHeartbeats 4000000 in
theorem tab_may (n : Int) (w : World) : Calls Try.prog 31 #[.int .i64 n] w fun e w' => e = .returned (.bool (decide (0 ≤ n ∧ n ≤ 4096))) ∧ w' = w := by
  by_cases h0 : 0 ≤ n
  · by_cases h1 : n ≤ 4096
    · have e : decide (0 ≤ n ∧ n ≤ 4096) = true := decide_eq_true ⟨h0, h1⟩
      have n2 : decide (0 ≤ n) = true := by simp; omega
      have n3 : decide (n ≤ 4096) = true := by simp; omega
      rw [e]
      clear e
      go_enter Try.func31, Try.ntmps31
      go_wp2_with fail
      go_ret
      exact ⟨rfl, rfl⟩
    · have e : decide (0 ≤ n ∧ n ≤ 4096) = false := decide_eq_false (fun q => h1 q.2)
      have n2 : decide (0 ≤ n) = true := by simp; omega
      have n3 : decide (n ≤ 4096) = false := by simp; omega
      rw [e]
      clear e
      go_enter Try.func31, Try.ntmps31
      go_wp2_with fail
      go_ret
      exact ⟨rfl, rfl⟩
  · have e : decide (0 ≤ n ∧ n ≤ 4096) = false := decide_eq_false (fun q => h0 q.1)
    have n2 : decide (0 ≤ n) = false := by simp; omega
    rw [e]
    clear e
    go_enter Try.func31, Try.ntmps31
    go_wp2_with fail
    go_ret
    exact ⟨rfl, rfl⟩
set_option maxRecDepth 100000 in
set_option maxHeartbeats 4000000 in
theorem tab_size1 (f : Fd) (hf : f.1.size + f.2.size ≤ 1000000000000000000) (w : World) : Calls Try.prog 34 #[.agg f.cells] w fun e w' => e = .returned (.int .i64 (sz f : Nat)) ∧ Below w.heap.size w w' := by
  obtain ⟨fa, fb⟩ := f
  have hs : sz (fa, fb) = fa.size + fb.size + 32 := rfl
  rw [hs]
  obtain ⟨La, hLa⟩ : ∃ La, fa.size = La := ⟨_, rfl⟩
  obtain ⟨Lb, hLb⟩ : ∃ Lb, fb.size = Lb := ⟨_, rfl⟩
  simp only [hLa, hLb] at hf ⊢
  have w1 : IntKind.i64.wrap ((La : Int) + (Lb : Int)) = ((La + Lb : Nat) : Int) := by rw [IntKind.wrap_i64]; omega
  have w2 : IntKind.i64.wrap (((La + Lb : Nat) : Int) + 32) = ((La + Lb + 32 : Nat) : Int) := by rw [IntKind.wrap_i64]; omega
  clear hs
  generalize La + Lb = S1 at *
  generalize S1 + 32 = S2 at *
  show Calls Try.prog 34 #[.agg #[.string fa, .string fb]] w _
  go_enter Try.func34, Try.ntmps34
  go_wp2_with fail
  go_ret
  exact ⟨rfl, (Below.refl w.heap.size w).alloc (Nat.le_refl _) _⟩
end Tb
end Go.Proofs.Ytoajnhngcfjohaa

/-! The program's table: what is there, how many came, how many went; its size. -/
namespace Go.Proofs.Ytoajnhngcfjohaa
open Go Go.RowKit

namespace Tb
/-- Where the fields that are there begin. -/
def thA (p n : Nat) : Nat := if n = 0 then 4 else 4 + p * 2
theorem sl_arr {P : Program} {e : TypeId} {z N : Nat} (t : TypeId) (g o p q : Nat) (hu : P.underlying t = some (.array N e)) (hs : (P.info? e).map (·.size) = some z) (h1 : p ≤ q) (h2 : q ≤ N) (W : World) :
    (Instr.sliceAt t (.pointer (some ⟨g, o, none⟩)) (some (.int .i64 (p : Int))) (some (.int .i64 (q : Int))) (some (.int .i64 (q : Int)))).run P W = .ok (.slice (some ⟨g, if q - p = 0 then o else o + p * z, none⟩) (q - p) (q - p)) W := by
  have hsz : (sizeOf e).run P W = .ok z W := by
    cases hq : P.info? e with
    | none => simp [hq] at hs
    | some i =>
      have : i.size = z := by simpa [hq] using hs
      simp [sizeOf, typeInfo, hq, this]
  by_cases e' : q = p
  · subst e'
    simp [Instr.sliceAt, Instr.sliceBounds, Instr.sliceBound, asIntOf, Instr.sureAddr, run_underlying hu, hsz, h2]
  · have e2 : ¬ q - p = 0 := by omega
    simp [Instr.sliceAt, Instr.sliceBounds, Instr.sliceBound, asIntOf, Instr.sureAddr, run_underlying hu, hsz, h1, h2, Addr.add_mid, e', e2]
theorem fieldSize : (Try.prog.info? 23).map (·.size) = some 2 := by kernel_rfl
set_option maxRecDepth 100000 in
set_option maxHeartbeats 4000000 in
theorem tab_there {w : World} {h : Nat} {t : Tab} {A : List Fd} {p q : Nat} (x : PtOk w h t A p q) (n : Nat) (hn : t.l.length = n) :
    Calls Try.prog 33 #[.pointer (some ⟨h, 0, none⟩)] w fun e w' => e = .returned (.slice (some ⟨h, thA p n, none⟩) n n) ∧ ∃ m, w' = w.drewN m := by
  have x5 := x.c5
  have x6 := x.c6
  have hpq := x.pq
  have hq := x.q1
  have s0 : ∀ W, (Instr.sliceAt 58 (.pointer (some ⟨h, 4, none⟩)) (some (.int .i64 (p : Int))) (some (.int .i64 (q : Int))) (some (.int .i64 (q : Int)))).run Try.prog W = .ok (.slice (some ⟨h, thA p n, none⟩) n n) W := by
    intro W
    have := sl_arr (P := Try.prog) 58 h 4 p q Try.underlying58 fieldSize (by omega) hq W
    rw [this, show q - p = n by omega]
    rfl
  clear x hpq hq hn
  go_enter Try.func33, Try.ntmps33
  go_wp2_with fail
  go_quiet (fail)
  go_wp2_with fail
  go_ret
  exact ⟨rfl, _, rfl⟩
set_option maxRecDepth 100000 in
set_option maxHeartbeats 4000000 in
theorem tab_gone {w : World} {h : Nat} {t : Tab} {A : List Fd} {p q : Nat} (x : PtOk w h t A p q) : Calls Try.prog 18 #[.pointer (some ⟨h, 0, none⟩)] w fun e w' => e = .returned (.int .u64 (t.went : Int)) ∧ w' = w := by
  have x3 := x.c3
  go_enter Try.func18, Try.ntmps18
  go_wp2_with (go_at_call 32; refine (tab_none x).mono ?_; rintro e1 w1 ⟨rfl, rfl⟩)
  go_ret
  exact ⟨rfl, rfl⟩
set_option maxRecDepth 100000 in
set_option maxHeartbeats 4000000 in
theorem tab_gone_nil (w : World) : Calls Try.prog 18 #[.pointer none] w fun e w' => e = .returned (.int .u64 0) ∧ w' = w := by
  go_enter Try.func18, Try.ntmps18
  go_wp2_with (go_at_call 32; refine (tab_none_nil _).mono ?_; rintro e1 w1 ⟨rfl, rfl⟩)
  go_ret
  exact ⟨rfl, rfl⟩
set_option maxRecDepth 100000 in
set_option maxHeartbeats 4000000 in
theorem tab_size {w : World} {h : Nat} {t : Tab} {A : List Fd} {p q : Nat} (x : PtOk w h t A p q) : Calls Try.prog 19 #[.pointer (some ⟨h, 0, none⟩)] w fun e w' => e = .returned (.int .i64 (size t.l : Nat)) ∧ w' = w := by
  have x3 := x.c2
  go_enter Try.func19, Try.ntmps19
  go_wp2_with (go_at_call 32; refine (tab_none x).mono ?_; rintro e1 w1 ⟨rfl, rfl⟩)
  go_ret
  exact ⟨rfl, rfl⟩
set_option maxRecDepth 100000 in
set_option maxHeartbeats 4000000 in
theorem tab_size_nil (w : World) : Calls Try.prog 19 #[.pointer none] w fun e w' => e = .returned (.int .i64 0) ∧ w' = w := by
  go_enter Try.func19, Try.ntmps19
  go_wp2_with (go_at_call 32; refine (tab_none_nil _).mono ?_; rintro e1 w1 ⟨rfl, rfl⟩)
  go_ret
  exact ⟨rfl, rfl⟩
set_option maxRecDepth 100000 in
set_option maxHeartbeats 4000000 in
theorem tab_came {w : World} {h : Nat} {t : Tab} {A : List Fd} {p q : Nat} (x : PtOk w h t A p q) : Calls Try.prog 17 #[.pointer (some ⟨h, 0, none⟩)] w fun e w' => e = .returned (.int .u64 (t.came : Nat)) ∧ ∃ m, w' = w.drewN m := by
  have x3 := x.c3
  have hpq := x.pq
  have hq := x.q1
  have hw := x.wb
  obtain ⟨n, hn⟩ : ∃ n, t.l.length = n := ⟨_, rfl⟩
  have hc : t.came = t.went + n := by unfold Tab.came; rw [hn]
  rw [hc] at hw ⊢
  have v1 : IntKind.u64.wrap (n : Int) = (n : Int) := by rw [IntKind.wrap_u64]; omega
  have v2 : IntKind.u64.wrap ((t.went : Int) + (n : Int)) = ((t.went + n : Nat) : Int) := by rw [IntKind.wrap_u64]; omega
  have HX := veil x
  have HN := veil hn
  clear x hc hpq hq hw hn
  go_enter Try.func17, Try.ntmps17
  go_wp2_with (go_at_call 32; refine (tab_none HX.out).mono ?_; rintro e1 w1 ⟨rfl, rfl⟩)
  go_quiet ((go_at_call 33; exact Calls.quiet_of (tab_there (HX.out.below (below_drewN (Below.refl _ _) _)) _ HN.out)))

  go_wp2_with fail
  go_ret
  exact ⟨rfl, _, rfl⟩
set_option maxRecDepth 100000 in
set_option maxHeartbeats 4000000 in
theorem tab_came_nil (w : World) : Calls Try.prog 17 #[.pointer none] w fun e w' => e = .returned (.int .u64 0) ∧ w' = w := by
  go_enter Try.func17, Try.ntmps17
  go_wp2_with (go_at_call 32; refine (tab_none_nil _).mono ?_; rintro e1 w1 ⟨rfl, rfl⟩)
  go_ret
  exact ⟨rfl, rfl⟩
end Tb
end Go.Proofs.Ytoajnhngcfjohaa

/-! The program's shrink: the eldest fields go. -/
namespace Go.Proofs.Ytoajnhngcfjohaa
open Go Go.RowKit

namespace Tb
section
variable {P : Program} {a : Act} {o : Oper}
theorem lgRun_atArr (t e : TypeId) (N m : Nat) (x ix : Operand) (g off j : Nat) (ho : o.op = .indexAddr t x ix) (hx : a.eval x = .pointer (some ⟨g, off, none⟩)) (hix : a.eval ix = .int .i64 (j : Int))
    (hu : P.underlying t = some (.array N e)) (hi : (P.info? e).map (·.size) = some m) (hj : j < N) (W : World) : (execOp a.eval o).run P W = .ok (.value (.pointer (some ⟨g, off + j * m, none⟩))) W := by
  have hsz : (sizeOf e).run P W = .ok m W := by
    cases hq : P.info? e with
    | none => simp [hq] at hi
    | some i =>
      have : i.size = m := by simpa [hq] using hi
      simp [sizeOf, typeInfo, hq, this]
  unfold execOp
  simp [ho, hx, hix, Instr.indexAt, Instr.sureAddr, asIntOf, run_underlying hu, hj, hsz, Addr.add_mid]
end
theorem KeepP.setCells {st : Nat → Prop} {g : Nat} (hg : st g) : ∀ (vs : List Value) (W : World) (o : Nat), KeepP st W (W.setCells g o vs)
  | [], W, o => by rw [World.setCells]; exact KeepP.refl _ _
  | v :: r, W, o => by rw [World.setCells]; exact (KeepP.setCell hg W o v).trans (KeepP.setCells hg r _ _)
theorem fd_one (f : Fd) : f.cells.all Value.oneCell' = true := by simp [Fd.cells, Value.oneCell']
theorem fds_single (f : Fd) : fds [f] = f.cells.toList := by simp [fds]
/-- What the bound leaves is what goes. -/
theorem gone_b (room n : Nat) (hn : n ≤ room) : ∀ (l : List Fd), gone (room - n) 0 l = gone room n l
  | [] => rfl
  | f :: l => by
    simp only [gone, gone_b room n hn l, Nat.add_zero]
    by_cases h : size (f :: l) + n ≤ room
    · rw [if_pos h, if_pos (by omega)]
    · rw [if_neg h, if_neg (by omega)]
def depS1 : Nat → List Nat
  | 1 => [0]
  | 2 => [1]
  | 3 => [2]
  | 6 => [5]
  | 7 => [6]
  | 8 => [7]
  | 9 => [4]
  | 10 => [9]
  | 11 => [10, 8]
  | 12 => [11]
  | 13 => [12]
  | 14 => [3, 13]
  | 15 => [0]
  | 16 => [15]
  | 17 => [16, 14, 13, 3, 8, 12]
  | _ => []
def dsS1 : List Nat := [10, 11, 12, 13, 14, 15, 16, 17, 18, 19, 20, 21, 22, 23, 24, 25, 26, 100000]
def valS1 (h p s s1 : Nat) (f : Fd) : Nat → Value
  | 0 => .pointer (some ⟨h, 0, none⟩)
  | 1 => .pointer (some ⟨h, 0, none⟩)
  | 2 => .pointer (some ⟨h, 2, none⟩)
  | 3 => .int .i64 (s : Int)
  | 4 => .pointer (some ⟨h, 0, none⟩)
  | 5 => .pointer (some ⟨h, 0, none⟩)
  | 6 => .pointer (some ⟨h, 0, none⟩)
  | 7 => .pointer (some ⟨h, 516, none⟩)
  | 8 => .int .i64 (p : Int)
  | 9 => .pointer (some ⟨h, 0, none⟩)
  | 10 => .pointer (some ⟨h, 4, none⟩)
  | 11 => .pointer (some ⟨h, 4 + p * 2, none⟩)
  | 12 => .agg f.cells
  | 13 => .int .i64 (sz f : Nat)
  | 14 => .int .i64 (s1 : Int)
  | 15 => .pointer (some ⟨h, 0, none⟩)
  | 16 => .pointer (some ⟨h, 2, none⟩)
  | 17 => undef
  | _ => undef
def depS2 : Nat → List Nat
  | 2 => [1]
  | 3 => [2]
  | 4 => [3]
  | 6 => [0]
  | 7 => [6]
  | 8 => [7, 4]
  | 9 => [8, 5, 4]
  | _ => []
def dsS2 : List Nat := [27, 28, 29, 30, 31, 32, 33, 34, 35, 100000]
def valS2 (h p : Nat) : Nat → Value
  | 0 => .pointer (some ⟨h, 0, none⟩)
  | 1 => .pointer (some ⟨h, 0, none⟩)
  | 2 => .pointer (some ⟨h, 0, none⟩)
  | 3 => .pointer (some ⟨h, 516, none⟩)
  | 4 => .int .i64 (p : Int)
  | 5 => .agg fd0.cells
  | 6 => .pointer (some ⟨h, 0, none⟩)
  | 7 => .pointer (some ⟨h, 4, none⟩)
  | 8 => .pointer (some ⟨h, 4 + p * 2, none⟩)
  | 9 => undef
  | _ => undef

def mz (h : Nat) (W : World) : Nat := 256 - (((W.cell? ⟨h, 516, none⟩).map intOf).getD 0).toNat
set_option maxRecDepth 100000 in
set_option maxHeartbeats 4000000 in
theorem tab_shrink {w : World} {h : Nat} {t : Tab} {A : List Fd} {p0 q : Nat} (x : PtOk w h t A p0 q) (b : Nat) (hb : b ≤ 4096) :
    Calls Try.prog 35 #[.pointer (some ⟨h, 0, none⟩), .int .i64 (b : Int)] w fun e w' => e = .returned (.tuple #[]) ∧
      ∃ A' p', PtOk w' h ⟨t.room, t.went + gone b 0 t.l, t.l.drop (gone b 0 t.l)⟩ A' p' q ∧ KeepP (fun k => k = h) w w' := by
  have HX := veil x
  clear x
  go_enter Try.func35, Try.ntmps35
  go_wp2_with fail
  go_loopw [] (fun wr => ∃ k A' p', PtOk wr h ⟨t.room, t.went + k, t.l.drop k⟩ A' p' q ∧ k ≤ t.l.length ∧ (∀ j, j < k → b < size (t.l.drop j)) ∧ KeepP (fun k => k = h) w wr)
    (fun wr => mz h wr)
  case atStart => exact ⟨0, A, p0, HX.out, Nat.zero_le _, fun j hj => absurd hj (Nat.not_lt_zero _), KeepP.refl _ _⟩
  case round =>
    obtain ⟨k, A', p, x, hk, hneed, hkeep⟩ := hrel
    have x2 := x.c2
    simp only at x2
    by_cases hs : b < size (t.l.drop k)
    · obtain ⟨f, l', hl⟩ : ∃ f l', t.l.drop k = f :: l' := by
        cases h9 : t.l.drop k with
        | nil => rw [h9] at hs; exact absurd hs (Nat.not_lt_zero _)
        | cons f l' => exact ⟨f, l', rfl⟩
      rw [hl] at hs x x2
      have hlk : k < t.l.length := by
        rcases Nat.lt_or_ge k t.l.length with e | e
        · exact e
        · rw [List.drop_of_length_le e] at hl; cases hl
      have hA := x.al
      have hpq := x.pq
      have hq1 := x.q1
      have hf : A'[p]? = some f := by have := x.l 0 (by simp); simpa using this
      have hS : size (f :: l') = sz f + size l' := rfl
      have hsz := x.sz
      have hrow : PtR wr h t.room (size (f :: l')) (t.went + k) A' p q := x.row
      have hl' : t.l.drop (k + 1) = l' := by rw [← List.drop_drop, hl]; rfl
      have hwb := x.wb
      obtain ⟨s, hs0⟩ : ∃ s, size (f :: l') = s := ⟨_, rfl⟩
      obtain ⟨s1, hs1⟩ : ∃ s1, size l' = s1 := ⟨_, rfl⟩
      obtain ⟨g, hg⟩ : ∃ g, t.went + k = g := ⟨_, rfl⟩
      simp only at hsz
      rw [hs0] at hs x2 hrow hsz
      rw [hs0, hs1] at hS
      rw [hg] at hrow
      have hfz : f.1.size + f.2.size ≤ 4096 := by have : sz f = f.1.size + f.2.size + 32 := rfl; omega
      have hp : p < 256 := by rw [List.length_cons] at hpq; omega
      have hg1 : g < 1000000000000 := by unfold Tab.came at hwb; simp only [List.length_cons] at hwb; omega
      have HW := veil hrow
      have HX := veil x
      have HL := veil (show _ ∧ _ ∧ _ ∧ _ ∧ _ ∧ _ ∧ _ ∧ _ from ⟨hl, hl', hlk, hneed, hs0, hs1, hg, hpq⟩)
      have HK := veil hkeep
      have hS' : sz f + s1 = s := hS.symm
      have n0 : (b : Int) < (s : Int) := by omega
      clear hrow x hl hl' hlk hneed hs0 hs1 hg hkeep hS hk hpq hwb
      go_upto_region 1 with fail
      go_cut [] (fun W => PtR W h t.room s1 g A' p q ∧ KeepP (fun k => k = h) wr W)
      case first =>
        go_wp2_with fail
        refine (wpIn_wide (n := 4)).1 ?_
        refine wpIn_region_any (by kernel_rfl) ?_
        refine anyIn_line2 (valS1 h p s s1 f) (fun m W => (m ≤ 1 → Below wr.heap.size wr W) ∧ (1 < m → PtR W h t.room s1 g A' p q ∧ KeepP (fun k => k = h) wr W)) [13, 17] dsS1 depS1 (by kernel_rfl) rfl (by decide) (by decide) ?ord ?inn ?h0 ?fix ?cal ?done
        case ord =>
          intro k i j h1 h2
          match k, h1, h2 with
          | 0, h1, h2 => obtain rfl := Option.some.inj h1; obtain rfl := Option.some.inj h2; exact .inl (by decide)
          | k + 1, _, h2 => simp at h2
        case inn => intro j hj; simp at hj; show j < 18; omega
        case h0 => exact ⟨fun _ => (Below.refl _ _).drew, fun h => absurd h (by omega)⟩
        case fix =>
          intro x W m ii d hR hm hdi hc hdep
          match ii, hm, hdi, hc, hdep with
          | 0, _, hdi, _, _ =>
            obtain rfl := Option.some.inj hdi
            exact OI_value rfl rfl (about_none (by intro c h; cases h)) (by intro c h; cases h) (.pointer (some ⟨h, 0, none⟩)) W (by kernel_rfl) ⟨rfl, rfl⟩
          | 1, _, hdi, _, hdep =>
            obtain rfl := Option.some.inj hdi
            rw [updV_self (show x 0 = _ from hdep 0 (by simp [depS1]))]
            exact OI_value rfl rfl (about_none (by intro c h; cases h)) (by intro c h; cases h) (.pointer (some ⟨h, 0, none⟩)) W (by kernel_rfl) ⟨rfl, rfl⟩
          | 2, _, hdi, _, hdep =>
            obtain rfl := Option.some.inj hdi
            rw [updV_self (show x 1 = _ from hdep 1 (by simp [depS1]))]
            exact OI_value rfl rfl (about_none (by intro c h; cases h)) (by intro c h; cases h) (.pointer (some ⟨h, 2, none⟩)) W (by kernel_rfl) ⟨rfl, rfl⟩
          | 3, hm, hdi, _, hdep =>
            obtain rfl := Option.some.inj hdi
            have hW := hR.1 (hm 1 17 rfl (by simp [depS1]))
            rw [updV_self (show x 2 = _ from hdep 2 (by simp [depS1]))]
            exact OI_value rfl rfl (about_none (by intro c h; cases h)) (by intro c h; cases h) (.int .i64 (s : Int)) W (lgRun_cell 3 _ ⟨h, 2, none⟩ _ _ rfl (by kernel_rfl) Try.underlying3 rfl W (pr2 (Row.below HW.out hW (Row.lt HW.out)))) ⟨rfl, rfl⟩
          | 4, _, hdi, _, _ =>
            obtain rfl := Option.some.inj hdi
            exact OI_value rfl rfl (about_none (by intro c h; cases h)) (by intro c h; cases h) (.pointer (some ⟨h, 0, none⟩)) W (by kernel_rfl) ⟨rfl, rfl⟩
          | 5, _, hdi, _, _ =>
            obtain rfl := Option.some.inj hdi
            exact OI_value rfl rfl (about_none (by intro c h; cases h)) (by intro c h; cases h) (.pointer (some ⟨h, 0, none⟩)) W (by kernel_rfl) ⟨rfl, rfl⟩
          | 6, _, hdi, _, hdep =>
            obtain rfl := Option.some.inj hdi
            rw [updV_self (show x 5 = _ from hdep 5 (by simp [depS1]))]
            exact OI_value rfl rfl (about_none (by intro c h; cases h)) (by intro c h; cases h) (.pointer (some ⟨h, 0, none⟩)) W (by kernel_rfl) ⟨rfl, rfl⟩
          | 7, _, hdi, _, hdep =>
            obtain rfl := Option.some.inj hdi
            rw [updV_self (show x 6 = _ from hdep 6 (by simp [depS1]))]
            exact OI_value rfl rfl (about_none (by intro c h; cases h)) (by intro c h; cases h) (.pointer (some ⟨h, 516, none⟩)) W (by kernel_rfl) ⟨rfl, rfl⟩
          | 8, hm, hdi, _, hdep =>
            obtain rfl := Option.some.inj hdi
            have hW := hR.1 (hm 1 17 rfl (by simp [depS1]))
            rw [updV_self (show x 7 = _ from hdep 7 (by simp [depS1]))]
            exact OI_value rfl rfl (about_none (by intro c h; cases h)) (by intro c h; cases h) (.int .i64 (p : Int)) W (lgRun_cell 3 _ ⟨h, 516, none⟩ _ _ rfl (by kernel_rfl) Try.underlying3 rfl W (pr5 (Row.below HW.out hW (Row.lt HW.out)) hA)) ⟨rfl, rfl⟩
          | 9, _, hdi, _, hdep =>
            obtain rfl := Option.some.inj hdi
            rw [updV_self (show x 4 = _ from hdep 4 (by simp [depS1]))]
            exact OI_value rfl rfl (about_none (by intro c h; cases h)) (by intro c h; cases h) (.pointer (some ⟨h, 0, none⟩)) W (by kernel_rfl) ⟨rfl, rfl⟩
          | 10, _, hdi, _, hdep =>
            obtain rfl := Option.some.inj hdi
            rw [updV_self (show x 9 = _ from hdep 9 (by simp [depS1]))]
            exact OI_value rfl rfl (about_none (by intro c h; cases h)) (by intro c h; cases h) (.pointer (some ⟨h, 4, none⟩)) W (by kernel_rfl) ⟨rfl, rfl⟩
          | 11, _, hdi, _, hdep =>
            obtain rfl := Option.some.inj hdi
            rw [updV_self (show x 10 = _ from hdep 10 (by simp [depS1])), updV_self (show (updV x 10 _) 8 = _ from hdep 8 (by simp [depS1]))]
            exact OI_value rfl rfl (about_none (by intro c h; cases h)) (by intro c h; cases h) (.pointer (some ⟨h, 4 + p * 2, none⟩)) W (lgRun_atArr 58 _ 256 2 _ _ h 4 p rfl (by kernel_rfl) (by kernel_rfl) Try.underlying58 fieldSize hp W) ⟨rfl, rfl⟩
          | 12, hm, hdi, _, hdep =>
            obtain rfl := Option.some.inj hdi
            have hW := hR.1 (hm 1 17 rfl (by simp [depS1]))
            rw [updV_self (show x 11 = _ from hdep 11 (by simp [depS1]))]
            exact OI_value rfl rfl (about_none (by intro c h; cases h)) (by intro c h; cases h) (.agg f.cells) W (run_midT 23 _ h (4 + p * 2) f.cells.toList _ rfl (by kernel_rfl) Try.underlying23 rfl (by kernel_rfl) W (prF (Row.below HW.out hW (Row.lt HW.out)) hf)) ⟨rfl, rfl⟩
          | 13, _, _, hc, _ => exact (hc (by simp)).elim
          | 14, _, hdi, _, hdep =>
            obtain rfl := Option.some.inj hdi
            rw [updV_self (show x 3 = _ from hdep 3 (by simp [depS1])), updV_self (show (updV x 3 _) 13 = _ from hdep 13 (by simp [depS1]))]
            exact OI_value rfl rfl (about_none (by intro c h; cases h)) (by intro c h; cases h) (.int .i64 (s1 : Int)) W (lgRun_sub _ _ _ _ s (sz f) s1 hS' (by omega) rfl (by kernel_rfl) (by kernel_rfl) W) ⟨rfl, rfl⟩
          | 15, _, hdi, _, hdep =>
            obtain rfl := Option.some.inj hdi
            rw [updV_self (show x 0 = _ from hdep 0 (by simp [depS1]))]
            exact OI_value rfl rfl (about_none (by intro c h; cases h)) (by intro c h; cases h) (.pointer (some ⟨h, 0, none⟩)) W (by kernel_rfl) ⟨rfl, rfl⟩
          | 16, _, hdi, _, hdep =>
            obtain rfl := Option.some.inj hdi
            rw [updV_self (show x 15 = _ from hdep 15 (by simp [depS1]))]
            exact OI_value rfl rfl (about_none (by intro c h; cases h)) (by intro c h; cases h) (.pointer (some ⟨h, 2, none⟩)) W (by kernel_rfl) ⟨rfl, rfl⟩
          | 17, _, _, hc, _ => exact (hc (by simp)).elim
          | _ + 18, _, hdi, _, _ => simp [dsS1] at hdi
        case cal =>
          intro x W k ii d hR hk hdi hdep
          match k, hk, hR with
          | 0, hk, hR =>
            obtain rfl := Option.some.inj hk
            obtain rfl := Option.some.inj hdi
            rw [updV_self (show x 12 = _ from hdep 12 (by simp [depS1]))]
            have hW := hR.1 (by omega)
            refine OI_call rfl rfl (by intro c h; cases h) 34 #[.agg f.cells] (fun _ _ => trivial) (by kernel_rfl) (by decide) ?_
            refine (callsIn_wide.2 (tab_size1 f (by omega) W)).mono ?_
            rintro e w9 ⟨rfl, hb9⟩
            exact ⟨_, rfl, rfl, fun _ => hW.trans (hb9.mono hW.size), fun h => absurd h (by omega)⟩
          | 1, hk, hR =>
            obtain rfl := Option.some.inj hk
            obtain rfl := Option.some.inj hdi
            rw [updV_self (show x 16 = _ from hdep 16 (by simp [depS1])), updV_self (show (updV x 16 _) 14 = _ from hdep 14 (by simp [depS1]))]
            have hW := hR.1 (by omega)
            refine OI_skip rfl rfl (about_none (by intro c h; cases h)) (by intro c h; cases h) (W.setCell ⟨h, 2, none⟩ (.int .i64 (s1 : Int))) (lgRun_store 3 _ _ ⟨h, 2, none⟩ (.int .i64 (s1 : Int)) _ rfl rfl (by kernel_rfl) (by kernel_rfl) (by kernel_rfl) W (pr2 (Row.below HW.out hW (Row.lt HW.out))) (Row.frozen (Row.below HW.out hW (Row.lt HW.out)) 2)) ?_
            refine ⟨(put_none _ _).trans (put_far _ _ _ (by rw [puts_size]; exact Nat.le_of_ble_eq_true rfl)).symm, fun h => absurd h (by omega), fun _ => ⟨set_size (Row.below HW.out hW (Row.lt HW.out)) s1, (KeepP.of_below hW).trans (KeepP.setCell (st := fun k => k = h) rfl _ _ _)⟩⟩
          | _ + 2, hk, _ => simp at hk
        case done =>
          intro W hR
          simp only [dsS1, putsV, valS1, Act.put, List.setIfInBounds_toArray, List.set_cons_succ, List.set_cons_zero, Nat.reduceAdd]
          have HR := veil (hR.2 (by decide))
          clear hR
          go_wp2_with fail
          go_meet
          exact HR.out
      case rest =>

        obtain ⟨hW1, hK1⟩ := hcut
        have HW1 := veil hW1
        have HK1 := veil hK1
        clear hW1 hK1 x2
        go_upto_region 2 with fail
        go_cut [] (fun W => PtR W h t.room s1 g (A'.take p ++ [fd0] ++ A'.drop (p + 1)) p q ∧ KeepP (fun k => k = h) wc W)
        case first =>
          go_wp2_with fail
          refine (wpIn_wide (n := 4)).1 ?_
          refine wpIn_region_any (by kernel_rfl) ?_
          refine anyIn_line2 (valS2 h p) (fun m W => (m ≤ 0 → Below wc.heap.size wc W) ∧ (0 < m → PtR W h t.room s1 g (A'.take p ++ [fd0] ++ A'.drop (p + 1)) p q ∧ KeepP (fun k => k = h) wc W)) [9] dsS2 depS2 (by kernel_rfl) rfl (by decide) (by decide) ?ord ?inn ?h0 ?fix ?cal ?done
          case ord =>
            intro k i j h1 h2
            simp at h2
          case inn => intro j hj; simp at hj; show j < 10; omega
          case h0 => exact ⟨fun _ => (Below.refl _ _).drew, fun h => absurd h (by omega)⟩
          case fix =>
            intro x W m ii d hR hm hdi hc hdep
            match ii, hm, hdi, hc, hdep with
            | 0, _, hdi, _, _ =>
              obtain rfl := Option.some.inj hdi
              exact OI_value rfl rfl (about_none (by intro c h; cases h)) (by intro c h; cases h) (.pointer (some ⟨h, 0, none⟩)) W (by kernel_rfl) ⟨rfl, rfl⟩
            | 1, _, hdi, _, _ =>
              obtain rfl := Option.some.inj hdi
              exact OI_value rfl rfl (about_none (by intro c h; cases h)) (by intro c h; cases h) (.pointer (some ⟨h, 0, none⟩)) W (by kernel_rfl) ⟨rfl, rfl⟩
            | 2, _, hdi, _, hdep =>
              obtain rfl := Option.some.inj hdi
              rw [updV_self (show x 1 = _ from hdep 1 (by simp [depS2]))]
              exact OI_value rfl rfl (about_none (by intro c h; cases h)) (by intro c h; cases h) (.pointer (some ⟨h, 0, none⟩)) W (by kernel_rfl) ⟨rfl, rfl⟩
            | 3, _, hdi, _, hdep =>
              obtain rfl := Option.some.inj hdi
              rw [updV_self (show x 2 = _ from hdep 2 (by simp [depS2]))]
              exact OI_value rfl rfl (about_none (by intro c h; cases h)) (by intro c h; cases h) (.pointer (some ⟨h, 516, none⟩)) W (by kernel_rfl) ⟨rfl, rfl⟩
            | 4, hm, hdi, _, hdep =>
              obtain rfl := Option.some.inj hdi
              have hW := hR.1 (hm 0 9 rfl (by simp [depS2]))
              rw [updV_self (show x 3 = _ from hdep 3 (by simp [depS2]))]
              exact OI_value rfl rfl (about_none (by intro c h; cases h)) (by intro c h; cases h) (.int .i64 (p : Int)) W (lgRun_cell 3 _ ⟨h, 516, none⟩ _ _ rfl (by kernel_rfl) Try.underlying3 rfl W (pr5 (Row.below HW1.out hW (Row.lt HW1.out)) hA)) ⟨rfl, rfl⟩
            | 5, _, hdi, _, _ =>
              obtain rfl := Option.some.inj hdi
              exact OI_value rfl rfl (about_none (by intro c h; cases h)) (by intro c h; cases h) (.agg fd0.cells) W (by kernel_rfl) ⟨rfl, rfl⟩
            | 6, _, hdi, _, hdep =>
              obtain rfl := Option.some.inj hdi
              rw [updV_self (show x 0 = _ from hdep 0 (by simp [depS2]))]
              exact OI_value rfl rfl (about_none (by intro c h; cases h)) (by intro c h; cases h) (.pointer (some ⟨h, 0, none⟩)) W (by kernel_rfl) ⟨rfl, rfl⟩
            | 7, _, hdi, _, hdep =>
              obtain rfl := Option.some.inj hdi
              rw [updV_self (show x 6 = _ from hdep 6 (by simp [depS2]))]
              exact OI_value rfl rfl (about_none (by intro c h; cases h)) (by intro c h; cases h) (.pointer (some ⟨h, 4, none⟩)) W (by kernel_rfl) ⟨rfl, rfl⟩
            | 8, _, hdi, _, hdep =>
              obtain rfl := Option.some.inj hdi
              rw [updV_self (show x 7 = _ from hdep 7 (by simp [depS2])), updV_self (show (updV x 7 _) 4 = _ from hdep 4 (by simp [depS2]))]
              exact OI_value rfl rfl (about_none (by intro c h; cases h)) (by intro c h; cases h) (.pointer (some ⟨h, 4 + p * 2, none⟩)) W (lgRun_atArr 58 _ 256 2 _ _ h 4 p rfl (by kernel_rfl) (by kernel_rfl) Try.underlying58 fieldSize hp W) ⟨rfl, rfl⟩
            | 9, _, _, hc, _ => exact (hc (by simp)).elim
            | _ + 10, _, hdi, _, _ => simp [dsS2] at hdi
          case cal =>
            intro x W k ii d hR hk hdi hdep
            match k, hk, hR with
            | 0, hk, hR =>
              obtain rfl := Option.some.inj hk
              obtain rfl := Option.some.inj hdi
              rw [updV_self (show x 8 = _ from hdep 8 (by simp [depS2])), updV_self (show (updV x 8 _) 5 = _ from hdep 5 (by simp [depS2]))]
              have hW := hR.1 (by omega)
              refine OI_skip rfl rfl (about_none (by intro c h; cases h)) (by intro c h; cases h) (W.setCells h (4 + p * 2) fd0.cells.toList) (run_smidT 23 _ _ h (4 + p * 2) fd0.cells.toList rfl (by kernel_rfl) (by kernel_rfl) (by kernel_rfl) (fd_one _) W (Row.thereH (Row.below HW1.out hW (Row.lt HW1.out)) _ _ (by rw [ptC_size hA]; show 4 + p * 2 + 2 ≤ 518; omega))) ?_
              refine ⟨(put_none _ _).trans (put_far _ _ _ (by rw [puts_size]; exact Nat.le_of_ble_eq_true rfl)).symm, fun h => absurd h (by omega), fun _ => ⟨?_, (KeepP.of_below hW).trans (KeepP.setCells (st := fun k => k = h) rfl _ _ _)⟩⟩
              have := set_fields (Row.below HW1.out hW (Row.lt HW1.out)) p [fd0] (by rw [hA]; show p + 1 ≤ 256; omega)
              rw [fds_single] at this
              exact this
            | _ + 1, hk, _ => simp at hk
          case done =>
            intro W hR
            simp only [dsS2, putsV, valS2, Act.put, List.setIfInBounds_toArray, List.set_cons_succ, List.set_cons_zero, Nat.reduceAdd]
            have HR := veil (hR.2 (by decide))
            clear hR
            go_wp2_with fail
            go_meet
            exact HR.out
        case rest =>
          obtain ⟨hW2, hK2⟩ := hcut
          have hA2 : (A'.take p ++ [fd0] ++ A'.drop (p + 1)).length = 256 := by simp [hA]; omega
          have hl2 : ∀ j, (A'.take p ++ [fd0] ++ A'.drop (p + 1))[p + 1 + j]? = A'[p + 1 + j]? := by
            intro j
            rw [List.getElem?_append_right (by simp; omega)]
            simp only [List.length_append, List.length_take, List.length_singleton, List.getElem?_drop]
            congr 1
            omega
          have x5 := pr5 hW2 hA2
          have x3 := pr3 hW2
          have f5 := Row.frozen hW2 516
          have f3 := Row.frozen hW2 3
          have v5 : IntKind.i64.wrap ((p : Int) + 1) = ((p + 1 : Nat) : Int) := by rw [IntKind.wrap_i64]; omega
          have v3 : IntKind.u64.wrap ((g : Int) + 1) = ((g + 1 : Nat) : Int) := by rw [IntKind.wrap_u64]; omega
          have hfin := veil (set_gone (set_from hW2 hA2 (p + 1)) (g + 1))
          have hkf := veil (((HK.out.trans HK1.out).trans hK2).trans ((KeepP.setCell (st := fun k => k = h) rfl wc 516 (.int .i64 ((p + 1 : Nat) : Int))).trans (KeepP.setCell (st := fun k => k = h) rfl _ 3 (.int .u64 ((g + 1 : Nat) : Int)))))
          have hm2 := veil (show mz h ((wc.setCell ⟨h, 516, none⟩ (.int .i64 ((p + 1 : Nat) : Int))).setCell ⟨h, 3, none⟩ (.int .u64 ((g + 1 : Nat) : Int))) = 256 - (p + 1) from by unfold mz; rw [pr5 hfin.out hA2]; rfl)
          have hA2 := veil hA2
          have hl2 := veil hl2
          have hm := veil (show mz h wr = 256 - p from by unfold mz; rw [HX.out.c5]; rfl)
          have hf := veil hf
          clear hW2 hK2 hA
          go_wp2_with fail
          go_roundw
          case rel =>
            obtain ⟨h1, h2, h3, h4, h5, h6, h7, h8⟩ := HL.out
            refine ⟨k + 1, _, p + 1, ⟨?_, hA2.out, ?_, hq1, ?_, ?_, HX.out.rb, ?_⟩, h3, ?_, hkf.out⟩
            · show PtR _ h t.room (size (t.l.drop (k + 1))) (t.went + (k + 1)) _ (p + 1) q
              rw [h2, h6, ← Nat.add_assoc, h7]
              exact hfin.out
            · show p + 1 + (t.l.drop (k + 1)).length = q
              rw [h2]
              simp only [List.length_cons] at h8
              omega
            · intro j hj
              show _ = (t.l.drop (k + 1))[j]?
              have hj : j < (t.l.drop (k + 1)).length := hj
              rw [h2] at hj ⊢
              rw [hl2.out]
              have := HX.out.l (j + 1) (by simp only [List.length_cons]; omega)
              rw [show p + 1 + j = p + (j + 1) by omega, this]
              rfl
            · show size (t.l.drop (k + 1)) ≤ 4096
              rw [h2, h6]
              omega
            · have := HX.out.wb
              unfold Tab.came at this ⊢
              simp only [List.length_cons] at this
              show t.went + (k + 1) + (t.l.drop (k + 1)).length ≤ _
              rw [h2]
              omega
            · intro j hj
              rcases Nat.lt_or_ge j k with e | e
              · exact h4 j e
              · obtain rfl : j = k := by omega
                rw [h1, h5]
                exact hs
          case measure =>
            rw [hm.out]
            exact Nat.lt_of_le_of_lt (Nat.le_of_eq hm2.out) (by omega)
    · have hle : size (t.l.drop k) ≤ b := by omega
      have hgone : gone b 0 t.l = k := gone_is b 0 t.l k hk (fun j hj => by have := hneed j hj; omega) (.inr (by omega))
      have n0 : ¬ ((b : Int) < ((size (t.l.drop k) : Nat) : Int)) := by omega
      have HX := veil x
      have HK := veil hkeep
      obtain ⟨s, hs0⟩ : ∃ s, size (t.l.drop k) = s := ⟨_, rfl⟩
      rw [hs0] at x2 n0
      have HG := veil hgone
      clear x hkeep hneed hk hs hle hs0 hgone
      go_wp2_with fail
      go_end0
      exact ⟨rfl, ⟨A', p, by rw [HG.out]; exact HX.out⟩, HK.out⟩
end Tb
end Go.Proofs.Ytoajnhngcfjohaa
