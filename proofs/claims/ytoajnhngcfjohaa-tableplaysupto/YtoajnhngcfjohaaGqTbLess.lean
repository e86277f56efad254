/-
  The document's less: the eldest go.
-/
import Derived.Test.YtoajnhngcfjohaaGqTbLast0
import Derived.Test.YtoajnhngcfjohaaGqLgCutOT
import Derived.Test.YtoajnhngcfjohaaGq2
namespace Go.Proofs.Ytoajnhngcfjohaa
open Go Go.RowKit

namespace Tb
theorem RtOk.ne {w : World} {h : Nat} {t : Tab} {v : Value} (x : RtOk w h t v) : ∀ k, v.ownBlock = some k → k ≠ h := by
  rintro k hk rfl
  rcases x.own.2 with ⟨rfl, _⟩ | ⟨g, o, cap, cur, rfl, hg, _⟩
  · simp [Value.ownBlock] at hk
  · simp [Value.ownBlock] at hk
    subst hk
    have h1 := hg.symm.trans x.row
    simp at h1
theorem RtOk.other {w : World} {h h' : Nat} {t : Tab} {v : Value} {cs : Array Value} (x : RtOk w h t v) (hr : Row w h' 60 cs) : h' ≠ h ∧ ∀ k, v.ownBlock = some k → k ≠ h' := by
  refine ⟨?_, ?_⟩
  · rintro rfl
    have h1 := hr.symm.trans x.row
    simp at h1
  · rintro k hk rfl
    rcases x.own.2 with ⟨rfl, _⟩ | ⟨g, o, cap, cur, rfl, hg, _⟩
    · simp [Value.ownBlock] at hk
    · simp [Value.ownBlock] at hk
      subst hk
      have h1 := hg.symm.trans hr
      simp at h1
theorem rt_setL {w : World} {h : Nat} {t : Tab} {v : Value} (x : Row w h 62 (rtC t v)) (v' : Value) (l' : List Fd) : Row (w.setCell ⟨h, 1, none⟩ v') h 62 (rtC ⟨t.room, t.went, l'⟩ v') := by
  have := Row.set x 1 v'
  simpa [rtC] using this
theorem rt_setG {w : World} {h : Nat} {t : Tab} {v : Value} (x : Row w h 62 (rtC t v)) (g : Nat) : Row (w.setCell ⟨h, 2, none⟩ (.int .u64 (g : Int))) h 62 (rtC ⟨t.room, g, t.l⟩ v) := by
  have := Row.set x 2 (.int .u64 (g : Int))
  simpa [rtC] using this
theorem rt_setR {w : World} {h : Nat} {t : Tab} {v : Value} (x : Row w h 62 (rtC t v)) (r : Nat) : Row (w.setCell ⟨h, 0, none⟩ (.int .i64 (r : Int))) h 62 (rtC ⟨r, t.went, t.l⟩ v) := by
  have := Row.set x 0 (.int .i64 (r : Int))
  simpa [rtC] using this
def mzR (h : Nat) (W : World) : Nat := match W.cell? ⟨h, 1, none⟩ with
  | some (.slice _ n _) => n
  | _ => 0
/-- What the document's less and its like change. -/
structure RtStep (w : World) (h : Nat) (t' : Tab) (v : Value) (w' : World) (v' : Value) : Prop where
  ok : RtOk w' h t' v'
  keep : KeepP (fun k => k = h ∨ v.ownBlock = some k) w w'
  own : ∀ k, v'.ownBlock = some k → v.ownBlock = some k ∨ w.heap.size ≤ k
theorem RtStep.below {w w1 w2 : World} {h : Nat} {t' : Tab} {v v' : Value} (x : RtStep w h t' v w1 v') (hb : Below w1.heap.size w1 w2) : RtStep w h t' v w2 v' :=
  ⟨x.ok.below hb, x.keep.trans (KeepP.of_below hb), x.own⟩
/-- The list lacks its first field: in memory of its own. -/
theorem rt_tail {w wq : World} {h room went : Nat} {f : Fd} {l' : List Fd} {v : Value} {g o cap : Nat} (x : RtStep w h ⟨room, went, f :: l'⟩ v wq (.slice (some ⟨g, o, none⟩) (f :: l').length cap)) (ty : TypeId)
    (hl : l'.length ≤ 100000) (hw : went + 1 ≤ 1000000000000) (c : Nat) :
    ∃ v2 w2, (Builtin.append_ #[49, 49] ty #[.slice none 0 0, .slice (some ⟨g, cutO o cap 1 2, none⟩) l'.length c]).run Try.prog wq = .ok v2 w2 ∧ (∃ a2 c2, v2 = .slice a2 l'.length c2) ∧
      w2.cell? ⟨h, 1, none⟩ = wq.cell? ⟨h, 1, none⟩ ∧ w2.cell? ⟨h, 2, none⟩ = wq.cell? ⟨h, 2, none⟩ ∧ w2.frozen? ⟨h, 1, none⟩ = false ∧ w2.frozen? ⟨h, 2, none⟩ = false ∧
      RtStep w h ⟨room, went + 1, l'⟩ v ((w2.setCell ⟨h, 1, none⟩ v2).setCell ⟨h, 2, none⟩ (.int .u64 ((went + 1 : Nat) : Int))) v2 ∧ mzR h ((w2.setCell ⟨h, 1, none⟩ v2).setCell ⟨h, 2, none⟩ (.int .u64 ((went + 1 : Nat) : Int))) = l'.length := by
  have hcl := fun j u => RowO.cells x.ok.own j u
  have hcap : (f :: l').length ≤ cap := by
    obtain ⟨a', c', e, h1, _⟩ := x.ok.own.shape
    injection e with _ _ e3
    rw [e3]
    exact h1
  have hc : ∀ j u, (fds l')[j]? = some u → wq.cell? ((⟨g, cutO o cap 1 2, none⟩ : Addr).add j) = some u := by
    intro j u hu
    have hj := (List.getElem?_eq_some_iff.1 hu).1
    rw [fds_length] at hj
    have hne : ¬ 1 = cap := by simp only [List.length_cons] at hcap; omega
    unfold cutO
    rw [if_neg hne, Addr.add_mid]
    have hu2 : (fds (f :: l'))[2 + j]? = some u := by
      show (f.cells.toList ++ fds l')[2 + j]? = _
      rw [List.getElem?_append_right (by show 2 ≤ 2 + j; omega)]
      show (fds l')[2 + j - 2]? = _
      rw [Nat.add_sub_cancel_left]
      exact hu
    obtain ⟨g', o', e, y⟩ := hcl _ _ hu2
    obtain ⟨rfl, rfl⟩ : g = g' ∧ o = o' := by injection e with e; injection e with e1 e2; exact ⟨e1, e2⟩
    rw [show o + 1 * 2 + j = o + (2 + j) by omega]
    exact y
  obtain ⟨v2, w2, h1, h2, h3⟩ := fds_append_from wq ty (.slice none 0 0) [] (RowO.nil _ _ _) (by simp) l' ⟨g, cutO o cap 1 2, none⟩ c hl hc
  rw [List.nil_append] at h2
  have hrow := x.ok.row
  have hlt := hrow.lt
  rcases h3 with ⟨_, e2, _⟩ | ⟨e1, e2⟩
  · exact absurd rfl e2
  · have hk : KeepP (fun _ => False) wq w2 := ⟨e1.os, e1.tape, e1.output, e1.size, fun k hk _ => e1.block k hk (by intro q; cases q)⟩
    have hrow2 : Row w2 h 62 (rtC ⟨room, went, f :: l'⟩ (.slice (some ⟨g, o, none⟩) (f :: l').length cap)) := (hk.block h hlt (fun e => e)).trans hrow
    have hvne : ∀ k, v2.ownBlock = some k → k ≠ h := fun k hk' e => by have := e2 k hk'; omega
    have r1 := rt_setG (rt_setL hrow2 v2 l') (went + 1)
    obtain ⟨a2, c2, hv2, _, _⟩ := h2.shape
    refine ⟨v2, w2, h1, ⟨a2, c2, hv2⟩, ?_, ?_, Row.frozen hrow2 1, Row.frozen hrow2 2, ⟨⟨r1, ?_, ?_, hw⟩, ?_, ?_⟩, ?_⟩
    · exact (Row.cell hrow2 1).trans (Row.cell hrow 1).symm
    · exact (Row.cell hrow2 2).trans (Row.cell hrow 2).symm
    · refine h2.same fun k hk' => ?_
      have hne : k ≠ h := hvne k hk'
      exact (heap_setCell_other _ ⟨h, 2, none⟩ k _ hne).trans (heap_setCell_other _ ⟨h, 1, none⟩ k _ hne)
    · have := x.ok.sz
      simp only [size] at this
      show size l' ≤ _
      omega
    · refine x.keep.trans ((hk.mono fun _ e => e.elim).trans ((KeepP.setCell (st := fun k => k = h ∨ v.ownBlock = some k) (.inl rfl) _ 1 v2).trans (KeepP.setCell (st := fun k => k = h ∨ v.ownBlock = some k) (.inl rfl) _ 2 _)))
    · intro k hk'
      have := e2 k hk'
      have := x.keep.size
      exact .inr (by omega)
    · unfold mzR
      have : ((w2.setCell ⟨h, 1, none⟩ v2).setCell ⟨h, 2, none⟩ (.int .u64 ((went + 1 : Nat) : Int))).cell? ⟨h, 1, none⟩ = some v2 := Row.cell r1 1
      rw [this, hv2]
set_option maxRecDepth 100000 in
set_option maxHeartbeats 4000000 in
theorem ref_less {w : World} {h : Nat} {t : Tab} {v : Value} (x : RtOk w h t v) (n : Nat) (hn : n ≤ 1000000) (hr : t.room ≤ 4096) (hc : t.came ≤ 1000000000000) (hl : t.l.length ≤ 100000) :
    Calls Try.prog 37 #[.pointer (some ⟨h, 0, none⟩), .int .i64 (n : Int)] w fun e w' => e = .returned (.tuple #[]) ∧ ∃ v', RtStep w h (t.less n) v w' v' := by
  have HX := veil x
  have HB := veil (And.intro hc hl)
  clear x hc hl
  go_enter Try.func37, Try.ntmps37
  go_wp2_with fail
  go_loopw [] (fun wr => ∃ k v', RtStep w h ⟨t.room, t.went + k, t.l.drop k⟩ v wr v' ∧ k ≤ t.l.length ∧ (∀ j, j < k → t.room < size (t.l.drop j) + n))
    (fun wr => mzR h wr)
  case atStart => exact ⟨0, v, ⟨HX.out, KeepP.refl _ _, fun k hk => .inl hk⟩, Nat.zero_le _, fun j hj => absurd hj (Nat.not_lt_zero _)⟩
  case round =>
    obtain ⟨k, v', hst, hk, hneed⟩ := hrel
    obtain ⟨ad, cap, hv, hcap, _⟩ := hst.ok.own.shape
    have hsz0 := ref_size wr h _ v' hst.ok
    have hsize : ∀ W, Below wr.heap.size wr W → Calls Try.prog 25 #[.pointer (some ⟨h, 0, none⟩)] W fun e w' => e = .returned (.int .i64 (size (t.l.drop k) : Nat)) ∧ ∃ m, w' = W.drewN m :=
      fun W hW => ref_size W h _ v' (hst.ok.below hW)
    clear hsz0
    have hS4 : size (t.l.drop k) ≤ 1000000000000 := hst.ok.sz
    have x0 : wr.cell? ⟨h, 0, none⟩ = some (.int .i64 (t.room : Int)) := hst.ok.row.cell 0
    have x1 : wr.cell? ⟨h, 1, none⟩ = some v' := hst.ok.row.cell 1
    have x2 : wr.cell? ⟨h, 2, none⟩ = some (.int .u64 ((t.went + k : Nat) : Int)) := hst.ok.row.cell 2
    by_cases hgo : k < t.l.length ∧ t.room < size (t.l.drop k) + n
    · obtain ⟨f, l', hL⟩ : ∃ f l', t.l.drop k = f :: l' := by
        cases h9 : t.l.drop k with
        | nil => have := List.drop_eq_nil_iff.1 h9; omega
        | cons f l' => exact ⟨f, l', rfl⟩
      obtain ⟨S, hS⟩ : ∃ S, size (t.l.drop k) = S := ⟨_, rfl⟩
      have hkd : t.l.drop (k + 1) = l' := by rw [← List.drop_drop, hL]; rfl
      have hll : l'.length + 1 + k ≤ 100000 := by
        have h1 := HB.out.2
        have h2 : (t.l.drop k).length = l'.length + 1 := by rw [hL]; rfl
        rw [List.length_drop] at h2
        omega
      have hcw : t.went + k + 1 ≤ 1000000000000 := by have h1 := HB.out.1; unfold Tab.came at h1; omega
      have hv' : v' = .slice ad (l'.length + 1) cap := by rw [hv]; show Value.slice _ (t.l.drop k).length cap = _; rw [hL]; rfl
      subst hv'
      rw [hL] at hst
      have hown : RowO wr 23 2 (.slice ad (l'.length + 1) cap) (l'.length + 1) (fds (f :: l')) := hst.ok.own
      obtain ⟨g, o, rfl, _⟩ := RowO.cells hown 0 _ rfl
      clear hown
      have hcap1 : l'.length + 1 ≤ cap := by have : (t.l.drop k).length ≤ cap := hcap; rw [hL] at this; exact this
      obtain ⟨m, hm⟩ : ∃ m, l'.length = m := ⟨_, rfl⟩
      rw [hm] at hcap1
      have hneed2 : ∀ j, j < k + 1 → t.room < size (t.l.drop j) + n := by
        intro j hj
        rcases Nat.lt_or_ge j k with e | e
        · exact hneed j e
        · obtain rfl : j = k := by omega
          exact hgo.2
      rw [hS] at hS4 hsize hgo
      obtain ⟨W2, hW2⟩ : ∃ W2, t.went + k = W2 := ⟨_, rfl⟩
      rw [hW2] at hcw x2 hst
      have w1 : IntKind.i64.wrap ((S : Int) + (n : Int)) = ((S + n : Nat) : Int) := by rw [IntKind.wrap_i64]; omega
      have w2 : IntKind.u64.wrap ((W2 : Int) + 1) = ((W2 + 1 : Nat) : Int) := by rw [IntKind.wrap_u64]; omega
      have b1 : (0 : Int) < ((m + 1 : Nat) : Int) := by omega
      have b2 : (t.room : Int) < ((S + n : Nat) : Int) := by omega
      have HSz := veil hsize
      have HST := veil hst
      have HM := veil (show mzR h wr = m + 1 from by unfold mzR; rw [x1, hm])
      have HK := veil (show _ ∧ _ ∧ _ ∧ _ ∧ _ ∧ _ from ⟨hneed2, hkd, hll, hcw, hW2, hgo.1⟩)
      rw [hm] at x1
      clear hst hneed hneed2 hkd hll hcw hgo hk hsize hcap hS4 hS hv hL hW2
      generalize S + n = S1 at *
      obtain ⟨W3, hW3⟩ : ∃ W3, W2 + 1 = W3 := ⟨_, rfl⟩
      rw [hW3] at w2
      go_upto_region 0 with fail
      go_quiet ((go_at_call 25; exact Calls.quiet_of (HSz.out _ (below_drewN (Below.refl _ _) _))))
      have HST := veil (HST.out.below (below_drewN (Below.refl wr.heap.size wr) nq))
      have x1 : (wr.drewN nq).cell? ⟨h, 1, none⟩ = some (.slice (some ⟨g, o, none⟩) (m + 1) cap) := x1
      have x2 : (wr.drewN nq).cell? ⟨h, 2, none⟩ = some (.int .u64 (W2 : Int)) := x2
      clear x0
      generalize wr.drewN nq = wq at *
      obtain ⟨v2, w9, happ, ⟨a2, c2, rfl⟩, y1, y2, z1, z2, hst2, hmz⟩ := rt_tail HST.out 49 (by have := HK.out.2.2.1; omega) HK.out.2.2.2.1 (cap - 1)
      rw [hm] at happ hmz hst2
      rw [hW3] at hst2 hmz
      rw [x1] at y1
      rw [x2] at y2
      have A9 := veil happ
      have HS9 := veil hst2
      have HM9 := veil hmz
      clear happ hst2 hmz
      have hm1 : m + 1 - 1 = m := by omega
      go_wp2_with first
        | (with_reducible (show wpList _ _ _ (⟨some 26, Op.slice _ _ _ _ _, _, _, _, _⟩ :: _) _ _)
           refine wpL_valP rfl (.slice (some ⟨g, cutO o cap 1 2, none⟩) (m + 1 - 1) (cap - 1)) wq (lgRun_cutL 49 23 2 _ _ g o (m + 1) cap 1 rfl rfl rfl Try.underlying49 fieldSize (by omega) hcap1 wq) ?_
           rw [hm1])
        | (with_reducible (show wpList _ _ _ (⟨some 27, Op.call _, _, _, _, _⟩ :: _) _ _)
           refine wpL_append rfl _ _ _ rfl _ _ _ _ rfl rfl A9.out ?_)
      go_roundw
      case rel => exact ⟨k + 1, _, by rw [HK.out.2.1]; rw [show t.went + (k + 1) = W3 by have := HK.out.2.2.2.2.1; omega]; exact HS9.out, HK.out.2.2.2.2.2, HK.out.1⟩
      case measure =>
        rw [HM.out]
        exact Nat.lt_of_le_of_lt (Nat.le_of_eq HM9.out) (Nat.lt_succ_self _)
    · have hgone : gone t.room n t.l = k := by
        refine gone_is t.room n t.l k hk hneed ?_
        rcases Nat.lt_or_ge k t.l.length with e | e
        · exact .inr (by have := hgo; omega)
        · exact .inl (by omega)
      have HG := veil (show RtStep w h (t.less n) v wr v' from by unfold Tab.less; rw [hgone]; exact hst)
      obtain ⟨S, hS⟩ : ∃ S, size (t.l.drop k) = S := ⟨_, rfl⟩
      obtain ⟨ln, hln⟩ : ∃ ln, (t.l.drop k).length = ln := ⟨_, rfl⟩
      have hlk : ln = t.l.length - k := by rw [← hln, List.length_drop]
      have hv : v' = .slice ad ln cap := by rw [hv]; show Value.slice ad (t.l.drop k).length cap = _; rw [hln]
      rw [hv] at x1
      rw [hS] at hS4 hsize hgo
      have w1 : IntKind.i64.wrap ((S : Int) + (n : Int)) = ((S + n : Nat) : Int) := by rw [IntKind.wrap_i64]; omega
      have HSz := veil hsize
      by_cases hz : 0 < ln
      · have b1 : (0 : Int) < (ln : Int) := by omega
        have b2 : ¬ (t.room : Int) < ((S + n : Nat) : Int) := by omega
        clear hst hgone hneed hS hln hlk hgo hk hsize hcap hS4
        generalize S + n = S1 at *
        go_upto_region 0 with fail
        go_quiet ((go_at_call 25; exact Calls.quiet_of (HSz.out _ (below_drewN (Below.refl _ _) _))))
        go_wp2_with fail
        go_end0
        exact ⟨rfl, v', HG.out.below (below_drewN (Below.refl _ _) _)⟩
      · obtain rfl : ln = 0 := by omega
        clear hst hgone hneed hS hln hlk hgo hk hsize hcap hS4
        go_upto_region 0 with fail
        go_quiet (fail)
        go_wp2_with fail
        go_end0
        exact ⟨rfl, v', HG.out.below (below_drewN (Below.refl _ _) _)⟩
end Tb
end Go.Proofs.Ytoajnhngcfjohaa
