/-
  Out of SnDo, SnNext, ChaSame, FrMem.
-/
import Derived.Test.YtehadfidenejdaaGreatDoorGp15
import Derived.BigQuiet
import Derived.Test.YtehadfidenejdaaGreatDoorRows
import Derived.Test.YtehadfidenejdaaGreatDoorGp1
import Derived.BigRegion

/-! A sender of the program: made, raised, reset, written into. -/
namespace Go.Proofs.YtehadfidenejdaaGreatDoor
open Go Go.RowKit

namespace Sr
open Sd
section
variable {w : World} {g : Nat} {wr cm ls : Value} {s : Snd} {C L : List Rn}
theorem RowO.setG {e : TypeId} {z n : Nat} {v : Value} {xs : List Value} (h : RowO w e z v n xs) (hv : v.ownBlock ≠ some g) (j : Nat) (u : Value) : RowO (w.setCell ⟨g, j, none⟩ u) e z v n xs :=
  h.same (fun k hk => Below.heap_setCell _ _ _ _ (fun q => hv (by rw [hk]; exact congrArg some q)))
theorem SnOk.gw (h : SnOk w g wr cm ls s C L) : wr.ownBlock ≠ some g := fun e => (h.tw e).ne h.tg (by decide) rfl
theorem SnOk.gc (h : SnOk w g wr cm ls s C L) : cm.ownBlock ≠ some g := fun e => (h.tc e).ne h.tg (by decide) rfl
theorem SnOk.gl (h : SnOk w g wr cm ls s C L) : ls.ownBlock ≠ some g := fun e => (h.tl e).ne h.tg (by decide) rfl
/-- A number, or a word, of a sender is another one. -/
theorem SnOk.setNum (h : SnOk w g wr cm ls s C L) {s' : Snd} (j : Nat) (u : Value) (hc : (snC wr cm ls s).setIfInBounds j u = snC wr cm ls s') (hb : s'.b = s.b) (hr : Rep s' C L) : SnOk (w.setCell ⟨g, j, none⟩ u) g wr cm ls s' C L :=
  ⟨by rw [← hc]; exact h.row.set j u, by rw [hb]; exact RowO.setG h.wrow h.gw j u, RowO.setG h.crow h.gc j u, RowO.setG h.lrow h.gl j u, h.cl, hr⟩
theorem after_set {own : Nat → Prop} (hg : own g) (j : Nat) (u : Value) : After own w (w.setCell ⟨g, j, none⟩ u) own := ⟨KeepP.setCell hg w j u, fun _ h => .inl h⟩
theorem After.trans {own own1 own2 : Nat → Prop} {w1 w2 : World} (a : After own w w1 own1) (b : After own1 w1 w2 own2) : After own w w2 own2 :=
  ⟨onto a.1 b.1 (fun k hk h => (a.2 k h).elim id (fun q => absurd hk (by omega))), fun k h => (b.2 k h).elim (fun q => a.2 k q) (fun q => .inr (Nat.le_trans a.1.size q))⟩
end
theorem new_any (id credit : Nat) (w : World) (h1 : id ≤ 4611686018427387903) (h2 : credit ≤ 4611686018427387903) :
    Calls Tryz.prog 5 #[.int .u64 (id : Int), .int .u64 (credit : Int)] w fun e w' => e = .returned (.tuple #[.pointer (some ⟨w.heap.size, 0, none⟩), .int .i64 0]) ∧ SnS w' w.heap.size (new id credit) (fun k => k = w.heap.size) ∧ Below w.heap.size w w' := by
  have n1 : ¬ (4611686018427387903 : Int) < (id : Int) := by omega
  have n2 : ¬ (4611686018427387903 : Int) < (credit : Int) := by omega
  have HB := veil ((Below.refl w.heap.size w).alloc (Nat.le_refl _) (.cells (snC (.slice none 0 0) (.slice none 0 0) (.slice none 0 0) (new id credit)) 72))
  have HS := veil (show SnS (w.alloc (.cells (snC (.slice none 0 0) (.slice none 0 0) (.slice none 0 0) (new id credit)) 72)) w.heap.size (new id credit) (fun k => k = w.heap.size) from
    ⟨_, _, _, [], [], ⟨Row.new _ _ _, RowO.nil _ _ _, RowO.nil _ _ _, RowO.nil _ _ _, fun k e => (by cases e), new_rep h1 h2⟩, (fun k e => by
      rcases e with e | e | e | e
      · exact e
      · cases e
      · cases e
      · cases e), (fun k e => by rw [e]; simp)⟩)
  clear h1 h2
  go_enter Tryz.func5, Tryz.ntmps5
  go_wp2
  go_ret2
  exact ⟨rfl, HS.out, HB.out⟩
theorem new_no (id credit : Nat) (w : World) (h : 4611686018427387903 < id ∨ 4611686018427387903 < credit) :
    Calls Tryz.prog 5 #[.int .u64 (id : Int), .int .u64 (credit : Int)] w fun e w' => e = .returned (.tuple #[.pointer none, .int .i64 1]) ∧ Below w.heap.size w w' := by
  by_cases c : 4611686018427387903 < id
  · have n1 : (4611686018427387903 : Int) < (id : Int) := by omega
    clear h c
    go_enter Tryz.func5, Tryz.ntmps5
    go_wp2
    go_ret2
    exact ⟨rfl, Below.refl _ _⟩
  · have n1 : ¬ (4611686018427387903 : Int) < (id : Int) := by omega
    have n2 : (4611686018427387903 : Int) < (credit : Int) := by omega
    clear h c
    go_enter Tryz.func5, Tryz.ntmps5
    go_wp2
    go_ret2
    exact ⟨rfl, Below.refl _ _⟩
def raiseE (c : Nat) : Nat := if 4611686018427387903 < c then 1 else 0
theorem raise_any (w : World) (g : Nat) (s : Snd) (own : Nat → Prop) (h : SnS w g s own) (c : Nat) :
    Calls Tryz.prog 23 #[.pointer (some ⟨g, 0, none⟩), .int .u64 (c : Int)] w fun e w' => e = .returned (.int .i64 (raiseE c : Nat)) ∧ ∃ own', SnS w' g (raise s c) own' ∧ After own w w' own' := by
  obtain ⟨wr, cm, ls, C, L, h1, h2, h3⟩ := h
  have T1 := veil (there_yes h1)
  by_cases hc : 4611686018427387903 < c
  · have HS := veil (show SnS w g (raise s c) own from by unfold raise; rw [if_pos hc]; exact ⟨wr, cm, ls, C, L, h1, h2, h3⟩)
    have n1 : (4611686018427387903 : Int) < (c : Int) := by omega
    have n2 : raiseE c = 1 := by unfold raiseE; rw [if_pos hc]
    rw [n2]
    clear h1 h2 h3 hc n2
    go_enter Tryz.func23, Tryz.ntmps23
    go_wp2_with fail
    refine T1.out.mono ?_
    rintro e1 w1 ⟨rfl, rfl⟩
    go_wp2
    go_ret
    exact ⟨rfl, own, HS.out, After.same (Below.refl _ _)⟩
  · have hr := raise_rep h1.rep c
    have hb : (raise s c).b = s.b := by unfold raise; split <;> rfl
    obtain ⟨m, hm⟩ : ∃ m, max s.credit c = m := ⟨_, rfl⟩
    have hcx : (snC wr cm ls s).setIfInBounds 2 (.int .u64 (m : Int)) = snC wr cm ls (raise s c) := by
      unfold raise
      rw [if_neg hc, ← hm]
      rfl
    have HS := veil (show SnS (w.setCell ⟨g, 2, none⟩ (.int .u64 (m : Int))) g (raise s c) own from ⟨wr, cm, ls, C, L, h1.setNum 2 _ hcx hb hr, h2, fun k e => by have := h3 k e; simpa [World.setCell] using this⟩)
    have HA := veil (after_set (w := w) (own := own) (h2 g (.inl rfl)) 2 (.int .u64 (m : Int)))
    have n1 : ¬ (4611686018427387903 : Int) < (c : Int) := by omega
    have n2 : raiseE c = 0 := by unfold raiseE; rw [if_neg hc]
    have n3 : max (s.credit : Int) (c : Int) = (m : Int) := by omega
    have c2 := h1.row.cell 2
    have f2 := h1.row.frozen 2
    rw [n2]
    unfold snC at c2
    clear h1 h2 h3 hc n2 hr hb hcx hm
    go_enter Tryz.func23, Tryz.ntmps23
    go_wp2_with fail
    refine T1.out.mono ?_
    rintro e1 w1 ⟨rfl, rfl⟩
    go_wp2
    go_ret
    exact ⟨rfl, own, HS.out, HA.out⟩
theorem writeE_le (s : Snd) (n : Nat) : writeE s n = 9 ∧ (s.last = true ∨ s.reset = true) ∨ writeE s n = 3 ∧ s.last = false ∧ s.reset = false ∧ 1048576 < s.b.length + n ∨ writeE s n = 0 ∧ s.last = false ∧ s.reset = false ∧ s.b.length + n ≤ 1048576 := by
  unfold writeE
  by_cases c : s.last = true ∨ s.reset = true
  · rw [if_pos c]; exact .inl ⟨rfl, c⟩
  · rw [if_neg c]
    simp only [not_or, Bool.not_eq_true] at c
    by_cases d : 1048576 < s.b.length + n
    · rw [if_pos d]; exact .inr (.inl ⟨rfl, c.1, c.2, d⟩)
    · rw [if_neg d]; exact .inr (.inr ⟨rfl, c.1, c.2, by omega⟩)
theorem sl_src {w : World} {b : SL} (h : b.Ok w) : Src w b.a b.len (vb b.b) := by
  cases ha : b.a with
  | none =>
    have h1 := (h.nil ha).1
    have h2 := h.hb
    refine .inl ⟨rfl, h1, ?_⟩
    rw [h1] at h2
    rw [List.length_eq_zero_iff.1 h2]
    rfl
  | some ad =>
    refine .inr ⟨ad, rfl, fun j v hj => ?_⟩
    obtain ⟨h1, h2⟩ := vb_get' _ _ _ hj
    rw [h.hb] at h1
    have h3 := h.at_ (by omega)
    rw [ha] at h3
    injection h3 with h3
    subst h3
    rw [Addr.add_mid, h2]
    exact h.cell j h1
theorem byte_info : ∃ i0 : TypeInfo, (Tryz.prog).info? 5 = some i0 ∧ i0.zero = some (.int .u8 0) ∧ i0.size = 1 ∧ i0.bytes = 1 := by
  have h : ((Tryz.prog).info? 5).map (fun i => (i.zero, i.size, i.bytes)) = some (some (.int .u8 0), 1, 1) := by kernel_rfl
  cases hq : Tryz.prog.info? 5 with
  | none => rw [hq] at h; cases h
  | some i =>
    rw [hq] at h
    simp only [Option.map_some, Option.some.injEq, Prod.mk.injEq] at h
    exact ⟨i, rfl, h.1, h.2.1, h.2.2⟩
set_option maxHeartbeats 1000000 in
set_option maxRecDepth 20000 in
theorem write_any (w : World) (g : Nat) (s : Snd) (own : Nat → Prop) (h : SnS w g s own) (b : SL) (hb : b.Ok w) (last : Bool) :
    Calls Tryz.prog 7 #[.pointer (some ⟨g, 0, none⟩), .slice b.a b.len b.cap, .bool last] w fun e w' => e = .returned (.int .i64 (writeE s b.len : Nat)) ∧ ∃ own', SnS w' g (write s b.b last) own' ∧ After own w w' own' := by
  obtain ⟨wr, cm, ls, C, L, h1, h2, h3⟩ := h
  have T1 := veil (there_yes h1)
  have c3 := h1.row.cell 3
  have c4 := h1.row.cell 4
  have c8 := h1.row.cell 8
  have hlen := h1.rep.fine.len
  obtain ⟨va, vc, hve, hvc, _⟩ := h1.wrow.shape
  unfold snC at c3 c4 c8
  have hwb : write s b.b last = if writeE s b.len = 0 then { s with b := s.b ++ b.b, last := last } else s := by unfold write; rw [hb.hb]
  rcases writeE_le s b.len with ⟨e, hc⟩ | ⟨e, hc1, hc2, hc3⟩ | ⟨e, hc1, hc2, hc3⟩
  · rw [e] at hwb ⊢
    rw [if_neg (by decide)] at hwb
    have HS := veil (show SnS w g (write s b.b last) own from by rw [hwb]; exact ⟨wr, cm, ls, C, L, h1, h2, h3⟩)
    by_cases q : s.last = true
    · rw [q] at c4
      clear h1 h2 h3 hb hwb e hlen hve hvc hc q
      go_enter Tryz.func7, Tryz.ntmps7
      go_wp2_with fail
      refine T1.out.mono ?_
      rintro e1 w1 ⟨rfl, rfl⟩
      go_wp2
      go_ret
      exact ⟨rfl, own, HS.out, After.same (Below.refl _ _)⟩
    · have q2 : s.reset = true := hc.resolve_left q
      rw [show s.last = false by simpa using q] at c4
      rw [q2] at c8
      clear h1 h2 h3 hb hwb e hlen hve hvc hc q q2
      go_enter Tryz.func7, Tryz.ntmps7
      go_wp2_with fail
      refine T1.out.mono ?_
      rintro e1 w1 ⟨rfl, rfl⟩
      go_wp2
      go_ret
      exact ⟨rfl, own, HS.out, After.same (Below.refl _ _)⟩
  · rw [e] at hwb ⊢
    rw [if_neg (by decide)] at hwb
    have HS := veil (show SnS w g (write s b.b last) own from by rw [hwb]; exact ⟨wr, cm, ls, C, L, h1, h2, h3⟩)
    obtain ⟨n, hn⟩ : ∃ n, s.b.length = n := ⟨_, rfl⟩
    rw [hn] at hve hc3 hlen
    rw [hc1] at c4
    rw [hc2] at c8
    rw [hve] at c3
    obtain ⟨bl, hbl2⟩ : ∃ bl, b.len = bl := ⟨_, rfl⟩
    rw [hbl2] at hc3 ⊢
    obtain ⟨k, hk⟩ : ∃ k, k = 1048576 - n := ⟨_, rfl⟩
    have w1 : IntKind.i64.wrap (1048576 - (n : Int)) = (k : Int) := by rw [IntKind.wrap_i64]; omega
    have n1 : (k : Int) < (bl : Int) := by omega
    clear h1 h2 h3 hb hwb e hlen hve hvc hc1 hc2 hc3 hbl2 hk hn
    go_enter Tryz.func7, Tryz.ntmps7
    go_wp2_with fail
    refine T1.out.mono ?_
    rintro e1 w1 ⟨rfl, rfl⟩
    go_wp2
    go_ret
    exact ⟨rfl, own, HS.out, After.same (Below.refl _ _)⟩
  · rw [e] at hwb ⊢
    rw [if_pos rfl] at hwb
    have hrep := write_rep h1.rep b.b last
    rw [hwb] at hrep ⊢
    obtain ⟨i0, z1, z2, z3, z4⟩ := byte_info
    obtain ⟨v', w1, hr, a2, a3, a4⟩ := app_any (P := Tryz.prog) w 24 24 24 i0 _ 1 Tryz.underlying24 Tryz.underlying24 z1 z2 z3 z4 rfl (by decide) h1.wrow b.a b.len b.cap (vb b.b) (by rw [vb_length, hb.hb, Nat.mul_one]) (sl_src hb) (vb_one _) (by unfold maxLen; omega) (by omega)
    rw [← vb_append] at a2
    obtain ⟨va', vc', rfl, _, _⟩ := a2.shape
    generalize hvv : (Value.slice va' (s.b.length + b.len) vc') = v' at *
    have hg1 : w1.heap[g]? = w.heap[g]? := a3.block g h1.row.lt (fun q => h1.gw q)
    have r1 : Row w1 g 72 (snC wr cm ls s) := hg1.trans h1.row
    have hv' : v'.ownBlock ≠ some g := fun q => by
      rcases a4 with a4 | ⟨_, a4⟩
      · rw [a4] at q; exact h1.gw q
      · have := a4 g q; have := h1.row.lt; omega
    have k1 : RowO w1 77 2 cm C.length (vr C) := h1.crow.same (fun k hk => a3.block k (h1.crow.lt k hk) (fun q => (h1.tw q).ne (h1.tc hk) (by decide) rfl))
    have k2 : RowO w1 77 2 ls L.length (vr L) := h1.lrow.same (fun k hk => a3.block k (h1.lrow.lt k hk) (fun q => (h1.tw q).ne (h1.tl hk) (by decide) rfl))
    have fin : SnOk ((w1.setCell ⟨g, 3, none⟩ v').setCell ⟨g, 4, none⟩ (.bool last)) g v' cm ls { s with b := s.b ++ b.b, last := last } C L :=
      ⟨by
        have := (r1.set 3 v').set 4 (.bool last)
        have hsn : sn ({ s with b := s.b ++ b.b, last := last } : Snd) = sn s := by
          unfold sn
          show (if s.fin = 0 then s.fresh else (s.b ++ b.b).length + 1) = _
          rcases Nat.eq_zero_or_pos s.fin with z | z
          · rw [if_pos z, if_pos z]
          · have := (h1.rep.fine.ended (by omega)).1; rw [hc1] at this; cases this
        unfold snC at this ⊢
        rw [hsn]
        exact this, RowO.setG (RowO.setG (by rw [List.length_append, hb.hb]; exact a2) hv' 3 v') hv' 4 _, RowO.setG (RowO.setG k1 h1.gc 3 v') h1.gc 4 _, RowO.setG (RowO.setG k2 h1.gl 3 v') h1.gl 4 _, h1.cl, hrep⟩
    have f3 : w1.frozen? ⟨g, 3, none⟩ = false := r1.frozen 3
    have f4 : w1.frozen? ⟨g, 4, none⟩ = false := r1.frozen 4
    have d3 := r1.cell 3
    have d4 := r1.cell 4
    have hone := RowO.one a2
    have HS := veil (show ∃ own', SnS ((w1.setCell ⟨g, 3, none⟩ v').setCell ⟨g, 4, none⟩ (.bool last)) g { s with b := s.b ++ b.b, last := last } own' ∧ After own w ((w1.setCell ⟨g, 3, none⟩ v').setCell ⟨g, 4, none⟩ (.bool last)) own' from by
      refine ⟨OwnS g v' cm ls, ⟨v', cm, ls, C, L, fin, fun k e => e, fin.lt⟩, ?_, fun k e => ?_⟩
      · exact (onto (onto (KeepP.refl own w) a3 (fun q _ e => h2 q (.inr (.inl e)))) (KeepP.setCell (st := fun k => k = g) rfl _ 3 v') (fun q _ e => h2 q (.inl e))).trans (KeepP.mono (KeepP.setCell (st := fun k => k = g) rfl _ 4 (.bool last)) (fun q e => h2 q (.inl e)))
      · rcases e with e | e | e | e
        · exact .inl (h2 k (.inl e))
        · rcases a4 with a4 | ⟨_, a4⟩
          · rw [a4] at e; exact .inl (h2 k (.inr (.inl e)))
          · rw [a4 k e]; exact .inr (Nat.le_refl _)
        · exact .inl (h2 k (.inr (.inr (.inl e))))
        · exact .inl (h2 k (.inr (.inr (.inr e)))))
    obtain ⟨n, hn⟩ : ∃ n, s.b.length = n := ⟨_, rfl⟩
    rw [hn] at hve hc3 hlen
    rw [hc1] at c4
    rw [hc2] at c8
    rw [hve] at c3
    rw [hve] at hr
    obtain ⟨bl, hbl2⟩ : ∃ bl, b.len = bl := ⟨_, rfl⟩
    rw [hbl2] at hc3 hr ⊢
    obtain ⟨k, hk⟩ : ∃ k, k = 1048576 - n := ⟨_, rfl⟩
    have w1' : IntKind.i64.wrap (1048576 - (n : Int)) = (k : Int) := by rw [IntKind.wrap_i64]; omega
    have n1 : ¬ (k : Int) < (bl : Int) := by omega
    unfold snC at d3 d4
    subst hvv
    clear h1 h2 h3 hb hwb e hlen hve hvc hc1 hc2 hc3 hbl2 hk hn hrep a2 a3 a4 z1 z2 z3 z4 hg1 r1 hv' k1 k2 fin
    go_enter Tryz.func7, Tryz.ntmps7
    go_wp2_with fail
    refine T1.out.mono ?_
    rintro e1 w9 ⟨rfl, rfl⟩
    go_wp2_with (at_builtin; refine Lib.wpList_append_run _ rfl _ _ _ _ rfl _ _ rfl rfl _ _ hr ?_)
    go_ret
    exact ⟨rfl, HS.out⟩
end Sr
end Go.Proofs.YtehadfidenejdaaGreatDoor

/-! A sender of the program: what is told next. -/
namespace Go.Proofs.YtehadfidenejdaaGreatDoor
open Go Go.RowKit

namespace Sr
open Sd
section
variable {w : World} {g : Nat} {wr cm ls : Value} {s : Snd} {C L : List Rn}
set_option maxRecDepth 20000 in
theorem bytesFrom_any (h : SnOk w g wr cm ls s C L) (p c : Nat) (hp : p ≤ 4611686018427387903) (hc : c ≤ 4611686018427387903) :
    Calls Tryz.prog 88 #[.pointer (some ⟨g, 0, none⟩), .int .u64 (p : Int), .int .u64 (c : Int)] w fun e w' => e = .returned (rcA (bytesFrom s p c)) ∧ Below w.heap.size w w' := by
  have hlen := h.rep.fine.len
  have hb0 : Below w.heap.size w (w.alloc (.cells #[.int .u64 0, .int .u64 0] 77)) := (Below.refl _ w).alloc (Nat.le_refl _) _
  have S1 := veil (size_any (h.below hb0))
  have E1 := veil (end_any (h.below hb0))
  have q1 : Row (w.alloc (.cells #[.int .u64 0, .int .u64 0] 77)) w.heap.size 77 #[.int .u64 0, .int .u64 0] := Row.new _ _ _
  have Q1 := veil q1
  have HB := veil hb0
  have c4 := (h.below hb0).row.cell 4
  obtain ⟨n, hn⟩ : ∃ n, s.b.length = n := ⟨_, rfl⟩
  obtain ⟨pc, hpc⟩ : ∃ pc, p + c = pc := ⟨_, rfl⟩
  have w1 : IntKind.u64.wrap ((p : Int) + (c : Int)) = (pc : Int) := by rw [IntKind.wrap_u64]; omega
  obtain ⟨t, ht⟩ : ∃ t, min pc n = t := ⟨_, rfl⟩
  have m1 : min (pc : Int) (n : Int) = (t : Int) := by omega
  have hbf : bytesFrom s p c = if c = 0 then (0, 0) else if s.last = true ∧ t = n then (p, n + 1) else (p, t) := by unfold bytesFrom; rw [hpc, hn, ht]
  rw [hbf]
  rw [hn] at S1 E1
  unfold snC at c4
  unfold rcA at E1 ⊢
  simp only at E1
  clear hbf h hb0 q1 hlen hn ht hpc hp hc
  by_cases c0 : c = 0
  · have i0 : (c : Int) = 0 := by omega
    rw [if_pos c0]
    clear c0
    go_enter Tryz.func88, Tryz.ntmps88
    go_wp2_with fail
    generalize w.alloc (.cells #[.int .u64 0, .int .u64 0] 77) = w0 at *
    have c0 := Q1.out.cell 0
    have c1 := Q1.out.cell 1
    have f0 := Q1.out.frozen 0
    have f1 := Q1.out.frozen 1
    refine S1.out.mono ?_
    rintro e1 w1 ⟨rfl, rfl⟩
    go_wp2_with fail
    refine bodyPost_ret (results_cell_row rfl _ _ w.heap.size 77 #[.int .u64 0, .int .u64 0] (0, 0) _ rfl ((Q1.out.set 0 _).set 1 _) Tryz.underlying77 rfl (by kernel_rfl)) rfl ⟨rfl, ?_⟩
    exact (HB.out.setCell (p := ⟨w.heap.size, 0, none⟩) (Nat.le_refl _) _).setCell (p := ⟨w.heap.size, 1, none⟩) (Nat.le_refl _) _
  · have i0 : ¬ (c : Int) = 0 := by omega
    rw [if_neg c0]
    clear c0
    by_cases c1 : s.last = true ∧ t = n
    · rw [if_pos c1]
      rw [c1.1] at c4
      have i1 : (t : Int) = (n : Int) := by omega
      obtain ⟨n1, hn1⟩ : ∃ n1, n + 1 = n1 := ⟨_, rfl⟩
      rw [hn1] at E1 ⊢
      have fe := field_two
      clear c1 hn1
      go_enter Tryz.func88, Tryz.ntmps88
      go_wp2_with fail
      generalize w.alloc (.cells #[.int .u64 0, .int .u64 0] 77) = w0 at *
      refine S1.out.mono ?_
      rintro e1 w1 ⟨rfl, rfl⟩
      go_wp2_with fail
      refine S1.out.mono ?_
      rintro e1 w1 ⟨rfl, rfl⟩
      go_wp2_with fail
      refine E1.out.mono ?_
      rintro e1 w2 ⟨rfl, hb2⟩
      have Q2 := veil (Q1.out.below hb2 Q1.out.lt)
      have HB2 := veil (HB.out.trans (hb2.mono HB.out.size))
      have c0 := Q2.out.cell 0
      have c1 := Q2.out.cell 1
      have f0 := Q2.out.frozen 0
      have f1 := Q2.out.frozen 1
      clear hb2
      go_wp2_with fail
      refine bodyPost_ret (results_cell_row rfl _ _ w.heap.size 77 #[.int .u64 (p : Int), .int .u64 (n1 : Int)] (0, 0) _ rfl ((Q2.out.set 0 _).set 1 _) Tryz.underlying77 rfl (by kernel_rfl)) rfl ⟨rfl, ?_⟩
      exact (HB2.out.setCell (p := ⟨w.heap.size, 0, none⟩) (Nat.le_refl _) _).setCell (p := ⟨w.heap.size, 1, none⟩) (Nat.le_refl _) _
    · rw [if_neg c1]
      by_cases c2 : s.last = true
      · have i1 : ¬ (t : Int) = (n : Int) := fun q => c1 ⟨c2, by omega⟩
        rw [c2] at c4
        clear c1 c2
        go_enter Tryz.func88, Tryz.ntmps88
        go_wp2_with fail
        generalize w.alloc (.cells #[.int .u64 0, .int .u64 0] 77) = w0 at *
        have c0 := Q1.out.cell 0
        have c1 := Q1.out.cell 1
        have f0 := Q1.out.frozen 0
        have f1 := Q1.out.frozen 1
        refine S1.out.mono ?_
        rintro e1 w1 ⟨rfl, rfl⟩
        go_wp2_with fail
        refine S1.out.mono ?_
        rintro e1 w1 ⟨rfl, rfl⟩
        go_wp2_with fail
        refine bodyPost_ret (results_cell_row rfl _ _ w.heap.size 77 #[.int .u64 (p : Int), .int .u64 (t : Int)] (0, 0) _ rfl ((Q1.out.set 0 _).set 1 _) Tryz.underlying77 rfl (by kernel_rfl)) rfl ⟨rfl, ?_⟩
        exact (HB.out.setCell (p := ⟨w.heap.size, 0, none⟩) (Nat.le_refl _) _).setCell (p := ⟨w.heap.size, 1, none⟩) (Nat.le_refl _) _
      · rw [show s.last = false by simpa using c2] at c4
        clear c1 c2
        go_enter Tryz.func88, Tryz.ntmps88
        go_wp2_with fail
        generalize w.alloc (.cells #[.int .u64 0, .int .u64 0] 77) = w0 at *
        have c0 := Q1.out.cell 0
        have c1 := Q1.out.cell 1
        have f0 := Q1.out.frozen 0
        have f1 := Q1.out.frozen 1
        refine S1.out.mono ?_
        rintro e1 w1 ⟨rfl, rfl⟩
        go_wp2_with fail
        refine bodyPost_ret (results_cell_row rfl _ _ w.heap.size 77 #[.int .u64 (p : Int), .int .u64 (t : Int)] (0, 0) _ rfl ((Q1.out.set 0 _).set 1 _) Tryz.underlying77 rfl (by kernel_rfl)) rfl ⟨rfl, ?_⟩
        exact (HB.out.setCell (p := ⟨w.heap.size, 0, none⟩) (Nat.le_refl _) _).setCell (p := ⟨w.heap.size, 1, none⟩) (Nat.le_refl _) _
end
end Sr
end Go.Proofs.YtehadfidenejdaaGreatDoor

/-! What SameBytes answers of slices with the same bytes. -/
namespace Go.Proofs.YtehadfidenejdaaGreatDoor
open Go Go.RowKit

set_option maxHeartbeats 1000000 in
theorem same_sl (p q : SL) (w : World) (hp : p.Ok w) (hq : q.Ok w) (hb : p.b = q.b) (hl : p.len ≤ 8388608) :
    Calls Tryz.prog 41 #[.slice p.a p.len p.cap, .slice q.a q.len q.cap] w fun e w' => e = .returned (.bool true) ∧ Below w.heap.size w w' := by
  have hpq : p.len = q.len := by rw [← hp.hb, ← hq.hb, hb]
  obtain ⟨pa, pl, pc, pg, po, pb⟩ := p
  obtain ⟨qa, ql, qc, qg, qo, qb⟩ := q
  simp only at hb hpq hl ⊢
  subst hb hpq
  have HP := veil hp
  have HQ := veil hq
  clear hp hq
  have h1 : ((pl : Int) != (pl : Int)) = false := by simp
  go_enter Tryz.func41, Tryz.ntmps41
  go_wp2
  go_loopw [5] (fun i wr => ∃ k : Nat, k ≤ pl ∧ i = .int .i64 k ∧ Below w.heap.size w wr)
    (fun i _ => pl - (intOf i).toNat)
  case atStart => exact ⟨0, Nat.zero_le _, rfl, Below.refl _ _⟩
  case round =>
    obtain ⟨k, hk, rfl, hbel⟩ := hrel
    by_cases hlt : k < pl
    · have e1 : pa = some ⟨pg, po, none⟩ := HP.out.at_ (show 0 < pl by omega)
      have e2 : qa = some ⟨qg, qo, none⟩ := HQ.out.at_ (show 0 < pl by omega)
      subst e1 e2
      have c1 : wr.cell? ⟨pg, po + k, none⟩ = some (.int .u8 (v8 (gb pb k))) := (hbel.cell (p := ⟨pg, po + k, none⟩) (HP.out.lt (show 0 < pl by omega))).trans (HP.out.cell k hlt)
      have c2 : wr.cell? ⟨qg, qo + k, none⟩ = some (.int .u8 (v8 (gb pb k))) := (hbel.cell (p := ⟨qg, qo + k, none⟩) (HQ.out.lt (show 0 < pl by omega))).trans (HQ.out.cell k hlt)
      generalize v8 (gb pb k) = y at *
      have hxy : (y != y) = false := by simp
      go_wp2
      go_region
      all_goals go_wp2
      all_goals
        go_roundw
        case rel => exact ⟨k + 1, by omega, by go_num, hbel.drew⟩
        case measure => simp [intOf]; omega
    · obtain rfl : pl = k := by omega
      go_wp2
      go_ret
      exact ⟨rfl, hbel⟩
end Go.Proofs.YtehadfidenejdaaGreatDoor

/-! Ranges and frames in memory. -/
namespace Go.Proofs.YtehadfidenejdaaGreatDoor
open Go Go.RowKit

/-- A frame, and the slices in it. -/
structure FrM where
  kind : Nat
  stream : Nat
  offset : Nat
  limit : Nat
  code : Nat
  fin : Bool
  data : SL
  ranges : RL
def FrM.cells (f : FrM) : Array Value := #[.int .u8 (f.kind : Int), .int .u64 (f.stream : Int), .int .u64 (f.offset : Int), .int .u64 (f.limit : Int), .int .u64 (f.code : Int), .bool f.fin, .slice f.data.a f.data.len f.data.cap, .slice f.ranges.a f.ranges.len f.ranges.cap]
def FrM.fr (f : FrM) : Fr.Frame := ⟨f.kind, f.stream, f.offset, f.limit, f.code, f.fin, f.data.b, f.ranges.l⟩
structure FrM.Ok (w : World) (f : FrM) : Prop where
  data : f.data.Ok w
  ranges : f.ranges.Ok w
  k8 : f.kind < 256
  st : f.stream < 18446744073709551616
  of : f.offset < 18446744073709551616
  li : f.limit < 18446744073709551616
  co : f.code < 18446744073709551616
theorem FrM.Ok.below {w w' : World} {f : FrM} (h : f.Ok w) (hb : Below w.heap.size w w') : f.Ok w' := ⟨h.data.below hb, h.ranges.below hb, h.k8, h.st, h.of, h.li, h.co⟩
theorem fr_cells {W : World} {g : Nat} {t : TypeId} {f : FrM} (r : Row W g t f.cells) : W.cell? ⟨g, 0, none⟩ = some (.int .u8 (f.kind : Int)) ∧ W.cell? ⟨g, 1, none⟩ = some (.int .u64 (f.stream : Int)) ∧ W.cell? ⟨g, 2, none⟩ = some (.int .u64 (f.offset : Int)) ∧ W.cell? ⟨g, 3, none⟩ = some (.int .u64 (f.limit : Int)) ∧ W.cell? ⟨g, 4, none⟩ = some (.int .u64 (f.code : Int)) ∧ W.cell? ⟨g, 5, none⟩ = some (.bool f.fin) ∧ W.cell? ⟨g, 6, none⟩ = some (.slice f.data.a f.data.len f.data.cap) ∧ W.cell? ⟨g, 7, none⟩ = some (.slice f.ranges.a f.ranges.len f.ranges.cap) :=
  ⟨r.cell 0, r.cell 1, r.cell 2, r.cell 3, r.cell 4, r.cell 5, r.cell 6, r.cell 7⟩

end Go.Proofs.YtehadfidenejdaaGreatDoor
