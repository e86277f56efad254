/-
  The document's Room.
-/
import Derived.Test.YtoajnhngcfjohaaGqTbRAdd
namespace Go.Proofs.Ytoajnhngcfjohaa
open Go Go.RowKit

namespace Tb
theorem rt_room {w : World} {h : Nat} {t : Tab} {v : Value} (x : RtOk w h t v) (m : Nat) : RtStep w h ⟨m, t.went, t.l⟩ v (w.setCell ⟨h, 0, none⟩ (.int .i64 (m : Int))) v :=
  ⟨⟨rt_setR x.row m, x.own.same fun k hk => heap_setCell_other _ ⟨h, 0, none⟩ k _ (x.ne k hk), x.sz, x.wb⟩, KeepP.setCell (st := fun k => k = h ∨ v.ownBlock = some k) (.inl rfl) _ 0 _, fun _ hk => .inl hk⟩
theorem setRoom_yes {t : Tab} {m : Nat} (h : m ≤ 4096) : Tab.roomE (m : Int) = 0 ∧ t.setRoom (m : Int) = (⟨m, t.went, t.l⟩ : Tab).less 0 := by
  have : ¬ ((m : Int) < 0 ∨ 4096 < (m : Int)) := by omega
  unfold Tab.roomE Tab.setRoom
  rw [if_neg this, if_neg this]
  exact ⟨rfl, rfl⟩
set_option maxRecDepth 100000 in
set_option maxHeartbeats 4000000 in
theorem ref_room {w : World} {h : Nat} {t : Tab} {v : Value} (x : RtOk w h t v) (n : Int) (ht : t.Fine) (hc : t.came ≤ 1000000000000) :
    Calls Try.prog 21 #[.pointer (some ⟨h, 0, none⟩), .int .i64 n] w fun e w' => e = .returned (.int .i64 (Tab.roomE n : Nat)) ∧ ∃ v', RtStep w h (t.setRoom n) v w' v' := by
  by_cases hn : 0 ≤ n ∧ n ≤ 4096
  · obtain ⟨m, rfl⟩ : ∃ m : Nat, n = (m : Int) := ⟨n.toNat, by omega⟩
    have hm : m ≤ 4096 := by omega
    obtain ⟨e1, e2⟩ := setRoom_yes (t := t) hm
    rw [e1, e2]
    have hst := rt_room x m
    have hless := ref_less hst.ok 0 (by decide) hm hc (by have := ht.length; show t.l.length ≤ _; omega)
    have hless := veil hless
    have x0 : w.cell? ⟨h, 0, none⟩ = some (.int .i64 (t.room : Int)) := x.row.cell 0
    have f0 := Row.frozen x.row 0
    have HS := veil hst
    have n1 : decide ((m : Int) < 0) = false := by simp
    have n2 : ¬ (4096 : Int) < (m : Int) := by omega
    have n3 : decide ((4096 : Int) < (m : Int)) = false := decide_eq_false n2
    have n4 : ¬ (m : Int) < 0 := by omega
    clear x e1 e2 hst hn hc ht
    go_enter Try.func21, Try.ntmps21
    go_wp2_with (go_at_call 37; refine hless.out.mono ?_; rintro e1 wl ⟨rfl, vl, hl⟩)
    go_ret
    exact ⟨rfl, vl, HS.out.trans hl⟩
  · obtain ⟨e1, e2⟩ := roomE_no (t := t) hn
    rw [e1, e2]
    have HX := veil x
    have hrest : n < 0 ∨ (¬ n < 0 ∧ 4096 < n) := by omega
    rcases hrest with h2 | ⟨h2, h3⟩
    · have n2 : decide (n < 0) = true := decide_eq_true h2
      clear x e1 e2 hn hc ht
      go_enter Try.func21, Try.ntmps21
      go_wp2_with fail
      go_ret
      exact ⟨rfl, v, HX.out, KeepP.refl _ _, fun k hk => .inl hk⟩
    · have n2 : decide (n < 0) = false := decide_eq_false h2
      have n3 : decide (4096 < n) = true := decide_eq_true h3
      clear x e1 e2 hn hc ht
      go_enter Try.func21, Try.ntmps21
      go_wp2_with fail
      go_ret
      exact ⟨rfl, v, HX.out, KeepP.refl _ _, fun k hk => .inl hk⟩
end Tb
end Go.Proofs.Ytoajnhngcfjohaa
