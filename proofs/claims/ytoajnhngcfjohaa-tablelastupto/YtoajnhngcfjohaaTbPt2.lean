/-
  The program's table: what is there, how many came, how many went; its size.
-/
import Derived.Test.YtoajnhngcfjohaaTbPt
namespace Go.Proofs.Ytoajnhngcfjohaa
open Go Go.RowKit

namespace Tb
/-- Where the fields that are there begin. -/
def thA (p n : Nat) : Nat := if n = 0 then 4 else 4 + p * 2
theorem sl_arr {P : Program} {e : TypeId} {z N : Nat} (t : TypeId) (g o p q : Nat) (hu : P.underlying t = some (.array N e)) (hs : (P.info? e).map (·.size) = some z) (h1 : p ≤ q) (h2 : q ≤ N) (W : World) :
    (Instr.sliceAt t (.pointer (some ⟨g, o, none⟩)) (some (.int .i64 (p : Int))) (some (.int .i64 (q : Int))) (some (.int .i64 (q : Int)))).run P W = .ok (.slice (some ⟨g, if q - p = 0 then o else o + p * z, none⟩) (q - p) (q - p)) W := by
  have hsz : (sizeOf e).run P W = .ok z W := by
    cases hq : P.info? e with
    | none => simp [hq] at hs
    | some i =>
      have : i.size = z := by simpa [hq] using hs
      simp [sizeOf, typeInfo, hq, this]
  by_cases e' : q = p
  · subst e'
    simp [Instr.sliceAt, Instr.sliceBounds, Instr.sliceBound, asIntOf, Instr.sureAddr, run_underlying hu, hsz, h2]
  · have e2 : ¬ q - p = 0 := by omega
    simp [Instr.sliceAt, Instr.sliceBounds, Instr.sliceBound, asIntOf, Instr.sureAddr, run_underlying hu, hsz, h1, h2, Addr.add_mid, e', e2]
theorem fieldSize : (Try.prog.info? 23).map (·.size) = some 2 := by kernel_rfl
set_option maxRecDepth 100000 in
set_option maxHeartbeats 4000000 in
theorem tab_there {w : World} {h : Nat} {t : Tab} {A : List Fd} {p q : Nat} (x : PtOk w h t A p q) (n : Nat) (hn : t.l.length = n) :
    Calls Try.prog 33 #[.pointer (some ⟨h, 0, none⟩)] w fun e w' => e = .returned (.slice (some ⟨h, thA p n, none⟩) n n) ∧ ∃ m, w' = w.drewN m := by
  have x5 := x.c5
  have x6 := x.c6
  have hpq := x.pq
  have hq := x.q1
  have s0 : ∀ W, (Instr.sliceAt 58 (.pointer (some ⟨h, 4, none⟩)) (some (.int .i64 (p : Int))) (some (.int .i64 (q : Int))) (some (.int .i64 (q : Int)))).run Try.prog W = .ok (.slice (some ⟨h, thA p n, none⟩) n n) W := by
    intro W
    have := sl_arr (P := Try.prog) 58 h 4 p q Try.underlying58 fieldSize (by omega) hq W
    rw [this, show q - p = n by omega]
    rfl
  clear x hpq hq hn
  go_enter Try.func33, Try.ntmps33
  go_wp2_with fail
  go_quiet (fail)
  go_wp2_with fail
  go_ret
  exact ⟨rfl, _, rfl⟩
set_option maxRecDepth 100000 in
set_option maxHeartbeats 4000000 in
theorem tab_gone {w : World} {h : Nat} {t : Tab} {A : List Fd} {p q : Nat} (x : PtOk w h t A p q) : Calls Try.prog 18 #[.pointer (some ⟨h, 0, none⟩)] w fun e w' => e = .returned (.int .u64 (t.went : Int)) ∧ w' = w := by
  have x3 := x.c3
  go_enter Try.func18, Try.ntmps18
  go_wp2_with (go_at_call 32; refine (tab_none x).mono ?_; rintro e1 w1 ⟨rfl, rfl⟩)
  go_ret
  exact ⟨rfl, rfl⟩
set_option maxRecDepth 100000 in
set_option maxHeartbeats 4000000 in
theorem tab_gone_nil (w : World) : Calls Try.prog 18 #[.pointer none] w fun e w' => e = .returned (.int .u64 0) ∧ w' = w := by
  go_enter Try.func18, Try.ntmps18
  go_wp2_with (go_at_call 32; refine (tab_none_nil _).mono ?_; rintro e1 w1 ⟨rfl, rfl⟩)
  go_ret
  exact ⟨rfl, rfl⟩
set_option maxRecDepth 100000 in
set_option maxHeartbeats 4000000 in
theorem tab_size {w : World} {h : Nat} {t : Tab} {A : List Fd} {p q : Nat} (x : PtOk w h t A p q) : Calls Try.prog 19 #[.pointer (some ⟨h, 0, none⟩)] w fun e w' => e = .returned (.int .i64 (size t.l : Nat)) ∧ w' = w := by
  have x3 := x.c2
  go_enter Try.func19, Try.ntmps19
  go_wp2_with (go_at_call 32; refine (tab_none x).mono ?_; rintro e1 w1 ⟨rfl, rfl⟩)
  go_ret
  exact ⟨rfl, rfl⟩
set_option maxRecDepth 100000 in
set_option maxHeartbeats 4000000 in
theorem tab_size_nil (w : World) : Calls Try.prog 19 #[.pointer none] w fun e w' => e = .returned (.int .i64 0) ∧ w' = w := by
  go_enter Try.func19, Try.ntmps19
  go_wp2_with (go_at_call 32; refine (tab_none_nil _).mono ?_; rintro e1 w1 ⟨rfl, rfl⟩)
  go_ret
  exact ⟨rfl, rfl⟩
set_option maxRecDepth 100000 in
set_option maxHeartbeats 4000000 in
theorem tab_came {w : World} {h : Nat} {t : Tab} {A : List Fd} {p q : Nat} (x : PtOk w h t A p q) : Calls Try.prog 17 #[.pointer (some ⟨h, 0, none⟩)] w fun e w' => e = .returned (.int .u64 (t.came : Nat)) ∧ ∃ m, w' = w.drewN m := by
  have x3 := x.c3
  have hpq := x.pq
  have hq := x.q1
  have hw := x.wb
  obtain ⟨n, hn⟩ : ∃ n, t.l.length = n := ⟨_, rfl⟩
  have hc : t.came = t.went + n := by unfold Tab.came; rw [hn]
  rw [hc] at hw ⊢
  have v1 : IntKind.u64.wrap (n : Int) = (n : Int) := by rw [IntKind.wrap_u64]; omega
  have v2 : IntKind.u64.wrap ((t.went : Int) + (n : Int)) = ((t.went + n : Nat) : Int) := by rw [IntKind.wrap_u64]; omega
  have HX := veil x
  have HN := veil hn
  clear x hc hpq hq hw hn
  go_enter Try.func17, Try.ntmps17
  go_wp2_with (go_at_call 32; refine (tab_none HX.out).mono ?_; rintro e1 w1 ⟨rfl, rfl⟩)
  go_quiet ((go_at_call 33; exact Calls.quiet_of (tab_there (HX.out.below (below_drewN (Below.refl _ _) _)) _ HN.out)))

  go_wp2_with fail
  go_ret
  exact ⟨rfl, _, rfl⟩
set_option maxRecDepth 100000 in
set_option maxHeartbeats 4000000 in
theorem tab_came_nil (w : World) : Calls Try.prog 17 #[.pointer none] w fun e w' => e = .returned (.int .u64 0) ∧ w' = w := by
  go_enter Try.func17, Try.ntmps17
  go_wp2_with (go_at_call 32; refine (tab_none_nil _).mono ?_; rintro e1 w1 ⟨rfl, rfl⟩)
  go_ret
  exact ⟨rfl, rfl⟩
end Tb
end Go.Proofs.Ytoajnhngcfjohaa
