/-
  Out of TbFind, TbFixd, TbRoom.
-/
import Derived.Test.YtoajnhngcfjohaaGq3

/-! The document's search among the fixed fields. -/
namespace Go.Proofs.Ytoajnhngcfjohaa
open Go Go.RowKit

namespace Tb
theorem fds_get2 {l : List Fd} {j : Nat} {g : Fd} (h : l[j]? = some g) : (fds l)[j * 2]? = some (.string g.1) ∧ (fds l)[j * 2 + 1]? = some (.string g.2) :=
  ⟨by have := fds_get l j g 0 h (by omega); rw [Nat.add_zero] at this; exact this, by have := fds_get l j g 1 h (by omega); exact this⟩
/-- Does a field bear a name? -/
def hasN (f : Fd) : Fd → Bool := fun g => g.1.toList == f.1.toList
def hasF (f : Fd) : Fd → Bool := fun g => g.1.toList == f.1.toList && g.2.toList == f.2.toList
end Tb
end Go.Proofs.Ytoajnhngcfjohaa

/-! The document's fixed field at a place. -/
namespace Go.Proofs.Ytoajnhngcfjohaa
open Go Go.RowKit

namespace Tb
theorem result_twoT {P : Program} {fn : Func} {p q : Tmp} {ty : TypeId} (h : fn.results = #[.cell p ty, .tmp q]) (tmps : Array Value) (w : World) (g : Nat) (t : TypeId) (cs : Array Value) (hg : Row w g t cs) (n : Nat) (fs : Array Field) (v : Value)
    (hp : tmps.getD p undef = .pointer (some ⟨g, 0, none⟩)) (hq : tmps.getD q undef = v) (hu : P.underlying ty = some (.struct fs)) (hi : (P.info? ty).map (·.size) = some n) (hc : cs.size = n) :
    (results fn tmps).run P w = .ok (.tuple #[.agg cs, v]) w := by
  rw [results_cell_tmp h, hp, hq]
  simp [asAddr, Result.andThen, run_loadVar_row w g t ty cs (0, 0) _ hg hu rfl (by rw [hc]; exact hi)]

def inB (i : Int) : Bool := decide (0 ≤ i ∧ i < 99)
noncomputable def fixI (i : Int) : Fd := if inB i then gfd fixL i.toNat else fd0
def z2 : Array Value := fd0.cells
end Tb
end Go.Proofs.Ytoajnhngcfjohaa

/-! The program's Room; what a table that is not there answers. -/
namespace Go.Proofs.Ytoajnhngcfjohaa
open Go Go.RowKit

namespace Tb
theorem roomE_no {t : Tab} {n : Int} (h : ¬ (0 ≤ n ∧ n ≤ 4096)) : Tab.roomE n = 1 ∧ t.setRoom n = t := by
  have : n < 0 ∨ 4096 < n := by omega
  unfold Tab.roomE Tab.setRoom
  rw [if_pos this, if_pos this]
  exact ⟨rfl, rfl⟩
theorem roomE_yes {t : Tab} {n : Int} (h : 0 ≤ n ∧ n ≤ 4096) : Tab.roomE n = 0 ∧ t.setRoom n = ⟨n.toNat, t.went + gone n.toNat 0 t.l, t.l.drop (gone n.toNat 0 t.l)⟩ := by
  have : ¬ (n < 0 ∨ 4096 < n) := by omega
  unfold Tab.roomE Tab.setRoom
  rw [if_neg this, if_neg this]
  exact ⟨rfl, rfl⟩
set_option maxRecDepth 100000 in
set_option maxHeartbeats 4000000 in
theorem tab_room {w : World} {h : Nat} {t : Tab} {A : List Fd} {p q : Nat} (x : PtOk w h t A p q) (n : Int) :
    Calls Try.prog 16 #[.pointer (some ⟨h, 0, none⟩), .int .i64 n] w fun e w' => e = .returned (.int .i64 (Tab.roomE n : Nat)) ∧
      ∃ A' p' q', PtOk w' h (t.setRoom n) A' p' q' ∧ KeepP (fun k => k = h) w w' := by
  by_cases hn : 0 ≤ n ∧ n ≤ 4096
  · obtain ⟨e1, e2⟩ := roomE_yes (t := t) hn
    rw [e1, e2]
    obtain ⟨m, rfl⟩ : ∃ m : Nat, n = (m : Int) := ⟨n.toNat, by omega⟩
    simp only [Int.toNat_natCast]
    have hm : m ≤ 4096 := by omega
    have hd : decide (0 ≤ (m : Int) ∧ (m : Int) ≤ 4096) = true := decide_eq_true hn
    have hmay : ∀ W, Calls Try.prog 31 #[.int .i64 (m : Int)] W fun e w' => e = .returned (.bool true) ∧ w' = W := by
      intro W
      have := tab_may (m : Int) W
      rw [hd] at this
      exact this
    have x2 := x.c1
    have f2 := Row.frozen x.row 1
    have xs : PtOk (w.setCell ⟨h, 1, none⟩ (.int .i64 (m : Int))) h ⟨m, t.went, t.l⟩ A p q := ⟨set_room x.row m, x.al, x.pq, x.q1, x.l, x.sz, hm, x.wb⟩
    have H := veil (show _ ∧ _ from ⟨x, xs⟩)
    clear hd e1 e2 x xs
    go_enter Try.func16, Try.ntmps16
    go_wp2_with first
      | (go_at_call 32; refine (tab_none H.out.1).mono ?_; rintro e1 w ⟨rfl, rfl⟩)
      | (go_at_call 31; refine (hmay _).mono ?_; rintro e1 w ⟨rfl, rfl⟩)
      | (go_at_call 35; refine (tab_shrink H.out.2 m hm).mono ?_; rintro e1 w9 ⟨rfl, A9, p9, hO9, hK9⟩)
    go_ret
    exact ⟨rfl, A9, p9, q, hO9, (KeepP.setCell (st := fun k => k = h) rfl _ _ _).trans hK9⟩
  · obtain ⟨e1, e2⟩ := roomE_no (t := t) hn
    rw [e1, e2]
    have hd : decide (0 ≤ n ∧ n ≤ 4096) = false := decide_eq_false hn
    have hmay : ∀ W, Calls Try.prog 31 #[.int .i64 n] W fun e w' => e = .returned (.bool false) ∧ w' = W := by
      intro W
      have := tab_may n W
      rw [hd] at this
      exact this
    have H := veil x
    clear hd e1 e2 x hn
    go_enter Try.func16, Try.ntmps16
    go_wp2_with first
      | (go_at_call 32; refine (tab_none H.out).mono ?_; rintro e1 w ⟨rfl, rfl⟩)
      | (go_at_call 31; refine (hmay _).mono ?_; rintro e1 w ⟨rfl, rfl⟩)
    go_ret
    exact ⟨rfl, A, p, q, H.out, KeepP.refl _ _⟩
set_option maxRecDepth 100000 in
set_option maxHeartbeats 4000000 in
theorem tab_room_nil (n : Int) (w : World) : Calls Try.prog 16 #[.pointer none, .int .i64 n] w fun e w' => e = .returned (.int .i64 2) ∧ w' = w := by
  go_enter Try.func16, Try.ntmps16
  go_wp2_with (go_at_call 32; refine (tab_none_nil _).mono ?_; rintro e1 w1 ⟨rfl, rfl⟩)
  go_ret
  exact ⟨rfl, rfl⟩
set_option maxRecDepth 100000 in
set_option maxHeartbeats 4000000 in
theorem tab_add_nil (f : Fd) (w : World) : Calls Try.prog 15 #[.pointer none, .agg f.cells] w fun e w' => e = .returned (.int .i64 2) ∧ Below w.heap.size w w' := by
  obtain ⟨fa, fb⟩ := f
  have hB : ∀ o, Below w.heap.size w (w.alloc o) := fun o => (Below.refl w.heap.size w).alloc (Nat.le_refl _) _
  show Calls Try.prog 15 #[.pointer none, .agg #[.string fa, .string fb]] w _
  go_enter Try.func15, Try.ntmps15
  go_wp2_with (go_at_call 32; refine (tab_none_nil _).mono ?_; rintro e1 w1 ⟨rfl, rfl⟩)
  go_ret
  exact ⟨rfl, hB _⟩
set_option maxRecDepth 100000 in
set_option maxHeartbeats 4000000 in
theorem tab_get_nil (n : Int) (w : World) : Calls Try.prog 14 #[.pointer none, .int .u64 n] w fun e w' => e = .returned (.tuple #[.agg fd0.cells, .int .i64 2]) ∧ Below w.heap.size w w' := by
  go_enter Try.func14, Try.ntmps14
  go_wp2_with (go_at_call 32; refine (tab_none_nil _).mono ?_; rintro e1 w1 ⟨rfl, rfl⟩)
  exact bodyPost_ret (result_twoT rfl _ _ w.heap.size _ _ (Row.new w _ _) 2 _ (.int .i64 2) rfl rfl Try.underlying23 (by kernel_rfl) rfl) rfl ⟨rfl, (Below.refl w.heap.size w).alloc (Nat.le_refl _) _⟩
end Tb
end Go.Proofs.Ytoajnhngcfjohaa
