/-
  The document's table: in memory; how great it is.
-/
import Derived.Test.YtoajnhngcfjohaaTbRow
import Derived.Test.YtoajnhngcfjohaaRows
namespace Go.Proofs.Ytoajnhngcfjohaa
open Go Go.RowKit

namespace Tb
/-- The document's table. -/
def rtC (t : Tab) (v : Value) : Array Value := #[.int .i64 (t.room : Int), v, .int .u64 (t.went : Int)]
structure RtOk (w : World) (h : Nat) (t : Tab) (v : Value) : Prop where
  row : Row w h 62 (rtC t v)
  own : RowO w 23 2 v t.l.length (fds t.l)
  sz : size t.l ≤ 1000000000000
  wb : t.went ≤ 1000000000000
theorem RtOk.below {w w' : World} {h : Nat} {t : Tab} {v : Value} (x : RtOk w h t v) (hb : Below w.heap.size w w') : RtOk w' h t v := ⟨x.row.below hb x.row.lt, x.own.below hb, x.sz, x.wb⟩
theorem fds_get2' {l : List Fd} {j : Nat} {g : Fd} (h : l[j]? = some g) : (fds l)[j * 2]? = some (.string g.1) ∧ (fds l)[j * 2 + 1]? = some (.string g.2) :=
  ⟨by have := fds_get l j g 0 h (by omega); rw [Nat.add_zero] at this; exact this, by have := fds_get l j g 1 h (by omega); exact this⟩
theorem size_take_succ {l : List Fd} {k : Nat} {g : Fd} (h : l[k]? = some g) : size (l.take (k + 1)) = size (l.take k) + sz g := by
  rw [List.take_add_one, h]
  simp only [Option.toList_some, size_append, size]
  rfl
theorem size_take_le (l : List Fd) (k : Nat) : size (l.take k) ≤ size l := by
  have h := size_append (l.take k) (l.drop k)
  rw [List.take_append_drop] at h
  omega
set_option maxRecDepth 100000 in
set_option maxHeartbeats 4000000 in
theorem ref_size (w : World) (h : Nat) (t : Tab) (v : Value) (x : RtOk w h t v) : Calls Try.prog 25 #[.pointer (some ⟨h, 0, none⟩)] w fun e w' => e = .returned (.int .i64 (size t.l : Nat)) ∧ ∃ m, w' = w.drewN m := by
  obtain ⟨ad, cap, hv, _, _⟩ := x.own.shape
  have hcl := fun j u => RowO.cells (hv ▸ x.own) j u
  subst hv
  have hsz := x.sz
  have hlen := size_length t.l
  have x1 : w.cell? ⟨h, 1, none⟩ = some (.slice ad t.l.length cap) := x.row.cell 1
  obtain ⟨room, went, l⟩ := t
  simp only at hcl x1 hsz hlen ⊢
  clear x
  obtain ⟨n, hn⟩ : ∃ n, l.length = n := ⟨_, rfl⟩
  rw [hn] at x1 hlen
  have HC := veil hcl
  have HS := veil hsz
  have HN := veil hlen
  have HL := veil hn
  clear hcl hsz hlen hn
  go_enter Try.func25, Try.ntmps25
  go_wp2_with fail
  go_loopw [3, 4] (fun nv iv wr => ∃ k S : Nat, k ≤ n ∧ iv = .int .i64 (k : Int) ∧ nv = .int .i64 (S : Int) ∧ size (l.take k) = S ∧ ∃ m, wr = w.drewN m)
    (fun _ iv _ => n - (intOf iv).toNat)
  case atStart => exact ⟨0, 0, Nat.zero_le _, rfl, rfl, rfl, 0, rfl⟩
  case round =>
    obtain ⟨k, S, hk, rfl, rfl, hS, m, rfl⟩ := hrel
    by_cases hlt : k < n
    · obtain ⟨⟨ga, gb⟩, hg⟩ : ∃ g, l[k]? = some g := ⟨_, List.getElem?_eq_getElem (by have := HL.out; omega)⟩
      have hs := fds_get2' hg
      obtain ⟨g, o, rfl, y0⟩ := HC.out _ _ hs.1
      have y1 : w.cell? ⟨g, o + k * 2 + 1, none⟩ = some (.string gb) := by
        obtain ⟨g', o', e, y⟩ := HC.out _ _ hs.2
        obtain ⟨rfl, rfl⟩ : g = g' ∧ o = o' := by injection e with e; injection e with e1 e2; exact ⟨e1, e2⟩
        rw [Nat.add_assoc]; exact y
      simp only at y0
      have hS1 := size_take_succ hg
      have hS2 := size_take_le l (k + 1)
      have hz : sz (ga, gb) = ga.size + gb.size + 32 := rfl
      have HH := veil (show size (l.take (k + 1)) = S + ga.size + gb.size + 32 ∧ S + ga.size + gb.size + 32 ≤ 1000000000000 from by have := HS.out; omega)
      have HLT := veil (show k < n ∧ n ≤ 1000000000000 from ⟨hlt, by have := HN.out; have := HS.out; omega⟩)
      have bI : (k : Int) < (n : Int) := by omega
      clear hs hg hS hS1 hS2 hz hlt hk
      obtain ⟨La, hLa⟩ : ∃ La, ga.size = La := ⟨_, rfl⟩
      obtain ⟨Lb, hLb⟩ : ∃ Lb, gb.size = Lb := ⟨_, rfl⟩
      rw [hLa, hLb] at HH
      have w1 : IntKind.i64.wrap ((S : Int) + (La : Int)) = ((S + La : Nat) : Int) := by have := HH.out; rw [IntKind.wrap_i64]; omega
      have w2 : IntKind.i64.wrap (((S + La : Nat) : Int) + (Lb : Int)) = ((S + La + Lb : Nat) : Int) := by have := HH.out; rw [IntKind.wrap_i64]; omega
      have w3 : IntKind.i64.wrap (((S + La + Lb : Nat) : Int) + 32) = ((S + La + Lb + 32 : Nat) : Int) := by have := HH.out; rw [IntKind.wrap_i64]; omega
      have w5 : IntKind.i64.wrap ((k : Int) + 1) = ((k + 1 : Nat) : Int) := by have := HLT.out; rw [IntKind.wrap_i64]; omega
      generalize S + La = S1 at *
      generalize S1 + Lb = S2 at *
      generalize S2 + 32 = S3 at *
      go_wp2_with fail
      go_quiet (fail)
      go_wp2_with fail
      go_roundw
      case rel => exact ⟨k + 1, S3, by have := HLT.out; omega, (by first | rfl | go_num), rfl, HH.out.1, _, rfl⟩
      case measure => have := HLT.out; simp [intOf]; omega
    · obtain rfl : k = n := by omega
      have HZ := veil (show size l = S from by rw [← hS, List.take_of_length_le (by have := HL.out; omega)])
      clear hS hlt hk
      go_wp2_with fail
      go_ret
      exact ⟨by rw [HZ.out]; rfl, m, rfl⟩
set_option maxRecDepth 100000 in
set_option maxHeartbeats 4000000 in
theorem ref_new_no (r : Int) (w : World) (h : r < 0 ∨ 4096 < r) : Calls Try.prog 13 #[.int .i64 r] w fun e w' => e = .returned (.tuple #[.pointer none, .int .i64 1]) ∧ w' = w := by
  by_cases h0 : r < 0
  · have n2 : decide (r < 0) = true := by simp; omega
    clear h
    go_enter Try.func13, Try.ntmps13
    go_wp2_with fail
    go_ret2
    exact ⟨rfl, rfl⟩
  · have n2 : decide (r < 0) = false := by simp; omega
    have n3 : decide (4096 < r) = true := by simp; omega
    have n4 : 4096 < r := by omega
    clear h
    go_enter Try.func13, Try.ntmps13
    go_wp2_with fail
    go_ret2
    exact ⟨rfl, rfl⟩
set_option maxRecDepth 100000 in
set_option maxHeartbeats 4000000 in
theorem ref_new (r : Nat) (w : World) (h : r ≤ 4096) : Calls Try.prog 13 #[.int .i64 (r : Int)] w fun e w' => e = .returned (.tuple #[.pointer (some ⟨w.heap.size, 0, none⟩), .int .i64 0]) ∧ RtOk w' w.heap.size ⟨r, 0, []⟩ (.slice none 0 0) ∧ Below w.heap.size w w' := by
  have n2 : decide ((r : Int) < 0) = false := by simp
  have n3 : decide (4096 < (r : Int)) = false := by simp; omega
  have n4 : ¬ (r : Int) < 0 := by omega
  have n5 : ¬ 4096 < (r : Int) := by omega
  go_enter Try.func13, Try.ntmps13
  go_wp2_with fail
  go_ret2
  exact ⟨rfl, ⟨Row.new _ _ _, RowO.nil _ _ _, by simp [size], by simp⟩, (Below.refl w.heap.size w).alloc (Nat.le_refl _) _⟩
set_option maxRecDepth 100000 in
set_option maxHeartbeats 4000000 in
theorem ref_gone (w : World) (h : Nat) (t : Tab) (v : Value) (x : RtOk w h t v) : Calls Try.prog 24 #[.pointer (some ⟨h, 0, none⟩)] w fun e w' => e = .returned (.int .u64 (t.went : Int)) ∧ w' = w := by
  have x2 : w.cell? ⟨h, 2, none⟩ = some (.int .u64 (t.went : Int)) := x.row.cell 2
  clear x
  go_enter Try.func24, Try.ntmps24
  go_wp2_with fail
  go_ret
  exact ⟨rfl, rfl⟩
set_option maxRecDepth 100000 in
set_option maxHeartbeats 4000000 in
theorem ref_came (w : World) (h : Nat) (t : Tab) (v : Value) (x : RtOk w h t v) : Calls Try.prog 23 #[.pointer (some ⟨h, 0, none⟩)] w fun e w' => e = .returned (.int .u64 (t.came : Nat)) ∧ ∃ m, w' = w.drewN m := by
  have x2 : w.cell? ⟨h, 2, none⟩ = some (.int .u64 (t.went : Int)) := x.row.cell 2
  obtain ⟨ad, cap, hv, _, _⟩ := x.own.shape
  subst hv
  have x1 : w.cell? ⟨h, 1, none⟩ = some (.slice ad t.l.length cap) := x.row.cell 1
  have hl := size_length t.l
  have hs := x.sz
  have hw := x.wb
  obtain ⟨n, hn⟩ : ∃ n, t.l.length = n := ⟨_, rfl⟩
  have hc : t.came = t.went + n := by unfold Tab.came; rw [hn]
  rw [hn] at x1 hl
  rw [hc]
  have v1 : IntKind.u64.wrap (n : Int) = (n : Int) := by rw [IntKind.wrap_u64]; omega
  have v2 : IntKind.u64.wrap ((t.went : Int) + (n : Int)) = ((t.went + n : Nat) : Int) := by rw [IntKind.wrap_u64]; omega
  clear x hl hs hw hn hc
  go_enter Try.func23, Try.ntmps23
  go_wp2_with fail
  go_quiet (fail)
  go_wp2_with fail
  go_ret
  exact ⟨rfl, _, rfl⟩
end Tb
end Go.Proofs.Ytoajnhngcfjohaa
