/-
  How the document's Put refuses.
-/
import Derived.Test.YtekgdljbninjiaaDoorGpPcRefG
namespace Go.Proofs.YtekgdljbninjiaaDoor
open Go Go.RowKit Go.Maps Go.Shelf

section
variable (r p : Nat) (a : Option Addr) (len cap : Nat) (last : Bool) (w : World)

set_option maxRecDepth 20000 in
set_option maxHeartbeats 1000000 in
theorem rput_arg1 (hp : 4611686018427387903 < p) (hl : len ≤ 4611686018427387903) :
    Calls Tryd.prog 9 #[.pointer (some ⟨r, 0, .none⟩), .int .u64 (p : Int), .slice a len cap, .bool last] w fun e w' => e = .returned (.int .i64 1) ∧ w' = w := by
  have hw0 : IntKind.u64.wrap (len : Int) = (len : Int) := by rw [IntKind.wrap_u64]; omega
  have h1 : decide ((p : Int) > 4611686018427387903) = true := by simp; omega
  clear hp hl
  go_enter Tryd.func9, Tryd.ntmps9
  go_wp2
  go_ret
  exact ⟨rfl, rfl⟩
set_option maxRecDepth 20000 in
set_option maxHeartbeats 1000000 in
theorem rput_arg2 (hp : p ≤ 4611686018427387903) (hl : len ≤ 4611686018427387903) (hq : 4611686018427387903 < p + len) :
    Calls Tryd.prog 9 #[.pointer (some ⟨r, 0, .none⟩), .int .u64 (p : Int), .slice a len cap, .bool last] w fun e w' => e = .returned (.int .i64 1) ∧ w' = w := by
  have hw0 : IntKind.u64.wrap (len : Int) = (len : Int) := by rw [IntKind.wrap_u64]; omega
  obtain ⟨q, hq0⟩ : ∃ q, q = p + len := ⟨_, rfl⟩
  have hw1 : IntKind.u64.wrap ((p : Int) + (len : Int)) = (q : Int) := by rw [IntKind.wrap_u64]; omega
  have h1 : decide ((p : Int) > 4611686018427387903) = false := by simp; omega
  have h2 : decide ((q : Int) > 4611686018427387903) = true := by simp; omega
  clear hp hl hq hq0
  go_enter Tryd.func9, Tryd.ntmps9
  go_wp2
  go_ret
  exact ⟨rfl, rfl⟩
set_option maxRecDepth 20000 in
set_option maxHeartbeats 2000000 in
theorem rput_final (come lst : Nat) (known : Bool) (c2 : w.cell? ⟨r, 2, .none⟩ = some (.int .u64 (come : Int))) (c3 : w.cell? ⟨r, 3, .none⟩ = some (.int .u64 (lst : Int))) (c4 : w.cell? ⟨r, 4, .none⟩ = some (.bool known)) (hlst : known = true → lst = come) (hq : p + len ≤ 4611686018427387903)
    (hf : known = true ∧ come < p + len ∨ last = true ∧ p + len < come) :
    Calls Tryd.prog 9 #[.pointer (some ⟨r, 0, .none⟩), .int .u64 (p : Int), .slice a len cap, .bool last] w fun e w' => e = .returned (.int .i64 8) ∧ w' = w := by
  have hw0 : IntKind.u64.wrap (len : Int) = (len : Int) := by rw [IntKind.wrap_u64]; omega
  obtain ⟨q, hq0⟩ : ∃ q, q = p + len := ⟨_, rfl⟩
  have hw1 : IntKind.u64.wrap ((p : Int) + (len : Int)) = (q : Int) := by rw [IntKind.wrap_u64]; omega
  have h1 : decide ((p : Int) > 4611686018427387903) = false := by simp; omega
  have h2 : decide ((q : Int) > 4611686018427387903) = false := by simp; omega
  rw [← hq0] at hf
  clear hq hq0
  cases known with
  | true =>
    obtain rfl := hlst rfl
    by_cases h3 : lst < q
    · have h4 : decide ((q : Int) > (lst : Int)) = true := by simp; omega
      have h4n : decide (lst < q) = true := by simp; omega
      clear hf h3 hlst
      go_enter Tryd.func9, Tryd.ntmps9
      go_wp2
      go_ret
      exact ⟨rfl, rfl⟩
    · obtain ⟨rfl, h5⟩ : last = true ∧ q < lst := hf.resolve_left (fun e => h3 e.2)
      have h4 : decide ((q : Int) > (lst : Int)) = false := by simp; omega
      have h4n : decide (lst < q) = false := by simp; omega
      have h6 : ((q : Int) == (lst : Int)) = false := by simp; omega
      have h6n : (q == lst) = false := by simp; omega
      have h8 : ((q : Int) != (lst : Int)) = true := by simp; omega
      have h8n : (q != lst) = true := by simp; omega
      clear hf h3 hlst h5
      go_enter Tryd.func9, Tryd.ntmps9
      go_wp2
      go_ret
      exact ⟨rfl, rfl⟩
  | false =>
    obtain ⟨rfl, h5⟩ : last = true ∧ q < come := hf.resolve_left (fun e => by cases e.1)
    have h7 : decide ((q : Int) < (come : Int)) = true := by simp; omega
    have h7n : decide (q < come) = true := by simp; omega
    clear hf hlst h5
    go_enter Tryd.func9, Tryd.ntmps9
    go_wp2
    go_ret
    exact ⟨rfl, rfl⟩
set_option maxRecDepth 20000 in
set_option maxHeartbeats 2000000 in
theorem rput_full (room read come lst : Nat) (known : Bool) (c0 : w.cell? ⟨r, 0, .none⟩ = some (.int .i64 (room : Int))) (c1 : w.cell? ⟨r, 1, .none⟩ = some (.int .u64 (read : Int))) (c2 : w.cell? ⟨r, 2, .none⟩ = some (.int .u64 (come : Int))) (c3 : w.cell? ⟨r, 3, .none⟩ = some (.int .u64 (lst : Int))) (c4 : w.cell? ⟨r, 4, .none⟩ = some (.bool known)) (hlst : known = true → lst = come)
    (hq : p + len ≤ 4611686018427387903) (hf1 : ¬ (known = true ∧ come < p + len)) (hf2 : ¬ (last = true ∧ p + len < come)) (hr : read + room ≤ 9223372036854775807) (hfl : read + room < p + len) :
    Calls Tryd.prog 9 #[.pointer (some ⟨r, 0, .none⟩), .int .u64 (p : Int), .slice a len cap, .bool last] w fun e w' => e = .returned (.int .i64 6) ∧ Below w.heap.size w w' := by
  have hw0 : IntKind.u64.wrap (len : Int) = (len : Int) := by rw [IntKind.wrap_u64]; omega
  obtain ⟨q, hq0⟩ : ∃ q, q = p + len := ⟨_, rfl⟩
  have hw1 : IntKind.u64.wrap ((p : Int) + (len : Int)) = (q : Int) := by rw [IntKind.wrap_u64]; omega
  have h1 : decide ((p : Int) > 4611686018427387903) = false := by simp; omega
  have h2 : decide ((q : Int) > 4611686018427387903) = false := by simp; omega
  obtain ⟨rr, hr0⟩ : ∃ rr, rr = read + room := ⟨_, rfl⟩
  have hwr : IntKind.u64.wrap (room : Int) = (room : Int) := by rw [IntKind.wrap_u64]; omega
  have hw2 : IntKind.u64.wrap ((read : Int) + (room : Int)) = (rr : Int) := by rw [IntKind.wrap_u64]; omega
  have hg : (q : Int) > (rr : Int) := by omega
  rw [← hq0] at hf1 hf2
  have F1 := veil hf1
  have F2 := veil hf2
  clear hq hq0 hr hr0 hfl hf1 hf2
  cases known with
  | true =>
    obtain rfl := hlst rfl
    have e0 : ¬ lst < q := fun e => F1.out ⟨rfl, e⟩
    have h3 : decide ((q : Int) > (lst : Int)) = false := by simp; omega
    have h3n : decide (lst < q) = false := by simp; omega
    clear hlst e0
    cases last with
    | true =>
      have e1 : ¬ lst < q := fun e => F1.out ⟨rfl, e⟩
      have e2 : ¬ q < lst := fun e => F2.out ⟨rfl, e⟩
      obtain rfl : q = lst := by omega
      have h4 : ((q : Int) == (q : Int)) = true := by simp
      have h8 : ((q : Int) != (q : Int)) = false := by simp
      have h5 : decide ((q : Int) < (q : Int)) = false := by simp
      clear e1 e2
      go_enter Tryd.func9, Tryd.ntmps9
      go_wp2_with fail
      go_quiet (fail)
      go_wp2
      go_ret
      exact ⟨rfl, below_drewN (Below.refl _ _) _⟩
    | false =>
      go_enter Tryd.func9, Tryd.ntmps9
      go_wp2_with fail
      go_quiet (fail)
      go_wp2
      go_ret
      exact ⟨rfl, below_drewN (Below.refl _ _) _⟩
  | false =>
    clear hlst
    cases last with
    | true =>
      have h5 : decide ((q : Int) < (come : Int)) = false := by simp; have := F2.out; simp at *; omega
      have h5n : decide (q < come) = false := by simp; have := F2.out; simp at *; omega
      go_enter Tryd.func9, Tryd.ntmps9
      go_wp2_with fail
      go_quiet (fail)
      go_wp2
      go_ret
      exact ⟨rfl, below_drewN (Below.refl _ _) _⟩
    | false =>
      go_enter Tryd.func9, Tryd.ntmps9
      go_wp2_with fail
      go_quiet (fail)
      go_wp2
      go_ret
      exact ⟨rfl, below_drewN (Below.refl _ _) _⟩
end
end Go.Proofs.YtekgdljbninjiaaDoor
