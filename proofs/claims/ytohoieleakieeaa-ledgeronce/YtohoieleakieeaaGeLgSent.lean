/-
  Written by mklgsent.py: a packet is sent.
-/
import Derived.Test.YtohoieleakieeaaGeLgPut
namespace Go.Proofs.Ytohoieleakieeaa
open Go Go.RowKit

def sentOk (m : ML) (num : Nat) (size : Int) (now : Nat) : Prop := num ≤ 4611686018427387903 ∧ m.next ≤ num ∧ 1 ≤ size ∧ size ≤ 1200 ∧ m.now ≤ now ∧ now ≤ 1099511627775
instance (m : ML) (num : Nat) (size : Int) (now : Nat) : Decidable (sentOk m num size now) := by unfold sentOk; infer_instance
def sentM (m : ML) (num : Nat) (size : Int) (now : Nat) (asks : Bool) : ML :=
  { m with way := m.way ++ [⟨num, size.toNat, now, asks⟩], ask := if asks then m.ask + size.toNat else m.ask, next := num + 1, now := now, asked := if asks then now else m.asked }
set_option maxRecDepth 20000 in
set_option maxHeartbeats 1000000 in
theorem sent_no0 (g : Nat) (v : Value) (m : ML) (num : Nat) (size : Int) (now : Nat) (asks : Bool) (w : World) (h : LdOk w g v m) (hw : 0 < m.win) (h0 : 4611686018427387903 < num) :
    Calls Try.prog 7 #[.pointer (some ⟨g, 0, none⟩), .int .u64 (num : Int), .int .i64 size, .int .u64 (now : Int), .bool asks] w fun e w' => e = .returned (.int .i64 1) ∧ Below w.heap.size w w' := by
  have num1 : decide ((4611686018427387903 : Int) < (num : Int)) = true := by simp; omega
  have num2 : decide (4611686018427387903 < num) = true := by simp; omega
  have c2 := h.cells.c2
  have TC := veil (there_yes g v m w h.row hw)
  clear h hw h0
  go_enter Try.func7, Try.ntmps7
  go_wp2_with fail
  refine TC.out.mono ?_
  rintro e1 w1 ⟨rfl, rfl⟩
  go_wp2
  go_ret
  exact ⟨rfl, Below.refl _ _⟩
set_option maxRecDepth 20000 in
set_option maxHeartbeats 1000000 in
theorem sent_no1 (g : Nat) (v : Value) (m : ML) (num : Nat) (size : Int) (now : Nat) (asks : Bool) (w : World) (h : LdOk w g v m) (hw : 0 < m.win) (h0 : num ≤ 4611686018427387903) (h1 : num < m.next) :
    Calls Try.prog 7 #[.pointer (some ⟨g, 0, none⟩), .int .u64 (num : Int), .int .i64 size, .int .u64 (now : Int), .bool asks] w fun e w' => e = .returned (.int .i64 1) ∧ Below w.heap.size w w' := by
  have num1 : decide ((4611686018427387903 : Int) < (num : Int)) = false := by simp; omega
  have num2 : decide (4611686018427387903 < num) = false := by simp; omega
  have next1 : decide ((num : Int) < (m.next : Int)) = true := by simp; omega
  have next2 : decide (num < m.next) = true := by simp; omega
  have c2 := h.cells.c2
  have TC := veil (there_yes g v m w h.row hw)
  clear h hw h0 h1
  go_enter Try.func7, Try.ntmps7
  go_wp2_with fail
  refine TC.out.mono ?_
  rintro e1 w1 ⟨rfl, rfl⟩
  go_wp2
  go_ret
  exact ⟨rfl, Below.refl _ _⟩
set_option maxRecDepth 20000 in
set_option maxHeartbeats 1000000 in
theorem sent_no2 (g : Nat) (v : Value) (m : ML) (num : Nat) (size : Int) (now : Nat) (asks : Bool) (w : World) (h : LdOk w g v m) (hw : 0 < m.win) (h0 : num ≤ 4611686018427387903) (h1 : m.next ≤ num) (h2 : size < 1) :
    Calls Try.prog 7 #[.pointer (some ⟨g, 0, none⟩), .int .u64 (num : Int), .int .i64 size, .int .u64 (now : Int), .bool asks] w fun e w' => e = .returned (.int .i64 1) ∧ Below w.heap.size w w' := by
  have num1 : decide ((4611686018427387903 : Int) < (num : Int)) = false := by simp; omega
  have num2 : decide (4611686018427387903 < num) = false := by simp; omega
  have next1 : decide ((num : Int) < (m.next : Int)) = false := by simp; omega
  have next2 : decide (num < m.next) = false := by simp; omega
  have s11 : decide (size < (1 : Int)) = true := by simp; omega
  have c2 := h.cells.c2
  have TC := veil (there_yes g v m w h.row hw)
  clear h hw h0 h1 h2
  go_enter Try.func7, Try.ntmps7
  go_wp2_with fail
  refine TC.out.mono ?_
  rintro e1 w1 ⟨rfl, rfl⟩
  go_wp2
  go_ret
  exact ⟨rfl, Below.refl _ _⟩
set_option maxRecDepth 20000 in
set_option maxHeartbeats 1000000 in
theorem sent_no3 (g : Nat) (v : Value) (m : ML) (num : Nat) (size : Int) (now : Nat) (asks : Bool) (w : World) (h : LdOk w g v m) (hw : 0 < m.win) (h0 : num ≤ 4611686018427387903) (h1 : m.next ≤ num) (h2 : 1 ≤ size) (h3 : 1200 < size) :
    Calls Try.prog 7 #[.pointer (some ⟨g, 0, none⟩), .int .u64 (num : Int), .int .i64 size, .int .u64 (now : Int), .bool asks] w fun e w' => e = .returned (.int .i64 1) ∧ Below w.heap.size w w' := by
  have num1 : decide ((4611686018427387903 : Int) < (num : Int)) = false := by simp; omega
  have num2 : decide (4611686018427387903 < num) = false := by simp; omega
  have next1 : decide ((num : Int) < (m.next : Int)) = false := by simp; omega
  have next2 : decide (num < m.next) = false := by simp; omega
  have s11 : decide (size < (1 : Int)) = false := by simp; omega
  have s21 : decide ((1200 : Int) < size) = true := by simp; omega
  have c2 := h.cells.c2
  have TC := veil (there_yes g v m w h.row hw)
  clear h hw h0 h1 h2 h3
  go_enter Try.func7, Try.ntmps7
  go_wp2_with fail
  refine TC.out.mono ?_
  rintro e1 w1 ⟨rfl, rfl⟩
  go_wp2
  go_ret
  exact ⟨rfl, Below.refl _ _⟩
set_option maxRecDepth 20000 in
set_option maxHeartbeats 1000000 in
theorem sent_no4 (g : Nat) (v : Value) (m : ML) (num : Nat) (size : Int) (now : Nat) (asks : Bool) (w : World) (h : LdOk w g v m) (hw : 0 < m.win) (h0 : num ≤ 4611686018427387903) (h1 : m.next ≤ num) (h2 : 1 ≤ size) (h3 : size ≤ 1200) (h4 : ¬ (m.now ≤ now ∧ now ≤ 1099511627775)) :
    Calls Try.prog 7 #[.pointer (some ⟨g, 0, none⟩), .int .u64 (num : Int), .int .i64 size, .int .u64 (now : Int), .bool asks] w fun e w' => e = .returned (.int .i64 1) ∧ Below w.heap.size w w' := by
  have num1 : decide ((4611686018427387903 : Int) < (num : Int)) = false := by simp; omega
  have num2 : decide (4611686018427387903 < num) = false := by simp; omega
  have next1 : decide ((num : Int) < (m.next : Int)) = false := by simp; omega
  have next2 : decide (num < m.next) = false := by simp; omega
  have s11 : decide (size < (1 : Int)) = false := by simp; omega
  have s21 : decide ((1200 : Int) < size) = false := by simp; omega
  have c2 := h.cells.c2
  have TC := veil (there_yes g v m w h.row hw)
  have MC := veil (mayBe_any g v m now w h.row)
  rw [show (decide (m.now ≤ now) && decide (now ≤ 1099511627775)) = false from by rw [Bool.and_eq_false_iff, decide_eq_false_iff_not, decide_eq_false_iff_not]; omega] at MC
  clear h hw h0 h1 h2 h3 h4
  go_enter Try.func7, Try.ntmps7
  go_wp2_with fail
  refine TC.out.mono ?_
  rintro e1 w1 ⟨rfl, rfl⟩
  go_wp2_with fail
  refine MC.out.mono ?_
  rintro e2 w2 ⟨rfl, rfl⟩
  go_wp2
  go_ret
  exact ⟨rfl, Below.refl _ _⟩
set_option maxRecDepth 20000 in
set_option maxHeartbeats 1000000 in
theorem sent_yes (g : Nat) (v : Value) (m : ML) (num : Nat) (size : Int) (now : Nat) (asks : Bool) (w : World) (h : LdOk w g v m) (hw : 0 < m.win) (h0 : num ≤ 4611686018427387903) (h1 : m.next ≤ num) (h2 : 1 ≤ size) (h3 : size ≤ 1200) (h4 : m.now ≤ now ∧ now ≤ 1099511627775) (hl : m.way.length ≤ 2000) (ha : m.ask ≤ 3000000) :
    Calls Try.prog 7 #[.pointer (some ⟨g, 0, none⟩), .int .u64 (num : Int), .int .i64 size, .int .u64 (now : Int), .bool asks] w fun e w' => e = .returned (.int .i64 0) ∧ ∃ v', LdOk w' g v' (sentM m num size now asks) ∧ KeepL g v w w' ∧ (∀ k, v'.ownBlock = some k → v.ownBlock = some k ∨ w.heap.size ≤ k) := by
  have num1 : decide ((4611686018427387903 : Int) < (num : Int)) = false := by simp; omega
  have num2 : decide (4611686018427387903 < num) = false := by simp; omega
  have next1 : decide ((num : Int) < (m.next : Int)) = false := by simp; omega
  have next2 : decide (num < m.next) = false := by simp; omega
  have s11 : decide (size < (1 : Int)) = false := by simp; omega
  have s21 : decide ((1200 : Int) < size) = false := by simp; omega
  obtain ⟨sz, rfl⟩ : ∃ sz : Nat, size = (sz : Int) := ⟨size.toNat, by omega⟩
  have c2 := h.cells.c2
  have c0 := h.cells.c0
  obtain ⟨va, vc, hv, _, _⟩ := h.way.shape
  have TC := veil (there_yes g v m w h.row hw)
  have MC := veil (mayBe_any g v m now w h.row)
  rw [show (decide (m.now ≤ now) && decide (now ≤ 1099511627775)) = true from by rw [Bool.and_eq_true, decide_eq_true_eq, decide_eq_true_eq]; exact h4] at MC
  have l1 : decide ((m.way.length : Int) = 1048576) = false := by simp; omega
  have l2 : decide (m.way.length = 1048576) = false := by simp; omega
  have l3 : ¬ (m.way.length : Int) = 1048576 := by omega
  have l4 : ¬ m.way.length = 1048576 := by omega
  obtain ⟨sm, hsm⟩ : ∃ sm, sentM m num (sz : Int) now asks = sm := ⟨_, rfl⟩
  have PC := veil (put_any g v m ⟨num, sz, now, asks⟩ w h hl ha (by show sz ≤ 1200; omega))
  obtain ⟨n1, hn1⟩ : ∃ n1, num + 1 = n1 := ⟨_, rfl⟩
  have e1 : IntKind.u64.wrap ((num : Int) + 1) = (n1 : Int) := by rw [IntKind.wrap_u64]; omega
  rw [hsm]
  have HSM := veil hsm
  have HN := veil hn1
  unfold pkC at PC
  simp only at PC
  clear h hw h0 h1 h2 h3 h4 hl ha hsm hn1
  subst hv
  generalize m.way.length = wl at *
  generalize hmn : m.next = mn at *
  have HMN := veil hmn
  clear hmn
  go_enter Try.func7, Try.ntmps7
  go_wp2_with fail
  refine TC.out.mono ?_
  rintro e1 w1 ⟨rfl, rfl⟩
  go_wp2_with fail
  refine MC.out.mono ?_
  rintro e2 w2 ⟨rfl, rfl⟩
  go_wp2_with fail
  refine PC.out.mono ?_
  rintro e3 w3 ⟨⟨u3, rfl⟩, v3, hL3, hK3, hV3⟩
  have r2 := hL3.cells.c2
  have r4 := hL3.cells.c4
  have r3 := hL3.cells.c3
  have f2 := hL3.cells.f 2
  have f3 := hL3.cells.f 3
  have f4 := hL3.cells.f 4
  simp only at r2 r3 r4
  have HL := veil hL3
  have HK := veil hK3
  have HV := veil hV3
  clear hL3 hK3 hV3 c0 c2
  cases asks
  · go_wp2
    go_ret
    refine ⟨rfl, v3, ?_, ?_, HV.out⟩
    · rw [← HSM.out]
      refine ⟨?_, HL.out.way.same (fun k hk => ?_)⟩
      · show Row _ g 51 (mlC v3 ⟨_, _, num + 1, _, _, _, _, _, _, _, _, _, _, _, _⟩)
        rw [HN.out]
        exact (HL.out.row.set 2 _).set 4 _
      · have hne : k ≠ g := fun e => HL.out.apart (e ▸ hk)
        rw [Below.heap_setCell _ _ _ _ hne, Below.heap_setCell _ _ _ _ hne]
    · exact (HK.out.trans (KeepP.setCell (.inl rfl) _ _ _)).trans (KeepP.setCell (.inl rfl) _ _ _)
  · go_wp2
    go_ret
    refine ⟨rfl, v3, ?_, ?_, HV.out⟩
    · rw [← HSM.out]
      refine ⟨?_, HL.out.way.same (fun k hk => ?_)⟩
      · show Row _ g 51 (mlC v3 ⟨_, _, num + 1, _, _, _, _, _, _, _, _, _, _, _, _⟩)
        rw [HN.out]
        exact ((HL.out.row.set 2 _).set 4 _).set 3 _
      · have hne : k ≠ g := fun e => HL.out.apart (e ▸ hk)
        rw [Below.heap_setCell _ _ _ _ hne, Below.heap_setCell _ _ _ _ hne, Below.heap_setCell _ _ _ _ hne]
    · exact ((HK.out.trans (KeepP.setCell (.inl rfl) _ _ _)).trans (KeepP.setCell (.inl rfl) _ _ _)).trans (KeepP.setCell (.inl rfl) _ _ _)
theorem sent_any (g : Nat) (v : Value) (m : ML) (num : Nat) (size : Int) (now : Nat) (asks : Bool) (w : World) (h : LdOk w g v m) (hw : 0 < m.win) (hl : m.way.length ≤ 2000) (ha : m.ask ≤ 3000000) :
    Calls Try.prog 7 #[.pointer (some ⟨g, 0, none⟩), .int .u64 (num : Int), .int .i64 size, .int .u64 (now : Int), .bool asks] w fun e w' => ∃ v', (sentOk m num size now ∧ e = .returned (.int .i64 0) ∧ LdOk w' g v' (sentM m num size now asks) ∨ ¬ sentOk m num size now ∧ e = .returned (.int .i64 1) ∧ LdOk w' g v' m) ∧ KeepL g v w w' ∧ (∀ k, v'.ownBlock = some k → v.ownBlock = some k ∨ w.heap.size ≤ k) := by
  by_cases c : sentOk m num size now
  · obtain ⟨h0, h1, h2, h3, h4⟩ := c
    refine (sent_yes g v m num size now asks w h hw h0 h1 h2 h3 h4 hl ha).mono ?_
    rintro e w' ⟨rfl, v', a, b, d⟩
    exact ⟨v', .inl ⟨⟨h0, h1, h2, h3, h4⟩, rfl, a⟩, b, d⟩
  · have no : ∀ (e : Ending) (w' : World), (e = .returned (.int .i64 1) ∧ Below w.heap.size w w') → ∃ v', (sentOk m num size now ∧ e = .returned (.int .i64 0) ∧ LdOk w' g v' (sentM m num size now asks) ∨ ¬ sentOk m num size now ∧ e = .returned (.int .i64 1) ∧ LdOk w' g v' m) ∧ KeepL g v w w' ∧ (∀ k, v'.ownBlock = some k → v.ownBlock = some k ∨ w.heap.size ≤ k) := by
      rintro e w' ⟨rfl, hb⟩
      exact ⟨v, .inr ⟨c, rfl, h.below hb⟩, KeepP.of_below hb, fun k hk => .inl hk⟩
    by_cases h0 : num ≤ 4611686018427387903
    · by_cases h1 : m.next ≤ num
      · by_cases h2 : 1 ≤ size
        · by_cases h3 : size ≤ 1200
          · exact (sent_no4 g v m num size now asks w h hw h0 h1 h2 h3 (fun q => c ⟨h0, h1, h2, h3, q⟩)).mono no
          · exact (sent_no3 g v m num size now asks w h hw h0 h1 h2 (by omega)).mono no
        · exact (sent_no2 g v m num size now asks w h hw h0 h1 (by omega)).mono no
      · exact (sent_no1 g v m num size now asks w h hw h0 (by omega)).mono no
    · exact (sent_no0 g v m num size now asks w h hw (by omega)).mono no
end Go.Proofs.Ytohoieleakieeaa
