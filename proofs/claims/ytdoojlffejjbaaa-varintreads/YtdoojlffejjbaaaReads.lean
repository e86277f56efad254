/-
  VarintReads: the number that begins in what is left of the first of any bytes is exactly the documented one, or they are refused; the bytes stay as they were.
  For every number of bits and every slice of bytes.
-/
import Derived.Test.YtdoojlffejjbaaaRefMore
import Derived.Test.YtdoojlffejjbaaaLiftP
namespace Go.Proofs.Ytdoojlffejjbaaa
open Go.ChangeShapes Go.WideShapes Go.ChangeAt Go.RowKit

theorem Lies.step {w w' : World} {a : Option Addr} {zs : List Int} (h : Lies w a zs) (hb : Below w.heap.size w w') : Lies w' a zs := by
  rcases h with h | ⟨b, off, rfl, hlt, hc⟩
  · exact .inl h
  · exact .inr ⟨b, off, rfl, Nat.lt_of_lt_of_le hlt hb.size, fun j hj => (hb.cell (p := ⟨b, off + j, none⟩) hlt).trans (hc j hj)⟩

/-- Both GetPrefix answer the same, at whatever bits. -/
theorem both (b : Int) (zs : List Int) (hb : ∀ j : Nat, 0 ≤ zs[j]?.getD 0 ∧ zs[j]?.getD 0 ≤ 255) : ∃ c x n e : Int,
    (∀ a len cap w, zs.length = len → len ≤ 1073741824 → len ≤ cap → Lies w a zs → Calls Try.prog 6 #[.int .i64 b, .slice a len cap] w fun r w' => r = .returned (.tuple #[.int .u8 c, .int .u64 x, .int .i64 n, .int .i64 e]) ∧ Below w.heap.size w w') ∧
    (∀ a len cap w, zs.length = len → len ≤ 1073741824 → Lies w a zs → Calls Try.prog 7 #[.int .i64 b, .slice a len cap] w fun r w' => r = .returned (.tuple #[.int .u8 c, .int .u64 x, .int .i64 n, .int .i64 e]) ∧ w' = w) := by
  by_cases hbb : 1 ≤ b ∧ b ≤ 8
  · obtain ⟨M, hM⟩ := IsMask.of b hbb.1 hbb.2
    exact ⟨_, _, _, _, fun a len cap w h1 h2 h3 h4 => getp_any a len cap zs b M w hM h1 h2 h3 h4 hb, fun a len cap w h1 h2 h4 => refgetp_any a len cap zs b M w hM h1 h2 h4 hb⟩
  · exact ⟨0, 0, 0, 1, fun a len cap w _ _ _ _ => (getp_bits a len cap b w (by omega)).mono fun r w' ⟨h1, h2⟩ => ⟨h1, by rw [h2]; exact Below.refl _ _⟩, fun a len cap w _ _ _ => refgetp_bits a len cap b w (by omega)⟩

set_option maxHeartbeats 2000000 in
theorem reads_walk (b : Int) (a : Option Addr) (len cap : Nat) (zs : List Int) (w : World) (hz : zs.length = len) (hm : len ≤ 9223372036854775807) (hLies : Lies w a zs) (hb : ∀ j : Nat, 0 ≤ zs[j]?.getD 0 ∧ zs[j]?.getD 0 ≤ 255) :
    Calls Try.prog 3 #[.int .i64 b, .slice a len cap] w fun e w' => e = .returned (.bool true) ∧ Below w.heap.size w w' := by
  have hbel0 : Below w.heap.size w (w.alloc (.cells #[.int .i64 (len : Int)] 3)) := (Below.refl _ w).alloc (Nat.le_refl _) _
  by_cases hl : len ≤ 1048576
  · have H1 : Hid (Lies (w.alloc (.cells #[.int .i64 (len : Int)] 3)) a zs) := hLies.step hbel0
    have HZ : Hid (zs.length = len) := hz
    obtain ⟨c, x, n, e, hA, hR⟩ := both b zs hb
    have HA : Hid (∀ a len cap w, zs.length = len → len ≤ 1073741824 → len ≤ cap → Lies w a zs → Calls Try.prog 6 #[.int .i64 b, .slice a len cap] w fun r w' => r = .returned (.tuple #[.int .u8 c, .int .u64 x, .int .i64 n, .int .i64 e]) ∧ Below w.heap.size w w') := hA
    have HR : Hid (∀ a len cap w, zs.length = len → len ≤ 1073741824 → Lies w a zs → Calls Try.prog 7 #[.int .i64 b, .slice a len cap] w fun r w' => r = .returned (.tuple #[.int .u8 c, .int .u64 x, .int .i64 n, .int .i64 e]) ∧ w' = w) := hR
    clear hz hLies hA hR hb
    go_enter Try.func3, Try.ntmps3
    go_wp2_with fail
    refine (beyond_no _ _ (len : Int) _ (by omega) (by omega) (by simp)).mono ?_
    rintro e1 w1 ⟨rfl, rfl⟩
    go_wp2_with fail
    refine (twin_any _ _ _ zs _ HZ.out hl H1.out).mono ?_
    rintro e2 w2 ⟨g, rfl, hown, hbel2⟩
    obtain ⟨hg, hg2, hT, h77⟩ := twin_cells HZ.out hown
    have HT : Hid (∀ j : Nat, j < len → w2.cell? ⟨g, j, none⟩ = some (.int .u8 (zs[j]?.getD 0))) := hT
    have H77 : Hid (w2.cell? ⟨g, len, none⟩ = some (.int .u8 77)) := h77
    have HLt : Hid (Lies w2 (some ⟨g, 0, none⟩) zs) := .inr ⟨g, 0, rfl, hg, fun j hj => by have := hT j (by rw [← HZ.out]; exact hj); simpa using this⟩
    have HLb : Hid (Lies w2 a zs) := H1.out.step hbel2
    have HB : Hid (Below w.heap.size w w2) := hbel0.trans (hbel2.mono (by simp))
    clear hT h77 hown hbel2 hbel0 hg2
    go_wp2_with fail
    refine (HA.out _ len (len + 1) w2 HZ.out (by omega) (by omega) HLt.out).mono ?_
    rintro e3 w3 ⟨rfl, hb3⟩
    have HLb3 : Hid (Lies w3 a zs) := HLb.out.step hb3
    have HB3 : Hid (Below w.heap.size w w3) := HB.out.trans (hb3.mono HB.out.size)
    have HT3 : Hid (∀ j : Nat, j < len → w3.cell? ⟨g, j, none⟩ = some (.int .u8 (zs[j]?.getD 0))) := fun j hj => (hb3.cell (p := ⟨g, j, none⟩) hg).trans (HT.out j hj)
    have H773 : Hid (w3.cell? ⟨g, len, none⟩ = some (.int .u8 77)) := (hb3.cell (p := ⟨g, len, none⟩) hg).trans H77.out
    have hg3 : g < w3.heap.size := Nat.lt_of_lt_of_le hg hb3.size
    clear hb3 HLb HB HT H77 HLt hg
    go_wp2_with fail
    refine (HR.out _ len cap w3 HZ.out (by omega) HLb3.out).mono ?_
    rintro e4 w4 ⟨rfl, hw4⟩
    obtain rfl := hw4.symm
    go_wp2_with fail
    refine (left_any _ _ _ _ zs _ HZ.out hl HLb3.out hg3 HT3.out H773.out).mono ?_
    rintro e5 w5 ⟨rfl, hbel5⟩
    go_wp2
    go_ret
    exact ⟨rfl, HB3.out.trans (hbel5.mono HB3.out.size)⟩
  · clear hLies hz
    go_enter Try.func3, Try.ntmps3
    go_wp2_with fail
    refine (beyond_yes _ _ (len : Int) _ (by omega) (by omega) (by simp)).mono ?_
    rintro e1 w1 ⟨rfl, rfl⟩
    go_wp2
    go_ret
    exact ⟨rfl, hbel0⟩
/-! ### The row -/
set_option maxRecDepth 100000 in
theorem reads_lifted (os : Os) (started : os.Started) (H : Type) (enc : TypeId × Value → H) :
    ReturnsInHanded {} Try.checked os 3 .any (Rows.varintReadsSpec.pre6 enc Try.prog Try.f3 Rows.varintReadsRow.domain false)
      (Rows.varintReadsSpec.post enc Try.prog Try.f3 false true false false) := by
  refine returnsInHanded_of_change (C := Try.checked) own started (by kernel_rfl) Try.func3
    (ChangeSpec.witness6 (enc := enc) (C := Try.checked) false ⟨#[], #[.int .i64 0, .slice none 0 0], []⟩ 8 (by kernel_rfl) (by kernel_rfl) (by kernel_rfl) (by kernel_rfl)) ?_
  intro W base args ds gs before hval0 hW _ _
  have hval : ∀ (j : Nat) t v, Try.f3.params[j]? = some t → args[j]? = some v → Value.okWide Try.prog W .any base t v := hval0
  have hW' := hW
  obtain ⟨p, q, hA0, hV, rfl, hfz, hnd⟩ := hW
  have hA : DataW.TrodAll enc Try.prog W 0 (fun _ => true) true Try.f3.params.toList args.toList ds p := hA0
  rw [Try.params3] at hA hval
  obtain ⟨v0, vs0, d0, ds0, p0, q0, hargs, rfl, rfl, h0, r0⟩ := trodAll_cons hA
  obtain ⟨v1, vs1, d1, ds1, p1, q1, rfl, rfl, rfl, h1, r1⟩ := trodAll_cons r0
  obtain ⟨rfl, rfl, rfl⟩ := trodAll_nil r1
  obtain rfl : args = #[v0, v1] := by cases args; simp_all
  obtain ⟨rfl, rfl⟩ := trodVars_none hV
  obtain ⟨a0, rfl, rfl, rfl, w0⟩ := open_int Try.underlying3 (hval 0 3 v0 rfl rfl) h0
  have bd0 := bounds_i64 w0
  obtain ⟨a1, len1, cap1, rfl⟩ := okWide_slice Try.underlying22 (hval 1 22 v1 rfl rfl)
  have k1 := h1
  have lt1 : ∀ x ∈ p1, x.block < W.heap.size := by obtain ⟨m, hm⟩ := k1; exact DataW.trod_lt m _ _ _ hm
  obtain ⟨z1, w1⟩ : ∃ zs, IsRow W a1 len1 cap1 zs := by
    obtain ⟨fuel, hf⟩ := h1
    rcases open_ints Try.underlying22 Try.underlying5 (by kernel_rfl) hf with ⟨hcs, _⟩ | ⟨x, l, c, zs, hcs, _, hl, hm, hz, _, hcell, hwz⟩
    · simp [Value.cells] at hcs
      obtain ⟨rfl, rfl, rfl⟩ := hcs
      exact ⟨[], .inl ⟨rfl, rfl, rfl, rfl⟩⟩
    · simp [Value.cells] at hcs
      obtain ⟨rfl, rfl, rfl⟩ := hcs
      exact ⟨zs, .inr ⟨_, rfl, hl, hm, by simpa using hz, hcell, hwz⟩⟩
  obtain ⟨e11, e12, e13, e14, e15⟩ := w1.lies
  clear hA0 hval0
  simp only [List.append_nil, List.nil_append] at hW'
  refine (reads_walk a0 a1 len1 cap1 (z1.take len1) W e11 e12 e14 e15).mono fun e W' ⟨he, bel⟩ => ?_
  subst he
  exact ⟨_, rfl, _, _, _, [], _, [], hW', trodAll_mk1 (shut_bool Try.underlying4 _), (trodAll_cons_mk (shut_int Try.underlying3 w0) (trodAll_cons_mk (Below.trod laidOut (by kernel_rfl) (of_decide_eq_true (by kernel_rfl)) k1 bel lt1) trodAll_mk0)), rfl, bel.frame _, fun h => by cases h⟩

theorem reads_holds : Rows.VarintReadsSaid :=
  OpenClaim.holds_of_wide 3 Try.f3 rfl rfl rfl rfl rfl rfl rfl ⟨rfl, rfl, rfl, rfl, rfl⟩ rfl rfl rfl rfl rfl (by kernel_rfl) Try.func3 (by kernel_rfl)
    (of_decide_eq_true (by kernel_rfl)) (by unfold Func.isWrapper; first | (rw [if_pos (by decide +kernel)]; kernel_rfl) | (rw [if_neg (by decide +kernel)]; exact ⟨rfl, rfl⟩))
    (fun os started H enc _ => reads_lifted os started H enc)
#print axioms reads_holds
end Go.Proofs.Ytdoojlffejjbaaa
