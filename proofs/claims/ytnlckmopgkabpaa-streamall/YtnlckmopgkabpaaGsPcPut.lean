/-
  What Put answers, and what becomes of the pieces.
-/
import Derived.Test.YtnlckmopgkabpaaGsPcHold
namespace Go.Proofs.Ytnlckmopgkabpaa
open Go Go.RowKit Go.Maps Go.Shelf

theorem hold_any (S : PS) (g m p : Nat) (s : SL) (w : World) (h : PcOk w g m S) (hs : s.Ok w) (hp : p + s.len ≤ 4611686018427387903) (hN : p + s.len ≤ S.read + S.room) :
    Calls Try.prog 23 #[.pointer (some ⟨g, 0, none⟩), .int .u64 (p : Int), .slice s.a s.len s.cap] w fun e w' => e = .returned (.tuple #[]) ∧
      MapOk w' m (Pc.holdK S.f (max p S.read) (p + s.len) p s.b) (Pc.cnt (Pc.holdK S.f (max p S.read) (p + s.len) p s.b) S.read S.room) ∧ KeepP (fun k => k = m) w w' :=
  (callsIn_wide (n := 4)).1 (hold_in 4 S g m p s w h hs hp hN)

section
variable (S : PS) (g m p : Nat) (a : Option Addr) (len cap : Nat) (last : Bool) (w : World)

set_option maxRecDepth 20000 in
set_option maxHeartbeats 1000000 in
theorem put_arg1 (c1 : w.cell? ⟨g, 1, none⟩ = some (.map (some m))) (hp : 4611686018427387903 < p) :
    Calls Try.prog 11 #[.pointer (some ⟨g, 0, none⟩), .int .u64 (p : Int), .slice a len cap, .bool last] w fun e w' => e = .returned (.int .i64 1) ∧ w' = w := by
  have HT := veil (there_yes w g m c1)
  have h1 : (p : Int) > 4611686018427387903 := by omega
  clear hp c1
  go_enter Try.func11, Try.ntmps11
  go_wp2_with fail
  refine HT.out.mono ?_
  rintro e1 w1 ⟨rfl, rfl⟩
  go_wp2
  go_ret
  exact ⟨rfl, rfl⟩
set_option maxRecDepth 20000 in
set_option maxHeartbeats 1000000 in
theorem put_arg2 (c1 : w.cell? ⟨g, 1, none⟩ = some (.map (some m))) (hp : p ≤ 4611686018427387903) (hl : len ≤ 4611686018427387903) (hq : 4611686018427387903 < p + len) :
    Calls Try.prog 11 #[.pointer (some ⟨g, 0, none⟩), .int .u64 (p : Int), .slice a len cap, .bool last] w fun e w' => e = .returned (.int .i64 1) ∧ w' = w := by
  have HT := veil (there_yes w g m c1)
  have hw0 : IntKind.u64.wrap (len : Int) = (len : Int) := by rw [IntKind.wrap_u64]; omega
  obtain ⟨q, hq0⟩ : ∃ q, q = p + len := ⟨_, rfl⟩
  have hw1 : IntKind.u64.wrap ((p : Int) + (len : Int)) = (q : Int) := by rw [IntKind.wrap_u64]; omega
  have h1 : ¬ ((p : Int) > 4611686018427387903) := by omega
  have h2 : (q : Int) > 4611686018427387903 := by omega
  clear hp hl hq hq0 c1
  go_enter Try.func11, Try.ntmps11
  go_wp2_with fail
  refine HT.out.mono ?_
  rintro e1 w1 ⟨rfl, rfl⟩
  go_wp2
  go_ret
  exact ⟨rfl, rfl⟩
set_option maxRecDepth 20000 in
set_option maxHeartbeats 1000000 in
theorem put_final (c1 : w.cell? ⟨g, 1, none⟩ = some (.map (some m))) (come : Nat) (known : Bool) (c3 : w.cell? ⟨g, 3, none⟩ = some (.int .u64 (come : Int))) (c4 : w.cell? ⟨g, 4, none⟩ = some (.bool known)) (hq : p + len ≤ 4611686018427387903)
    (hf : known = true ∧ come < p + len ∨ last = true ∧ p + len < come) :
    Calls Try.prog 11 #[.pointer (some ⟨g, 0, none⟩), .int .u64 (p : Int), .slice a len cap, .bool last] w fun e w' => e = .returned (.int .i64 8) ∧ w' = w := by
  have HT := veil (there_yes w g m c1)
  have hw0 : IntKind.u64.wrap (len : Int) = (len : Int) := by rw [IntKind.wrap_u64]; omega
  obtain ⟨q, hq0⟩ : ∃ q, q = p + len := ⟨_, rfl⟩
  have hw1 : IntKind.u64.wrap ((p : Int) + (len : Int)) = (q : Int) := by rw [IntKind.wrap_u64]; omega
  have h1 : ¬ ((p : Int) > 4611686018427387903) := by omega
  have h2 : ¬ ((q : Int) > 4611686018427387903) := by omega
  rw [← hq0] at hf
  clear hq hq0
  by_cases h3 : known = true ∧ come < q
  · obtain ⟨rfl, h3⟩ := h3
    have h4 : (q : Int) > (come : Int) := by omega
    clear hf c1
    go_enter Try.func11, Try.ntmps11
    go_wp2_with fail
    refine HT.out.mono ?_
    rintro e1 w1 ⟨rfl, rfl⟩
    go_wp2
    go_ret
    exact ⟨rfl, rfl⟩
  · obtain ⟨rfl, h4⟩ : last = true ∧ q < come := hf.resolve_left h3
    have h5 : (q : Int) < (come : Int) := by omega
    clear hf h3 c1
    cases known
    all_goals
      go_enter Try.func11, Try.ntmps11
      go_wp2_with fail
      refine HT.out.mono ?_
      rintro e1 w1 ⟨rfl, rfl⟩
      go_wp2
      go_ret
      exact ⟨rfl, rfl⟩
set_option maxRecDepth 20000 in
set_option maxHeartbeats 1000000 in
theorem put_full (c1 : w.cell? ⟨g, 1, none⟩ = some (.map (some m))) (room read come : Nat) (known : Bool) (c0 : w.cell? ⟨g, 0, none⟩ = some (.int .u64 (room : Int))) (c2 : w.cell? ⟨g, 2, none⟩ = some (.int .u64 (read : Int))) (c3 : w.cell? ⟨g, 3, none⟩ = some (.int .u64 (come : Int))) (c4 : w.cell? ⟨g, 4, none⟩ = some (.bool known))
    (hq : p + len ≤ 4611686018427387903) (hf1 : ¬ (known = true ∧ come < p + len)) (hf2 : ¬ (last = true ∧ p + len < come)) (hr : read + room ≤ 9223372036854775807) (hfl : read + room < p + len) :
    Calls Try.prog 11 #[.pointer (some ⟨g, 0, none⟩), .int .u64 (p : Int), .slice a len cap, .bool last] w fun e w' => e = .returned (.int .i64 6) ∧ Below w.heap.size w w' := by
  have HT := veil (there_yes w g m c1)
  have hw0 : IntKind.u64.wrap (len : Int) = (len : Int) := by rw [IntKind.wrap_u64]; omega
  obtain ⟨q, hq0⟩ : ∃ q, q = p + len := ⟨_, rfl⟩
  have hw1 : IntKind.u64.wrap ((p : Int) + (len : Int)) = (q : Int) := by rw [IntKind.wrap_u64]; omega
  have h1 : ¬ ((p : Int) > 4611686018427387903) := by omega
  have h2 : ¬ ((q : Int) > 4611686018427387903) := by omega
  obtain ⟨r, hr0⟩ : ∃ r, r = read + room := ⟨_, rfl⟩
  have hw2 : IntKind.u64.wrap ((read : Int) + (room : Int)) = (r : Int) := by rw [IntKind.wrap_u64]; omega
  have h3 : known = true → ¬ ((q : Int) > (come : Int)) := fun e c => hf1 ⟨e, by omega⟩
  have h4 : last = true → ¬ ((q : Int) < (come : Int)) := fun e c => hf2 ⟨e, by omega⟩
  have h5 : (q : Int) > (r : Int) := by omega
  clear hq hq0 hf1 hf2 hr hr0 hfl
  cases known <;> cases last
  all_goals
    first | have h6 := h3 rfl | skip
    first | have h7 := h4 rfl | skip
    clear h3 h4
    go_enter Try.func11, Try.ntmps11
    go_wp2_with fail
    refine HT.out.mono ?_
    rintro e1 w1 ⟨rfl, rfl⟩
    go_wp2_with fail
    go_quiet (fail)
    go_wp2
    go_ret
    exact ⟨rfl, below_drewN (Below.refl _ _) _⟩
end

set_option maxRecDepth 20000 in
set_option maxHeartbeats 1000000 in
theorem put_ok (S : PS) (g m p : Nat) (s : SL) (last : Bool) (w : World) (h : PcOk w g m S) (hs : s.Ok w) (hE : Pc.putE S p s.len last = 0) :
    Calls Try.prog 11 #[.pointer (some ⟨g, 0, none⟩), .int .u64 (p : Int), .slice s.a s.len s.cap, .bool last] w fun e w' => e = .returned (.int .i64 0) ∧ PcOk w' g m (Pc.putS S p s.b last) ∧ KeepP (Two g m) w w' := by
  obtain ⟨hq, hf1, hf2, hfl⟩ := Pc.putE_zero hE
  obtain ⟨c0, c1, c2, c3, c4⟩ := h.cells
  have hrm := h.fine.room
  have hrd : S.read ≤ 4611686018427387903 := by have := h.fine.rc; have := h.fine.come; omega
  have hcm := h.fine.come
  have HFI := veil (Pc.put_fine (b := s.b) h.fine (by rw [hs.hb]; exact hE))
  have HT := veil (there_yes w g m c1)
  have hw0 : IntKind.u64.wrap (s.len : Int) = (s.len : Int) := by rw [IntKind.wrap_u64]; omega
  obtain ⟨q, hq0⟩ : ∃ q, q = p + s.len := ⟨_, rfl⟩
  have hw1 : IntKind.u64.wrap ((p : Int) + (s.len : Int)) = (q : Int) := by rw [IntKind.wrap_u64]; omega
  have h1 : ¬ ((p : Int) > 4611686018427387903) := by omega
  have h2 : ¬ ((q : Int) > 4611686018427387903) := by omega
  obtain ⟨r, hr0⟩ : ∃ r, r = S.read + S.room := ⟨_, rfl⟩
  have hw2 : IntKind.u64.wrap ((S.read : Int) + (S.room : Int)) = (r : Int) := by rw [IntKind.wrap_u64]; omega
  have h3 : S.known = true → ¬ ((q : Int) > (S.come : Int)) := fun e c => hf1 ⟨e, by omega⟩
  have h4 : last = true → ¬ ((q : Int) < (S.come : Int)) := fun e c => hf2 ⟨e, by omega⟩
  have h5 : ¬ ((q : Int) > (r : Int)) := by omega
  have HO := veil (show ∀ nq, Calls Try.prog 23 #[.pointer (some ⟨g, 0, none⟩), .int .u64 (p : Int), .slice s.a s.len s.cap] (w.drewN nq) fun e w' => e = .returned (.tuple #[]) ∧
      ((Row w' g 58 (pcC m S) ∧ MapOk w' m (Pc.holdK S.f (max p S.read) q p s.b) (Pc.cnt (Pc.holdK S.f (max p S.read) q p s.b) S.read S.room)) ∧ KeepP (Two g m) w w') from fun nq => by
    have hb : Below w.heap.size w (w.drewN nq) := below_drewN (Below.refl _ _) _
    refine (hold_any S g m p s _ (h.below hb) (hs.below hb) hq hfl).mono ?_
    rintro e w' ⟨rfl, hm, hk⟩
    rw [← hq0] at hm
    have hk' : KeepP (Two g m) (w.drewN nq) w' := ⟨hk.os, hk.tape, hk.output, hk.size, fun k hk1 hk2 => hk.block k hk1 (fun e => hk2 (.inr e))⟩
    exact ⟨rfl, ⟨hk.row (h.row.below hb h.row.lt) h.ne, hm⟩, (KeepP.of_below hb).trans hk'⟩)
  obtain ⟨mx, hmx0⟩ : ∃ mx, mx = max S.come q := ⟨_, rfl⟩
  have hmx : ∀ ty W, (Builtin.max_ #[28, 28] ty #[.int .u64 (S.come : Int), .int .u64 (q : Int)]).run Try.prog W = .ok (.int .u64 (mx : Int)) W := fun ty W => by rw [hmx0]; exact run_maxU _ _ _ _ _ _
  have HEQ := veil (show (Pc.putS S p s.b last) = ⟨S.room, S.read, mx, S.known || last, Pc.holdK S.f (max p S.read) q p s.b⟩ by unfold Pc.putS; rw [hs.hb, hmx0, hq0])
  have HNE := veil h.ne
  obtain ⟨room, read, come, known, f⟩ := S
  simp only at c0 c1 c2 c3 c4 hw2 h3 h4 hmx ⊢
  clear hq hf1 hf2 hfl hE hrm hrd hcm hq0 hr0 hmx0 h hs
  cases known <;> cases last
  all_goals
    first | have h6 := h3 rfl | skip
    first | have h7 := h4 rfl | skip
    clear h3 h4
    go_enter Try.func11, Try.ntmps11
    go_wp2_with fail
    refine HT.out.mono ?_
    rintro e1 w1 ⟨rfl, rfl⟩
    go_wp2_with fail
    go_quiet (fail)
    go_wp2_with fail
    refine (HO.out _).mono ?_
    rintro e2 w2 ⟨rfl, ⟨r2, m2⟩, k2⟩
    have d3 := r2.cell 3
    have d4 := r2.cell 4
    simp only [pcC, List.getElem?_toArray, List.getElem?_cons_succ, List.getElem?_cons_zero] at d3 d4
    have g3 := r2.frozen 3
    have R3 := r2.set 3 (.int .u64 (mx : Int))
    have d4' := R3.cell 4
    have g4 := R3.frozen 4
    simp only [pcC, List.setIfInBounds_toArray, List.set_cons_succ, List.set_cons_zero, List.getElem?_toArray, List.getElem?_cons_succ, List.getElem?_cons_zero] at d4' R3
    have HR3 := veil R3
    have HM2 := veil m2
    have HK2 := veil k2
    clear r2 m2 k2 R3
    go_wp2_with fail
    go_ret
    refine ⟨rfl, ⟨?_, ?_, HFI.out⟩, (HK2.out.trans (KeepP.setCell (.inl rfl) _ _ _)).trans (KeepP.setCell (.inl rfl) _ _ _)⟩
    · rw [HEQ.out]
      exact HR3.out.set 4 _
    · rw [HEQ.out]
      exact HM2.out.same ((Below.heap_setCell _ _ _ _ (Ne.symm HNE.out)).trans (Below.heap_setCell _ _ _ _ (Ne.symm HNE.out)))

/-- What Put answers, and what becomes of the pieces. -/
theorem put_any (S : PS) (g m p : Nat) (s : SL) (last : Bool) (w : World) (h : PcOk w g m S) (hs : s.Ok w) (hl : s.len ≤ 4611686018427387903) :
    Calls Try.prog 11 #[.pointer (some ⟨g, 0, none⟩), .int .u64 (p : Int), .slice s.a s.len s.cap, .bool last] w fun e w' => e = .returned (.int .i64 (Pc.putE S p s.len last : Int)) ∧ PcOk w' g m (Pc.put S p s.b last) ∧ KeepP (Two g m) w w' := by
  obtain ⟨c0, c1, c2, c3, c4⟩ := h.cells
  have hb := hs.hb
  by_cases hE : Pc.putE S p s.len last = 0
  · have e : Pc.put S p s.b last = Pc.putS S p s.b last := by unfold Pc.put; rw [hb, if_pos hE]
    rw [e, hE]
    exact put_ok S g m p s last w h hs hE
  · have e : Pc.put S p s.b last = S := by unfold Pc.put; rw [hb, if_neg hE]
    rw [e]
    have same : ∀ (e' : Int), e' = (Pc.putE S p s.len last : Int) → (Calls Try.prog 11 #[.pointer (some ⟨g, 0, none⟩), .int .u64 (p : Int), .slice s.a s.len s.cap, .bool last] w fun e w' => e = .returned (.int .i64 e') ∧ Below w.heap.size w w') →
        Calls Try.prog 11 #[.pointer (some ⟨g, 0, none⟩), .int .u64 (p : Int), .slice s.a s.len s.cap, .bool last] w fun e w' => e = .returned (.int .i64 (Pc.putE S p s.len last : Int)) ∧ PcOk w' g m S ∧ KeepP (Two g m) w w' := fun e' he hc => by
      refine hc.mono ?_
      rintro e w' ⟨rfl, hb'⟩
      exact ⟨by rw [he], h.below hb', KeepP.of_below hb'⟩
    have nob : ∀ (e' : Int) {w' : World} {e : Ending}, e = .returned (.int .i64 e') ∧ w' = w → e = .returned (.int .i64 e') ∧ Below w.heap.size w w' := by
      rintro e' w' e ⟨rfl, rfl⟩
      exact ⟨rfl, Below.refl _ _⟩
    unfold Pc.putE at hE same ⊢
    by_cases a1 : 4611686018427387903 < p
    · rw [if_pos (.inl a1)] at same ⊢
      exact same 1 rfl ((put_arg1 g m p s.a s.len s.cap last w c1 a1).mono (fun _ _ => nob 1))
    · by_cases a2 : 4611686018427387903 < p + s.len
      · rw [if_pos (.inr a2)] at same ⊢
        exact same 1 rfl ((put_arg2 g m p s.a s.len s.cap last w c1 (by omega) hl a2).mono (fun _ _ => nob 1))
      · rw [if_neg (by omega)] at same hE ⊢
        by_cases a3 : S.known = true ∧ S.come < p + s.len ∨ last = true ∧ p + s.len < S.come
        · rw [if_pos a3] at same ⊢
          exact same 8 rfl ((put_final g m p s.a s.len s.cap last w c1 S.come S.known c3 c4 (by omega) a3).mono (fun _ _ => nob 8))
        · rw [if_neg a3] at same hE ⊢
          by_cases a4 : S.read + S.room < p + s.len
          · rw [if_pos a4] at same ⊢
            exact same 6 rfl (put_full g m p s.a s.len s.cap last w c1 S.room S.read S.come S.known c0 c2 c3 c4 (by omega) (fun c => a3 (.inl c)) (fun c => a3 (.inr c)) (by have := h.fine.room; have := h.fine.rc; have := h.fine.come; omega) a4)
          · rw [if_neg a4] at hE
            exact absurd rfl hE
end Go.Proofs.Ytnlckmopgkabpaa
