/-
  KeysNonces: the walk.
-/
import Derived.Test.YtlicflmpakkccaaDoorGkKyLives
namespace Go.Proofs.YtlicflmpakkccaaDoor
open Go Go.RowKit

theorem cut4 (g : Nat) (b : List By) (w : World) (h : (rowN g 12 b).Ok w) : ∃ c : SL, (∀ W, (Instr.sliceAt 24 (.slice (some ⟨g, 0, none⟩) 12 12) none (some (.int .i64 4)) none).run Tryd.prog W = .ok (.slice c.a c.len c.cap) W) ∧
    (c.len = 4 ∧ c.b = b.take 4) ∧ (∀ W, (rowN g 12 b).Ok W → c.Ok W) := by
  obtain ⟨c, h1, h2, h3, _⟩ := cut_hi (rowN g 12 b) w h 4 (by show 4 ≤ 12; decide)
  exact ⟨c, h1, h2, h3⟩

theorem nonce_both (q : SL) (n : Nat) (w : World) (hq : q.Ok w) (hl : q.len = 12) :
    Calls Tryd.prog 4 #[.slice q.a q.len q.cap, .int .u64 (n : Int)] w fun e w' => ∃ v E, e = .returned (.tuple #[v, .int .i64 E]) ∧ Below w.heap.size w w' ∧ ((n ≤ 4611686018427387903 ∧ E = 0 ∧ ∃ g, v = .slice (some ⟨g, 0, none⟩) 12 12 ∧ Row w' g 22 (bs (nonceL q.b n))) ∨ (4611686018427387903 < n ∧ E = 1)) := by
  by_cases h : n ≤ 4611686018427387903
  · exact (nonce_any q n w hq hl h).mono fun e w' ⟨g, e1, _, r, b⟩ => ⟨_, _, e1, b, .inl ⟨h, rfl, g, rfl, r⟩⟩
  · exact (nonce_bad q n w (.inr (by omega))).mono fun e w' ⟨e1, e2⟩ => ⟨_, _, e1, by rw [e2]; exact Below.refl _ _, .inr ⟨by omega, rfl⟩⟩

set_option maxRecDepth 20000 in
set_option maxHeartbeats 2000000 in
theorem nonces_walk (iv : List By) (n m : Nat) (hi : iv.length = 12) (w : World) (hg : Glob w) :
    Calls Tryd.prog 3 #[.agg (bs iv), .int .u64 (n : Int), .int .u64 (m : Int)] w fun e w' => e = .returned (.bool true) ∧ Below w.heap.size w w' := by
  obtain ⟨W0, hW0⟩ : ∃ W, W = w.alloc (.cells (bs iv) 22) := ⟨_, rfl⟩
  have b0 : Below w.heap.size w W0 := by rw [hW0]; exact (Below.refl _ w).alloc (Nat.le_refl _) _
  have r0 : Row W0 w.heap.size 22 (bs iv) := by rw [hW0]; exact Row.new _ _ _
  have I0 := veil (rowN_ok (n := 12) r0 hi)
  have G0 := veil (hg.below b0 (Nat.le_refl _))
  have B0 := veil b0
  have hz : (bs iv).size = 12 := by rw [bs_size, hi]
  clear r0 b0 hg hi
  go_enter Tryd.func3, Tryd.ntmps3
  go_wp2_with fail
  rw [← hW0]
  clear hW0
  refine (nonce_both (rowN w.heap.size 12 iv) n W0 I0.out rfl).mono ?_
  rintro e1 w1 ⟨v1, E1, rfl, hb1, hc1⟩
  have I1 := veil (I0.out.below hb1)
  have B1 := veil (B0.out.trans (hb1.mono B0.out.size))
  have B01 := veil hb1
  have C1 := veil hc1
  clear hb1 hc1
  go_wp2_with fail
  refine (nonce_both (rowN w.heap.size 12 iv) m w1 I1.out rfl).mono ?_
  rintro e2 w2 ⟨v2, E2, rfl, hb2, hc2⟩
  have B2 := veil (B1.out.trans (hb2.mono B1.out.size))
  have B02 := veil (B01.out.trans (hb2.mono B01.out.size))
  have B12 := veil hb2
  have hc1 := C1.out
  clear hb2 C1 I1 B1 B01 B0
  rcases hc1 with ⟨hn, rfl, g1, rfl, r1⟩ | ⟨hn, rfl⟩
  · rcases hc2 with ⟨hm, rfl, g2, rfl, r2⟩ | ⟨hm, rfl⟩
    · have P1 := veil (rowN_ok (n := 12) (r1.below B12.out r1.lt) (nonceL_length _ _))
      have P2 := veil (rowN_ok (n := 12) r2 (nonceL_length _ _))
      have hgn : decide ((4611686018427387903 : Int) < (n : Int)) = false := decide_eq_false (by omega)
      have hgm : decide ((4611686018427387903 : Int) < (m : Int)) = false := decide_eq_false (by omega)
      have HEQ : Hid (decide (nonceL iv n = nonceL iv m) = ((n : Int) == (m : Int))) := show _ = _ by
        by_cases e : n = m
        · subst e; simp
        · rw [decide_eq_false (fun h => e (nonceL_inj iv n m (by omega) (by omega) h))]
          simp
          omega
      have HT : Hid ((nonceL iv n).take 4 = (nonceL iv m).take 4) := nonceL_head iv n m
      clear hn hm r1 r2 B12
      replace P1 : Hid ((rowN g1 12 (nonceL iv n)).Ok w2) := P1
      replace P2 : Hid ((rowN g2 12 (nonceL iv m)).Ok w2) := P2
      obtain ⟨X, hX⟩ : ∃ X, nonceL iv n = X := ⟨_, rfl⟩
      obtain ⟨Y, hY⟩ : ∃ Y, nonceL iv m = Y := ⟨_, rfl⟩
      rw [hX] at P1 HEQ HT
      rw [hY] at P2 HEQ HT
      clear hX hY
      obtain ⟨c1, hc1, ⟨hl1, hb1⟩, ok1⟩ := cut4 g1 X w2 P1.out
      obtain ⟨c2, hc2, ⟨hl2, hb2⟩, ok2⟩ := cut4 g2 Y w2 P2.out
      have Q1 := veil (ok1 w2 P1.out)
      have Q2 := veil (ok2 w2 P2.out)
      have HL1 := veil hl1
      have HCB := veil (show c1.b = c2.b by rw [hb1, hb2]; exact HT.out)
      clear hl1 hb1 ok1 hl2 hb2 ok2 HT
      have hbe : ∀ x : Bool, (x == x) = true := fun x => by cases x <;> rfl
      obtain ⟨bb, hbb⟩ : ∃ b : Bool, ((n : Int) == (m : Int)) = b := ⟨_, rfl⟩
      rw [hbb] at HEQ
      go_wp2_with fail
      go_region_held3 (fun _ => True) (trivial) (first
        | (have hd9 := d2; clear hd9; refine step_callG (by kernel_rfl) 5 #[] (by kernel_rfl) ?_; refine (lives_any _ (G0.out.below (B02.out.trans (d2.out.mono B02.out.size)) (Nat.le_refl _))).mono ?_; rintro e9 w9 ⟨rfl, hb9⟩; have d3 := veil (d2.out.trans (hb9.mono d2.out.size)); clear hb9; refine ⟨_, rfl, ?_⟩)
        | (have hd9 := d1; clear hd9; refine step_callG (by kernel_rfl) 6 #[.slice c1.a c1.len c1.cap, .slice c2.a c2.len c2.cap] (by kernel_rfl) ?_; refine (same_yes12 c1 c2 _ (Q1.out.below d1.out) (Q2.out.below d1.out) (by have := HL1.out; omega) HCB.out).mono ?_; rintro e9 w9 ⟨rfl, hb9⟩; have d2 := veil (d1.out.trans (hb9.mono d1.out.size)); clear hb9; refine ⟨_, rfl, ?_⟩)
        | (refine step_callG (by kernel_rfl) 6 #[.slice (some ⟨g1, 0, none⟩) 12 12, .slice (some ⟨g2, 0, none⟩) 12 12] (by kernel_rfl) ?_; refine (same_bool (rowN g1 12 X) (rowN g2 12 Y) _ (P1.out.below ((Below.refl _ _).drew)) (P2.out.below ((Below.refl _ _).drew)) (show 12 ≤ 8388608 by decide) (show 12 ≤ 9223372036854775807 by decide)).mono ?_; rintro e9 w9 ⟨rfl, hb9⟩; have d1 := veil (((Below.refl _ w2).drew).trans hb9); clear hb9; rw [show decide ((rowN g1 12 X).b = (rowN g2 12 Y).b) = bb from HEQ.out]; refine ⟨_, rfl, ?_⟩))
      have B3 := veil (B2.out.trans (d3.out.mono B2.out.size))
      clear d1 d2 d3 hc1 hc2
      go_wp2_with fail
      go_ret
      exact ⟨rfl, B3.out⟩
    · clear r1
      have hgn : decide ((4611686018427387903 : Int) < (n : Int)) = false := decide_eq_false (by omega)
      have hgm : decide ((4611686018427387903 : Int) < (m : Int)) = true := decide_eq_true (by omega)
      clear hn hm
      go_wp2_with fail
      refine (lives_any w2 (G0.out.below B02.out (Nat.le_refl _))).mono ?_
      rintro e3 w3 ⟨rfl, hb3⟩
      have B3 := veil (B2.out.trans (hb3.mono B2.out.size))
      clear hb3
      go_wp2_with fail
      go_ret
      exact ⟨rfl, B3.out⟩
  · rcases hc2 with ⟨hm, rfl, g2, rfl, r2⟩ | ⟨hm, rfl⟩
    · clear r2
      have hgn : decide ((4611686018427387903 : Int) < (n : Int)) = true := decide_eq_true (by omega)
      have hgm : decide ((4611686018427387903 : Int) < (m : Int)) = false := decide_eq_false (by omega)
      clear hn hm
      go_wp2_with fail
      refine (lives_any w2 (G0.out.below B02.out (Nat.le_refl _))).mono ?_
      rintro e3 w3 ⟨rfl, hb3⟩
      have B3 := veil (B2.out.trans (hb3.mono B2.out.size))
      clear hb3
      go_wp2_with fail
      go_ret
      exact ⟨rfl, B3.out⟩
    · skip
      have hgn : decide ((4611686018427387903 : Int) < (n : Int)) = true := decide_eq_true (by omega)
      have hgm : decide ((4611686018427387903 : Int) < (m : Int)) = true := decide_eq_true (by omega)
      clear hn hm
      go_wp2_with fail
      refine (lives_any w2 (G0.out.below B02.out (Nat.le_refl _))).mono ?_
      rintro e3 w3 ⟨rfl, hb3⟩
      have B3 := veil (B2.out.trans (hb3.mono B2.out.size))
      clear hb3
      go_wp2_with fail
      go_ret
      exact ⟨rfl, B3.out⟩
end Go.Proofs.YtlicflmpakkccaaDoor
