/-
  What the law's back answers, and that it undoes a turn.
-/
import Derived.Test.YtlhbeaoffmohlaaShaRef
import Derived.Test.YtlhbeaoffmohlaaShaFurther
namespace Go.Proofs.Ytlhbeaoffmohlaa
open Go Go.RowKit

/-- A turn, undone. -/
def backL (s : List Wd) (x : Wd) : List Wd :=
  [gw s 1, gw s 2, gw s 3, sb (gw s 4) (sb (gw s 0) (T2 (gw s 1) (gw s 2) (gw s 3))), gw s 5, gw s 6, gw s 7,
    sb (sb (sb (sb (gw s 0) (T2 (gw s 1) (gw s 2) (gw s 3))) (S1 (gw s 5))) (ch (gw s 5) (gw s 6) (gw s 7))) x]
theorem sb_ad (a b : Wd) : sb (ad a b) b = a := by unfold sb ad; exact BitVec.add_sub_cancel a b
theorem back_turn (s : List Wd) (kw : Wd) (hs : s.length = 8) : backL (turnL s kw) kw = s := by
  obtain ⟨a, b, c, d, e, f, g, h, rfl⟩ := eight hs
  simp only [backL, turnL, gw, List.getElem?_cons_zero, List.getElem?_cons_succ, Option.getD_some]
  rw [sb_ad, sb_ad]
  unfold T1
  have e1 : ad (ad h (S1 e)) (ch e f g) = ad (ad h (ch e f g)) (S1 e) := by rw [ad_assoc, ad_comm (S1 e), ← ad_assoc]
  have e2 : sb (sb (ad (ad (ad h (S1 e)) (ch e f g)) kw) (S1 e)) (ch e f g) = ad h kw := by
    rw [e1, ad_assoc _ (S1 e) kw, ad_comm (S1 e) kw, ← ad_assoc, sb_ad, ad_assoc, ad_comm (ch e f g) kw, ← ad_assoc, sb_ad]
  rw [e2, sb_ad]

def z8 : List Wd := List.replicate 8 0
set_option maxRecDepth 20000 in
set_option maxHeartbeats 400000 in
theorem back_eight (a b c d e f g h kw : Wd) (w : World) :
    Calls Try.prog 17 #[.agg #[.int .u32 (u a), .int .u32 (u b), .int .u32 (u c), .int .u32 (u d), .int .u32 (u e), .int .u32 (u f), .int .u32 (u g), .int .u32 (u h)], .int .u32 (u kw)] w fun r w' => r = .returned (.agg (ws (backL [a, b, c, d, e, f, g, h] kw))) ∧ Below w.heap.size w w' := by
  go_enter Try.func17, Try.ntmps17
  go_wp2
  go_quiet (fail)
  obtain ⟨wq, hwq⟩ : ∃ wq, wq = ((w.alloc (.cells #[.int .u32 (u a), .int .u32 (u b), .int .u32 (u c), .int .u32 (u d), .int .u32 (u e), .int .u32 (u f), .int .u32 (u g), .int .u32 (u h)] 31)).alloc (.cells #[.int .u32 0, .int .u32 0, .int .u32 0, .int .u32 0, .int .u32 0, .int .u32 0, .int .u32 0, .int .u32 0] 31)).drewN nq := ⟨_, rfl⟩
  rw [← hwq]
  have R0 : Row wq w.heap.size 31 (ws [a, b, c, d, e, f, g, h]) := by rw [hwq]; exact (Row.new w 31 (ws [a, b, c, d, e, f, g, h])).alloc _
  have R4 : Row wq (w.heap.size + 1) 31 (ws z8) := by rw [hwq]; exact Row.new1 w _ 31 (ws z8)
  have RB : Below w.heap.size w wq := by rw [hwq]; exact below_drewN (((Below.refl _ w).alloc (Nat.le_refl _) _).alloc (by simp) _) nq
  clear hwq
  have c0 : wq.cell? ⟨w.heap.size, 0, none⟩ = some (.int .u32 (u a)) := R0.cellW (j := 0) (by simp)
  have c4 : wq.cell? ⟨w.heap.size, 4, none⟩ = some (.int .u32 (u e)) := R0.cellW (j := 4) (by simp)
  have c5 : wq.cell? ⟨w.heap.size, 5, none⟩ = some (.int .u32 (u f)) := R0.cellW (j := 5) (by simp)
  have c6 : wq.cell? ⟨w.heap.size, 6, none⟩ = some (.int .u32 (u g)) := R0.cellW (j := 6) (by simp)
  have c7 : wq.cell? ⟨w.heap.size, 7, none⟩ = some (.int .u32 (u h)) := R0.cellW (j := 7) (by simp)
  go_wp2
  go_quiet (fail)
  have hx1 := bx (rr b 2) (rr b 13)
  have hx2 : bits .xor .u32 (u (xr (rr b 2) (rr b 13))) (u (rr b 22)) = u (S0 b) := bx _ _
  have hb5 := ba b c
  have hb6 := ba b d
  have hb7 := bx (an b c) (an b d)
  have hb8 := ba c d
  have hb9 : bits .xor .u32 (u (xr (an b c) (an b d))) (u (an c d)) = u (maj b c d) := bx _ _
  have hp5 : (u (S0 b) + u (maj b c d)) % 4294967296 = u (T2 b c d) := wadd _ _
  have hp6 := wsub a (T2 b c d)
  have hx3 := bx (rr f 6) (rr f 11)
  have hx4 : bits .xor .u32 (u (xr (rr f 6) (rr f 11))) (u (rr f 25)) = u (S1 f) := bx _ _
  have hb1 := ba f g
  have hb2 := bnot f
  have hb3 := ba (nt f) h
  have hb4 : bits .xor .u32 (u (an f g)) (u (an (nt f) h)) = u (ch f g h) := bx _ _
  have hq1 := wsub (sb a (T2 b c d)) (S1 f)
  have hq2 := wsub (sb (sb a (T2 b c d)) (S1 f)) (ch f g h)
  have hq3 := wsub (sb (sb (sb a (T2 b c d)) (S1 f)) (ch f g h)) kw
  have hq4 := wsub e (sb a (T2 b c d))
  go_wp2_with fail
  refine (lawTurn_any b 2 _ (by omega) (by omega)).mono ?_
  rintro e1 w1 ⟨rfl, m, hw⟩
  rw [hw]; clear hw
  go_wp2_with fail
  refine (lawTurn_any b 13 _ (by omega) (by omega)).mono ?_
  rintro e1 w1 ⟨rfl, m, hw⟩
  rw [hw]; clear hw
  go_wp2_with fail
  refine (lawTurn_any b 22 _ (by omega) (by omega)).mono ?_
  rintro e1 w1 ⟨rfl, m, hw⟩
  rw [hw]; clear hw
  go_wp2_with fail
  refine (lawTurn_any f 6 _ (by omega) (by omega)).mono ?_
  rintro e1 w1 ⟨rfl, m, hw⟩
  rw [hw]; clear hw
  go_wp2_with fail
  refine (lawTurn_any f 11 _ (by omega) (by omega)).mono ?_
  rintro e1 w1 ⟨rfl, m, hw⟩
  rw [hw]; clear hw
  go_wp2_with fail
  refine (lawTurn_any f 25 _ (by omega) (by omega)).mono ?_
  rintro e1 w1 ⟨rfl, m, hw⟩
  rw [hw]; clear hw
  go_wp2_with (with_reducible (show wpList _ _ _ (⟨_, Op.store 31 _ _, _, _, _, _⟩ :: _) _ _)
               refine store_row rfl 31 _ _ rfl (w.heap.size + 1) (ws (backL [a, b, c, d, e, f, g, h] kw)) rfl rfl _ _ R4 8 (by kernel_rfl) (by rfl) (by rfl) (ws_one _) ?_)
  exact bodyPost_ret (result_row rfl _ _ (w.heap.size + 1) _ _ (Row.put (w := wq) R4 (ws (backL [a, b, c, d, e, f, g, h] kw))) 8 30 rfl Try.underlying31 (by kernel_rfl) (by rfl)) rfl ⟨rfl, bSetRow (below_drewN RB _) (by omega) _⟩

/-- back, its answer written out. -/
theorem back_exp (a b c d e f g h kw : Wd) (w : World) :
    Calls Try.prog 17 #[.agg #[.int .u32 (u a), .int .u32 (u b), .int .u32 (u c), .int .u32 (u d), .int .u32 (u e), .int .u32 (u f), .int .u32 (u g), .int .u32 (u h)], .int .u32 (u kw)] w fun r w' =>
      r = .returned (.agg #[.int .u32 (u b), .int .u32 (u c), .int .u32 (u d), .int .u32 (u (sb e (sb a (T2 b c d)))), .int .u32 (u f), .int .u32 (u g), .int .u32 (u h), .int .u32 (u (sb (sb (sb (sb a (T2 b c d)) (S1 f)) (ch f g h)) kw))]) ∧ Below w.heap.size w w' :=
  back_eight a b c d e f g h kw w
end Go.Proofs.Ytlhbeaoffmohlaa
