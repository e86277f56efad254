/-
  Out of PlTag, AePlain, PlLawB.
-/
import Derived.Test.YtbheoldakmcppaaGreatDoorGs5
import Derived.Test.YtbheoldakmcppaaGreatDoorGs7
import Derived.Test.YtbheoldakmcppaaGreatDoorGs2
import Derived.Deep.QuietTactic
import Derived.BigQuiet

/-! What poly.Tag answers. -/
namespace Go.Proofs.YtbheoldakmcppaaGreatDoor
open Go Go.RowKit Go.Shelf
attribute [local go_sem] Oper.semAt_some

/-- What is left, when all parts have been told. -/
def accW (r : Nat) (xs : List Wn) : Nat := xs.foldl (fun a x => (a + V5 x.1) * r % PP) 0
theorem accW_snoc (r : Nat) (xs : List Wn) (x : Wn) : accW r (xs ++ [x]) = (accW r xs + V5 x.1) * r % PP := by simp [accW]
/-- A key's s. -/
def sN (key : List By) : Nat := leN ((key.drop 16).take 16)
theorem sN_lt (key : List By) (hk : key.length = 32) : sN key < 1361129467683753853853498429727072845824 := by
  unfold sN leN
  have h := leK_lt ((key.drop 16).take 16) ((key.drop 16).take 16).length
  rw [show ((key.drop 16).take 16).length = 16 by rw [List.length_take, List.length_drop, hk]; rfl] at h ⊢
  exact Nat.lt_trans h (by decide)
theorem sN_lt128 (key : List By) (hk : key.length = 32) : sN key < 340282366920938463463374607431768211456 := by
  unfold sN leN
  have h := leK_lt ((key.drop 16).take 16) ((key.drop 16).take 16).length
  rw [show ((key.drop 16).take 16).length = 16 by rw [List.length_take, List.length_drop, hk]; rfl] at h ⊢
  exact Nat.lt_of_lt_of_le h (by decide)
theorem by16_mod {u v : Nat} (h : u % 340282366920938463463374607431768211456 = v % 340282366920938463463374607431768211456) : by16 u = by16 v := by
  have key : ∀ (x i : Nat), i < 16 → x / 256 ^ i % 256 = x % 340282366920938463463374607431768211456 / 256 ^ i % 256 := fun x i hi => by
    rcases (show i = 0 ∨ i = 1 ∨ i = 2 ∨ i = 3 ∨ i = 4 ∨ i = 5 ∨ i = 6 ∨ i = 7 ∨ i = 8 ∨ i = 9 ∨ i = 10 ∨ i = 11 ∨ i = 12 ∨ i = 13 ∨ i = 14 ∨ i = 15 by omega) with rfl | rfl | rfl | rfl | rfl | rfl | rfl | rfl | rfl | rfl | rfl | rfl | rfl | rfl | rfl | rfl <;> simp only [Nat.reducePow] <;> omega
  refine by16_of (by16_length u) (fun i hi => ?_)
  have e : gb (by16 u) i = byteAt u i := by simp [by16, gb, hi]
  rw [e]
  unfold byteAt
  apply BitVec.eq_of_toNat_eq
  rw [BitVec.toNat_ofNat, BitVec.toNat_ofNat]
  show u / 256 ^ i % 256 = v / 256 ^ i % 256
  rw [key u i hi, key v i hi, h]
/-- The tag, as a number: a and s. -/
def tagN (key b : List By) : Nat := (accW (rN key) (partsTo b (np b.length)) + sN key) % 340282366920938463463374607431768211456
def tagL (key b : List By) : List By := by16 (tagN key b)

def z16 : List By := List.replicate 16 0
def z5 : List Nat := List.replicate 5 0
theorem gn_z5 (i : Nat) : gn z5 i = 0 := by
  unfold gn z5
  rw [List.getElem?_replicate]
  split <;> rfl
/-- The slots while r and s are found. -/
def tm3 (key : List By) (q : SL) (B : Nat) (x6 x7 x14 x15 x16 x17 : Value) : Act := { tmps := #[.agg (bs key), .slice q.a q.len q.cap, .pointer (some ⟨B, 0, none⟩), undef, .pointer (some ⟨B + 1, 0, none⟩), .int .i64 0, x6, x7, undef, undef, .slice q.a q.len q.cap, .int .i64 (q.len : Int), .bool false, undef, x14, x15, x16, x17, undef, undef, undef, undef, undef, undef, undef, undef, undef, undef, undef, undef, undef, undef], defers := [] }
/-- What holds there. -/
structure I3 (key : List By) (B : Nat) (w0 : World) (x6 x7 x14 x15 x16 x17 : Value) (l : Array Bool) (W : World) : Prop where
  bel : Below w0.heap.size w0 W
  f0 : On l 0 → x14 = .agg (bs key)
  f1 : On l 1 → x15 = .agg (ns (w26 (rN key)))
  f2 : On l 2 → x16 = .slice (some ⟨B, 16, none⟩) 16 16
  f3 : On l 3 → x17 = .agg (ns (w26 (sN key)))
  f4 : On l 4 → ∃ g cs, x6 = .pointer (some ⟨g, 0, none⟩) ∧ w0.heap.size ≤ g ∧ Row W g 215 (ns cs) ∧ cs.length = 5 ∧ (On l 6 → cs = w26 (rN key))
  f5 : On l 5 → ∃ g cs, x7 = .pointer (some ⟨g, 0, none⟩) ∧ w0.heap.size ≤ g ∧ Row W g 215 (ns cs) ∧ cs.length = 5 ∧ (On l 7 → cs = w26 (sN key))
  f45 : On l 4 → On l 5 → x6 ≠ x7
  f6 : On l 6 → On l 4 ∧ On l 5
  f7 : On l 7 → On l 5
theorem I3.call {key : List By} {B : Nat} {w0 : World} {x6 x7 x14 x15 x16 x17 : Value} {l : Array Bool} {W W' : World} (h : I3 key B w0 x6 x7 x14 x15 x16 x17 l W) (hb : Below W.heap.size W W') : I3 key B w0 x6 x7 x14 x15 x16 x17 l W' where
  bel := h.bel.trans (hb.mono h.bel.size)
  f0 := h.f0
  f1 := h.f1
  f2 := h.f2
  f3 := h.f3
  f4 := fun e => by
    obtain ⟨g, cs, h1, h2, h3, h4⟩ := h.f4 e
    exact ⟨g, cs, h1, h2, h3.below hb h3.lt, h4⟩
  f5 := fun e => by
    obtain ⟨g, cs, h1, h2, h3, h4⟩ := h.f5 e
    exact ⟨g, cs, h1, h2, h3.below hb h3.lt, h4⟩
  f45 := h.f45
  f6 := h.f6
  f7 := h.f7
def dep3 : Nat → List Nat
  | 1 => [0]
  | 3 => [2]
  | 6 => [1, 4, 5]
  | 7 => [3, 5, 4]
  | _ => []

/-- The slots in a round. -/
def tm7 (key : List By) (q : SL) (B g6 g7 gA bk : Nat) (X : List Nat) (x21 x22 x23 x24 x25 : Value) : Act := { tmps := #[.agg (bs key), .slice q.a q.len q.cap, .pointer (some ⟨B, 0, none⟩), undef, .pointer (some ⟨B + 1, 0, none⟩), .int .i64 0, .pointer (some ⟨g6, 0, none⟩), .pointer (some ⟨g7, 0, none⟩), .pointer (some ⟨gA, 0, none⟩), .pointer (some ⟨bk, 0, none⟩), .slice q.a q.len q.cap, .int .i64 (q.len : Int), .bool false, undef, .agg (bs key), .agg (ns (w26 (rN key))), .slice (some ⟨B, 16, none⟩) 16 16, .agg (ns (w26 (sN key))), .slice q.a q.len q.cap, .func (.func 175) #[] #[.pointer (some ⟨gA + 1, 0, none⟩)], .agg (ns X), x21, x22, x23, x24, x25, undef, undef, undef, undef, undef, undef], defers := [] }
/-- What holds in a round. -/
structure I7 (A X R : List Nat) (r st : Nat) (V0 : World) (x21 x22 x23 x24 x25 : Value) (l : Array Bool) (V : World) : Prop where
  f0 : On l 0 → x21 = .agg (ns A)
  f1 : On l 1 → x22 = .agg (ns X)
  f2 : On l 2 → ∃ ys, x23 = .agg (ns ys) ∧ Sm ys ∧ Cy (V5 A + V5 X) ys
  f3 : On l 3 → x24 = .agg (ns R)
  f4 : On l 4 → ∃ zs, x25 = .agg (ns zs) ∧ Sm zs ∧ V5 zs % PP = (V5 A + V5 X) * r % PP
  f5 : ¬ On l 5 → Below V0.heap.size V0 V
  f6 : On l 5 → ∃ zs V1, Below V0.heap.size V0 V1 ∧ V = V1.setRow st (ns zs) ∧ Sm zs ∧ V5 zs % PP = (V5 A + V5 X) * r % PP
  f7 : On l 5 → ∀ i, i < 5 → On l i
theorem not_set {l : Array Bool} {i : Nat} (h : ¬ On l 5) (hi : i ≠ 5) : ¬ On (l.setIfInBounds i true) 5 := fun e => h (e.of_set hi)
def dep7 : Nat → List Nat
  | 2 => [0, 1]
  | 4 => [2, 3]
  | 5 => [0, 1, 2, 3, 4]
  | _ => []
theorem mod_step (a x y r z : Nat) (h : z % PP = y * r % PP) (hy : y % PP = (a + x) % PP) : z % PP = (a + x) * r % PP := by
  rw [h, Nat.mul_mod, hy, ← Nat.mul_mod]
theorem acc_step (a x r acc : Nat) (h : a % PP = acc) : (a + x) * r % PP = (acc + x) * r % PP := by
  rw [← h, Nat.mul_mod, Nat.mul_mod ((a % PP) + x), Nat.mod_add_mod]
theorem rN_lt (key : List By) : rN key < 1361129467683753853853498429727072845824 := by
  unfold rN
  exact Nat.lt_trans (leK_lt _ _) (by decide)

/-- The slots at the end. -/
def tm8 (key : List By) (q : SL) (B g6 g7 gA D : Nat) (x26 x27 x28 x29 x30 x31 : Value) : Act := { tmps := #[.agg (bs key), .slice q.a q.len q.cap, .pointer (some ⟨B, 0, none⟩), undef, .pointer (some ⟨B + 1, 0, none⟩), .int .i64 0, .pointer (some ⟨g6, 0, none⟩), .pointer (some ⟨g7, 0, none⟩), .pointer (some ⟨gA, 0, none⟩), undef, .slice q.a q.len q.cap, .int .i64 (q.len : Int), .bool false, undef, .agg (bs key), .agg (ns (w26 (rN key))), .slice (some ⟨B, 16, none⟩) 16 16, .agg (ns (w26 (sN key))), .slice q.a q.len q.cap, .func (.func 175) #[] #[.pointer (some ⟨gA + 1, 0, none⟩)], undef, undef, undef, undef, undef, undef, x26, x27, x28, x29, x30, x31], defers := [{ target := .collected D, args := #[] }] }
/-- What holds at the end. -/
structure I8 (A S : List Nat) (sn : Nat) (T : List By) (B : Nat) (V : World) (x26 x27 x28 x29 x30 x31 : Value) (l : Array Bool) (U : World) : Prop where
  f0 : On l 0 → x26 = .agg (ns A)
  f1 : On l 1 → ∃ a1, x27 = .agg (ns a1) ∧ Sm a1 ∧ V5 a1 = V5 A % PP
  f2 : On l 2 → ∃ a2, x28 = .agg (ns a2) ∧ Sm a2 ∧ V5 a2 = V5 A % PP % 340282366920938463463374607431768211456
  f3 : On l 3 → x29 = .agg (ns S)
  f4 : On l 4 → ∃ a3, x30 = .agg (ns a3) ∧ Sm a3 ∧ V5 a3 = V5 A % PP % 340282366920938463463374607431768211456 + sn
  f5 : On l 5 → x31 = .agg (bs T)
  f6 : ¬ On l 6 → Below V.heap.size V U
  f7 : On l 6 → ∃ U1, Below V.heap.size V U1 ∧ U = U1.setRow (B + 1) (bs T)
  f8 : On l 6 → ∀ i, i < 6 → On l i
theorem not_set6 {l : Array Bool} {i : Nat} (h : ¬ On l 6) (hi : i ≠ 6) : ¬ On (l.setIfInBounds i true) 6 := fun e => h (e.of_set hi)
def dep8 : Nat → List Nat
  | 1 => [0]
  | 2 => [1]
  | 4 => [2, 3]
  | 5 => [4]
  | 6 => [0, 1, 2, 3, 4, 5]
  | 7 => [6]
  | _ => []

set_option maxRecDepth 100000 in
set_option maxHeartbeats 1000000 in
theorem tag_any (key : List By) (hk : key.length = 32) (q : SL) (w : World) (hq : q.Ok w) (hl : q.len ≤ 4194304) :
    Calls Tryz.prog 121 #[.agg (bs key), .slice q.a q.len q.cap] w fun e w' => e = .returned (.tuple #[.agg (bs (tagL key q.b)), .int .i64 0]) ∧ Below w.heap.size w w' := by
  have HK := veil hk
  have HQ := veil hq
  have hgt : ¬ ((4194304 : Int) < (q.len : Int)) := by omega
  refine (callsIn_wide (n := 4)).1 ?_
  refine callsIn_of_wp_marks Tryz.func121 rfl trivial ?_ rfl
  simp only [Tryz.ntmps121, List.size_toArray, List.length_cons, List.length_nil, Nat.reduceAdd, Nat.reduceSub, Array.replicate_succ, Array.replicate_zero, List.push_toArray, List.append_toArray, List.nil_append, List.cons_append]
  clear hk hq
  gi_wp2_with (with_reducible (show wpListIn _ _ _ _ _ (⟨_, Op.alloc 83, _, _, _, _⟩ :: _) _ _)
               refine alloc_rowIn rfl 83 rfl (bs z16) (by kernel_rfl) ?_)
  obtain ⟨w0, hw0⟩ : ∃ w0, w0 = (w.alloc (.cells (bs key) 78)).alloc (.cells (bs z16) 83) := ⟨_, rfl⟩
  rw [← hw0]
  have rk : Row w0 w.heap.size 78 (bs key) := by rw [hw0]; exact (Row.new _ _ _).alloc _
  have ro : Row w0 (w.heap.size + 1) 83 (bs z16) := by rw [hw0]; exact Row.new1 _ _ _ _
  have b0 : Below w.heap.size w w0 := by rw [hw0]; exact ((Below.refl _ w).alloc (Nat.le_refl _) _).alloc (by simp) _
  have hs0 : w0.heap.size = w.heap.size + 2 := by rw [hw0]; simp
  clear hw0
  refine wpIn_region_any (by kernel_rfl) ?_
  refine anyIn_inv (Inv := fun l a W => ∃ x6 x7 x14 x15 x16 x17, a = tm3 key q w.heap.size x6 x7 x14 x15 x16 x17 ∧ I3 key w.heap.size w0 x6 x7 x14 x15 x16 x17 l W) dep3 8 (by kernel_rfl) ?step ?done _ _ _ _ rfl (by decide) ⟨undef, undef, undef, undef, undef, undef, rfl, ⟨(Below.refl _ _).drew, fun h => absurd h (On.none _ _), fun h => absurd h (On.none _ _), fun h => absurd h (On.none _ _), fun h => absurd h (On.none _ _), fun h => absurd h (On.none _ _), fun h => absurd h (On.none _ _), fun h => absurd h (On.none _ _), fun h => absurd h (On.none _ _), fun h => absurd h (On.none _ _)⟩⟩
  case step =>
    rintro l a W i hlz ⟨x6, x7, x14, x15, x16, x17, rfl, h⟩ hi hno hdep
    match i, hi, hno, hdep with
    | 0, _, _, _ =>
      have rW := rk.below h.bel rk.lt
      refine OI_value rfl rfl (about_none (by intro c h; cases h)) (by intro c h; cases h) (.agg (bs key)) W (run_load_row 78 _ rfl w.heap.size rfl _ _ 32 5 Tryz.underlying78 (by kernel_rfl) (by rw [bs_size, HK.out]) W rW) ?_
      exact ⟨x6, x7, _, x15, x16, x17, rfl, ⟨h.bel, fun _ => rfl, fun e => h.f1 (e.of_set (by decide)), fun e => h.f2 (e.of_set (by decide)), fun e => h.f3 (e.of_set (by decide)), fun e => by
        obtain ⟨g, cs, h1, h2, h3, h4, h5⟩ := h.f4 (e.of_set (by decide))
        exact ⟨g, cs, h1, h2, h3, h4, fun e => h5 (e.of_set (by decide))⟩, fun e => by
        obtain ⟨g, cs, h1, h2, h3, h4, h5⟩ := h.f5 (e.of_set (by decide))
        exact ⟨g, cs, h1, h2, h3, h4, fun e => h5 (e.of_set (by decide))⟩, fun e e' => h.f45 (e.of_set (by decide)) (e'.of_set (by decide)), fun e => ⟨(h.f6 (e.of_set (by decide))).1.set, (h.f6 (e.of_set (by decide))).2.set⟩, fun e => (h.f7 (e.of_set (by decide))).set⟩⟩
    | 1, _, _, hdep =>
      have e0 := h.f0 (hdep 0 (by simp [dep3]))
      subst e0
      refine OI_call rfl rfl (by intro c h; cases h) 147 #[.agg (bs key)] (fun _ _ => trivial) (by kernel_rfl) (by decide) ?_
      refine (callsIn_wide.2 (cleared_any key HK.out W)).mono ?_
      rintro e w' ⟨ys, rfl, hsm, hv, hb⟩
      have hys : ys = w26 (rN key) := by rw [sm_eq hsm, hv]
      subst hys
      have h' := h.call hb
      exact ⟨_, rfl, x6, x7, _, _, x16, x17, rfl, ⟨h'.bel, fun e => rfl, fun e => rfl, fun e => h'.f2 (e.of_set (by decide)), fun e => h'.f3 (e.of_set (by decide)), fun e => by
        obtain ⟨g, cs, h1, h2, h3, h4, h5⟩ := h'.f4 (e.of_set (by decide))
        exact ⟨g, cs, h1, h2, h3, h4, fun e => h5 (e.of_set (by decide))⟩, fun e => by
        obtain ⟨g, cs, h1, h2, h3, h4, h5⟩ := h'.f5 (e.of_set (by decide))
        exact ⟨g, cs, h1, h2, h3, h4, fun e => h5 (e.of_set (by decide))⟩, fun e e' => h'.f45 (e.of_set (by decide)) (e'.of_set (by decide)), fun e => ⟨(h'.f6 (e.of_set (by decide))).1.set, (h'.f6 (e.of_set (by decide))).2.set⟩, fun e => (h'.f7 (e.of_set (by decide))).set⟩⟩
    | 2, _, _, _ =>
      refine OI_value rfl rfl (about_none (by intro c h; cases h)) (by intro c h; cases h) (.slice (some ⟨w.heap.size, 16, none⟩) 16 16) W (by unfold tm3; go_simp) ?_
      exact ⟨x6, x7, x14, x15, _, x17, rfl, ⟨h.bel, fun e => h.f0 (e.of_set (by decide)), fun e => h.f1 (e.of_set (by decide)), fun e => rfl, fun e => h.f3 (e.of_set (by decide)), fun e => by
        obtain ⟨g, cs, h1, h2, h3, h4, h5⟩ := h.f4 (e.of_set (by decide))
        exact ⟨g, cs, h1, h2, h3, h4, fun e => h5 (e.of_set (by decide))⟩, fun e => by
        obtain ⟨g, cs, h1, h2, h3, h4, h5⟩ := h.f5 (e.of_set (by decide))
        exact ⟨g, cs, h1, h2, h3, h4, fun e => h5 (e.of_set (by decide))⟩, fun e e' => h.f45 (e.of_set (by decide)) (e'.of_set (by decide)), fun e => ⟨(h.f6 (e.of_set (by decide))).1.set, (h.f6 (e.of_set (by decide))).2.set⟩, fun e => (h.f7 (e.of_set (by decide))).set⟩⟩
    | 3, _, _, hdep =>
      have e2 := h.f2 (hdep 2 (by simp [dep3]))
      subst e2
      have rW := rk.below h.bel rk.lt
      refine OI_call rfl rfl (by intro c h; cases h) 148 #[.slice (some ⟨w.heap.size, 16, none⟩) 16 16] (fun _ _ => trivial) (by kernel_rfl) (by decide) ?_
      refine (callsIn_wide.2 (numberOf_any _ W (slice_ok rW 16 16 16 (by rw [HK.out]; omega) (by omega)) (by show 16 ≤ 17; omega) (sN_lt key HK.out))).mono ?_
      rintro e w' ⟨ys, rfl, hsm, hv, hb⟩
      have hys : ys = w26 (sN key) := by rw [sm_eq hsm, hv]; rfl
      subst hys
      have h' := h.call hb
      exact ⟨_, rfl, x6, x7, x14, x15, _, _, rfl, ⟨h'.bel, fun e => h'.f0 (e.of_set (by decide)), fun e => h'.f1 (e.of_set (by decide)), fun e => rfl, fun e => rfl, fun e => by
        obtain ⟨g, cs, h1, h2, h3, h4, h5⟩ := h'.f4 (e.of_set (by decide))
        exact ⟨g, cs, h1, h2, h3, h4, fun e => h5 (e.of_set (by decide))⟩, fun e => by
        obtain ⟨g, cs, h1, h2, h3, h4, h5⟩ := h'.f5 (e.of_set (by decide))
        exact ⟨g, cs, h1, h2, h3, h4, fun e => h5 (e.of_set (by decide))⟩, fun e e' => h'.f45 (e.of_set (by decide)) (e'.of_set (by decide)), fun e => ⟨(h'.f6 (e.of_set (by decide))).1.set, (h'.f6 (e.of_set (by decide))).2.set⟩, fun e => (h'.f7 (e.of_set (by decide))).set⟩⟩
    | 4, _, hno, _ =>
      refine OI_value rfl rfl (about_none (by intro c h; cases h)) (by intro c h; cases h) (.pointer (some ⟨W.heap.size, 0, none⟩)) (W.alloc (.cells (ns z5) 215)) (exec_alloc_row 215 rfl (ns z5) (by kernel_rfl)) ?_
      exact ⟨_, x7, x14, x15, x16, x17, rfl, ⟨h.bel.alloc h.bel.size _, fun e => h.f0 (e.of_set (by decide)), fun e => h.f1 (e.of_set (by decide)), fun e => h.f2 (e.of_set (by decide)), fun e => h.f3 (e.of_set (by decide)), fun e => ⟨_, z5, rfl, h.bel.size, Row.new _ _ _, rfl, fun e => absurd (h.f6 (e.of_set (by decide))).1 hno⟩, fun e => by
        obtain ⟨g, cs, h1, h2, h3, h4, h5⟩ := h.f5 (e.of_set (by decide))
        exact ⟨g, cs, h1, h2, h3.alloc _, h4, fun e => h5 (e.of_set (by decide))⟩, fun e e' => by
        obtain ⟨g, cs, h1, h2, h3, h4, h5⟩ := h.f5 (e'.of_set (by decide))
        have := h3.lt
        rw [h1]
        intro he
        injection he with he
        injection he with he
        injection he with he
        omega, fun e => absurd (h.f6 (e.of_set (by decide))).1 hno, fun e => (h.f7 (e.of_set (by decide))).set⟩⟩
    | 5, _, hno, _ =>
      refine OI_value rfl rfl (about_none (by intro c h; cases h)) (by intro c h; cases h) (.pointer (some ⟨W.heap.size, 0, none⟩)) (W.alloc (.cells (ns z5) 215)) (exec_alloc_row 215 rfl (ns z5) (by kernel_rfl)) ?_
      exact ⟨x6, _, x14, x15, x16, x17, rfl, ⟨h.bel.alloc h.bel.size _, fun e => h.f0 (e.of_set (by decide)), fun e => h.f1 (e.of_set (by decide)), fun e => h.f2 (e.of_set (by decide)), fun e => h.f3 (e.of_set (by decide)), fun e => by
        obtain ⟨g, cs, h1, h2, h3, h4, h5⟩ := h.f4 (e.of_set (by decide))
        exact ⟨g, cs, h1, h2, h3.alloc _, h4, fun e => h5 (e.of_set (by decide))⟩, fun e => ⟨_, z5, rfl, h.bel.size, Row.new _ _ _, rfl, fun e => absurd (h.f7 (e.of_set (by decide))) hno⟩, fun e e' => by
        obtain ⟨g, cs, h1, h2, h3, h4, h5⟩ := h.f4 (e.of_set (by decide))
        have := h3.lt
        rw [h1]
        intro he
        injection he with he
        injection he with he
        injection he with he
        omega, fun e => absurd (h.f6 (e.of_set (by decide))).2 hno, fun e => absurd (h.f7 (e.of_set (by decide))) hno⟩⟩
    | 6, _, hno, hdep =>
      have o4 := hdep 4 (by simp [dep3])
      have o5 := hdep 5 (by simp [dep3])
      have e1 := h.f1 (hdep 1 (by simp [dep3]))
      obtain ⟨g, cs, h1, h2, h3, h4, h5⟩ := h.f4 o4
      obtain ⟨g', cs', h1', h2', h3', h4', h5'⟩ := h.f5 o5
      have hne : g ≠ g' := fun e => h.f45 o4 o5 (by rw [h1, h1', e])
      have f0 := h.f0
      have f2 := h.f2
      have f3 := h.f3
      have f7 := h.f7
      have hbel := h.bel
      subst e1 h1 h1'
      clear h
      refine OI_skip rfl rfl (about_none (by intro c h; cases h)) (by intro c h; cases h) (W.setRow g (ns (w26 (rN key)))) (run_store_row 215 _ _ rfl g (ns (w26 (rN key))) rfl rfl _ _ h3 5 (by kernel_rfl) (by rw [ns_size, h4]) rfl (ns_one _)) ?_
      exact ⟨_, _, x14, _, x16, x17, rfl, ⟨bSetRow hbel h2 _, fun e => f0 (e.of_set (by decide)), fun e => rfl, fun e => f2 (e.of_set (by decide)), fun e => f3 (e.of_set (by decide)), fun e => ⟨g, _, rfl, h2, h3.put _, rfl, fun _ => rfl⟩, fun e => ⟨g', cs', rfl, h2', h3'.putOther (Ne.symm hne) _, h4', fun e => h5' (e.of_set (by decide))⟩, fun e e' he => by
        injection he with he
        injection he with he
        injection he with he
        exact hne he, fun e => ⟨o4.set, o5.set⟩, fun e => o5.set⟩⟩
    | 7, _, hno, hdep =>
      have o4 := hdep 4 (by simp [dep3])
      have o5 := hdep 5 (by simp [dep3])
      have e3 := h.f3 (hdep 3 (by simp [dep3]))
      obtain ⟨g, cs, h1, h2, h3, h4, h5⟩ := h.f4 o4
      obtain ⟨g', cs', h1', h2', h3', h4', h5'⟩ := h.f5 o5
      have hne : g ≠ g' := fun e => h.f45 o4 o5 (by rw [h1, h1', e])
      have f0 := h.f0
      have f1 := h.f1
      have f2 := h.f2
      have hbel := h.bel
      subst e3 h1 h1'
      clear h
      refine OI_skip rfl rfl (about_none (by intro c h; cases h)) (by intro c h; cases h) (W.setRow g' (ns (w26 (sN key)))) (run_store_row 215 _ _ rfl g' (ns (w26 (sN key))) rfl rfl _ _ h3' 5 (by kernel_rfl) (by rw [ns_size, h4']) rfl (ns_one _)) ?_
      exact ⟨_, _, x14, x15, x16, _, rfl, ⟨bSetRow hbel h2' _, fun e => f0 (e.of_set (by decide)), fun e => f1 (e.of_set (by decide)), fun e => f2 (e.of_set (by decide)), fun e => rfl, fun e => ⟨g, cs, rfl, h2, h3.putOther hne _, h4, fun e => h5 (e.of_set (by decide))⟩, fun e => ⟨g', _, rfl, h2', h3'.put _, rfl, fun _ => rfl⟩, fun e e' he => by
        injection he with he
        injection he with he
        injection he with he
        exact hne he, fun e => ⟨o4.set, o5.set⟩, fun e => o5.set⟩⟩
  case done =>
    rintro l a W ⟨x6, x7, x14, x15, x16, x17, rfl, h⟩ hon
    have e14 := h.f0 (hon 0 (by omega))
    have e15 := h.f1 (hon 1 (by omega))
    have e16 := h.f2 (hon 2 (by omega))
    have e17 := h.f3 (hon 3 (by omega))
    obtain ⟨g6, cs6, e6, k6, r6, _, h6⟩ := h.f4 (hon 4 (by omega))
    obtain ⟨g7, cs7, e7, k7, r7, _, h7⟩ := h.f5 (hon 5 (by omega))
    have hne : g6 ≠ g7 := fun e => h.f45 (hon 4 (by omega)) (hon 5 (by omega)) (by rw [e6, e7, e])
    rw [h6 (hon 6 (by omega))] at r6
    rw [h7 (hon 7 (by omega))] at r7
    have hb1 := h.bel
    subst e14 e15 e16 e17 e6 e7
    clear h hon h6 h7
    have roW := ro.below hb1 ro.lt
    have bW := b0.trans (hb1.mono (by omega))
    have hsW := hb1.size
    have hqW : q.Ok W := HQ.out.below (bW.mono (Nat.le_refl _))
    have HQW := veil hqW
    clear ro rk b0 hb1 hqW
    unfold tm3
    gi_wp2_with (with_reducible (show wpListIn _ _ _ _ _ (⟨_, Op.alloc 215, _, _, _, _⟩ :: _) _ _)
                 refine alloc_rowIn rfl 215 rfl (ns z5) (by kernel_rfl) ?_)
    refine ⟨trivial, (parts_in _ _ _ _ _).mono ?_⟩
    rintro e3 w3 ⟨rfl, hw⟩
    rw [hw]
    clear hw
    gi_wp2
    obtain ⟨V0, hV0⟩ : ∃ V0, V0 = (W.alloc (.cells (ns z5) 215)).alloc (.cells #[.slice q.a q.len q.cap] 22) := ⟨_, rfl⟩
    rw [← hV0]
    have rA : Row V0 W.heap.size 215 (ns z5) := by rw [hV0]; exact (Row.new _ _ _).alloc _
    have rB : Row V0 (W.heap.size + 1) 22 #[.slice q.a q.len q.cap] := by rw [hV0]; exact Row.new1 _ _ _ _
    have q6 : Row V0 g6 215 (ns (w26 (rN key))) := by rw [hV0]; exact (r6.alloc _).alloc _
    have q7 : Row V0 g7 215 (ns (w26 (sN key))) := by rw [hV0]; exact (r7.alloc _).alloc _
    have qo : Row V0 (w.heap.size + 1) 83 (bs z16) := by rw [hV0]; exact (roW.alloc _).alloc _
    have bV : Below w.heap.size w V0 := by rw [hV0]; exact (bW.alloc bW.size _).alloc (by have := bW.size; simp; omega) _
    have hsV : V0.heap.size = W.heap.size + 2 := by rw [hV0]; simp
    have l6 := r6.lt
    have l7 := r7.lt
    have HQV : Hid (q.Ok V0) := show q.Ok V0 by rw [hV0]; exact (HQW.out.alloc _).alloc _
    clear hV0 r6 r7 roW bW
    refine rangeFunc_tells (F := Fence.wide) (n := 4) rfl (by decide) (gf := 175) (lb := #[.pointer (some ⟨W.heap.size + 1, 0, none⟩)]) rfl trivial (enters_of Tryz.func175 (by kernel_rfl) rfl) (encs := encW) (fun _ => rfl) W.heap.size (by omega) (partsTo q.b (np q.len))
      (parts_tells (4 - 1) (by decide) (W.heap.size + 1) W.heap.size q hl V0 rB HQV.out (by omega) (fun h => by have := HQW.out.lt h; omega))
      (fun pre V => (∃ A, Sm A ∧ V5 A % PP = accW (rN key) pre ∧ Row V W.heap.size 215 (ns A)) ∧ Row V g6 215 (ns (w26 (rN key))) ∧ Row V g7 215 (ns (w26 (sN key))) ∧ Row V (w.heap.size + 1) 83 (bs z16) ∧ Below w.heap.size w V)
      (fun s A B h hb => ⟨by
        obtain ⟨⟨Y, h1, h2, h3⟩, _⟩ := h
        exact ⟨Y, h1, h2, h3.below hb (by omega)⟩, h.2.1.below hb (by omega), h.2.2.1.below hb (by omega), h.2.2.2.1.below hb (by omega), h.2.2.2.2.trans (hb.mono (by omega))⟩)
      ⟨⟨z5, ⟨rfl, fun i => by rw [gn_z5]; decide⟩, by simp only [V5, gn_z5]; rfl, rA⟩, q6, q7, qo, bV⟩
      (fun x bk => { tmps := #[.agg (bs key), .slice q.a q.len q.cap, .pointer (some ⟨w.heap.size, 0, none⟩), undef, .pointer (some ⟨w.heap.size + 1, 0, none⟩), .int .i64 0, .pointer (some ⟨g6, 0, none⟩), .pointer (some ⟨g7, 0, none⟩), .pointer (some ⟨W.heap.size, 0, none⟩), .pointer (some ⟨bk, 0, none⟩), .slice q.a q.len q.cap, .int .i64 (q.len : Int), .bool false, undef, .agg (bs key), .agg (ns (w26 (rN key))), .slice (some ⟨w.heap.size, 16, none⟩) 16 16, .agg (ns (w26 (sN key))), .slice q.a q.len q.cap, .func (.func 175) #[] #[.pointer (some ⟨W.heap.size + 1, 0, none⟩)], .agg (ns x.1), undef, undef, undef, undef, undef, undef, undef, undef, undef, undef, undef], defers := [] })
      (fun x bk V => Row V bk 215 (ns x.1)) (fun x bk V V' h e => e.trans h) ?assign ?body ?done2
    case assign =>
      intro l x V K hK
      unfold encW
      have hx5 : (ns x.1).size = 5 := by rw [ns_size, x.2.len]
      go_simp
      gi_wp2_with (first
        | (with_reducible (show wpListIn _ _ _ _ _ (⟨_, Op.alloc 215, _, _, _, _⟩ :: _) _ _)
           refine alloc_rowIn rfl 215 rfl (ns z5) (by kernel_rfl) ?_)
        | (with_reducible (show wpListIn _ _ _ _ _ (⟨_, Op.store 215 _ _, _, _, _, _⟩ :: _) _ _)
           refine store_newIn (w := V) (by rfl) 215 _ _ (by rfl) V.heap.size (ns x.1) (by rfl) (by rfl) 215 (ns z5) (by rfl) 5 (by kernel_rfl) (by rfl) hx5 (ns_one _) ?_))
      exact hK _ ((Below.refl _ V).alloc (Nat.le_refl _) _) (by simp) (Row.new _ _ _)
    case body =>
      rintro l pre x bk V ⟨⟨A, hA, hacc, rowA⟩, row6, row7, rowo, hbel⟩ hx hbk hlt
      gi_wp2_with fail
      refine wpIn_region_any (by kernel_rfl) ?_
      refine anyIn_inv (Inv := fun l a U => ∃ x21 x22 x23 x24 x25, a = tm7 key q w.heap.size g6 g7 W.heap.size bk x.1 x21 x22 x23 x24 x25 ∧ I7 A x.1 (w26 (rN key)) (rN key) W.heap.size V x21 x22 x23 x24 x25 l U) dep7 6 (by kernel_rfl) ?step7 ?done7 _ _ _ _ rfl (by decide) ⟨undef, undef, undef, undef, undef, rfl, ⟨fun h => absurd h (On.none _ _), fun h => absurd h (On.none _ _), fun h => absurd h (On.none _ _), fun h => absurd h (On.none _ _), fun h => absurd h (On.none _ _), fun _ => (Below.refl _ _).drew, fun h => absurd h (On.none _ _), fun h => absurd h (On.none _ _)⟩⟩
      case step7 =>
        rintro l a U i hlz ⟨x21, x22, x23, x24, x25, rfl, h⟩ hi hno hdep
        have n5 : ∀ j, j < 5 → ¬ On l j → ¬ On l 5 := fun j hj hn e => hn (h.f7 e j hj)
        match i, hi, hno, hdep with
        | 0, _, hno, _ =>
          have m5 := n5 0 (by omega) hno
          have hb := h.f5 m5
          refine OI_value rfl rfl (about_none (by intro c h; cases h)) (by intro c h; cases h) (.agg (ns A)) U (run_load_row 215 _ rfl W.heap.size rfl _ _ 5 23 Tryz.underlying215 (by kernel_rfl) (by rw [ns_size, hA.len]) U (rowA.below hb rowA.lt)) ?_
          exact ⟨_, x22, x23, x24, x25, rfl, ⟨fun _ => rfl, fun e => h.f1 (e.of_set (by decide)), fun e => h.f2 (e.of_set (by decide)), fun e => h.f3 (e.of_set (by decide)), fun e => h.f4 (e.of_set (by decide)), fun _ => hb, fun e => absurd e (not_set m5 (by decide)), fun e => absurd e (not_set m5 (by decide))⟩⟩
        | 1, _, hno, _ =>
          have m5 := n5 1 (by omega) hno
          have hb := h.f5 m5
          refine OI_value rfl rfl (about_none (by intro c h; cases h)) (by intro c h; cases h) (.agg (ns x.1)) U (run_load_row 215 _ rfl bk rfl _ _ 5 23 Tryz.underlying215 (by kernel_rfl) (by rw [ns_size, x.2.len]) U (hx.below hb hx.lt)) ?_
          exact ⟨x21, _, x23, x24, x25, rfl, ⟨fun e => h.f0 (e.of_set (by decide)), fun _ => rfl, fun e => h.f2 (e.of_set (by decide)), fun e => h.f3 (e.of_set (by decide)), fun e => h.f4 (e.of_set (by decide)), fun _ => hb, fun e => absurd e (not_set m5 (by decide)), fun e => absurd e (not_set m5 (by decide))⟩⟩
        | 2, _, hno, hdep =>
          have m5 := n5 2 (by omega) hno
          have hb := h.f5 m5
          have e0 := h.f0 (hdep 0 (by simp [dep7]))
          have e1 := h.f1 (hdep 1 (by simp [dep7]))
          have f3 := h.f3
          have f4 := h.f4
          subst e0 e1
          refine OI_call rfl rfl (by intro c h; cases h) 151 #[.agg (ns A), .agg (ns x.1)] (fun _ _ => trivial) (by kernel_rfl) (by decide) ?_
          refine (CallsIn.inRound _ (callsIn_wide.2 (plSum_any A x.1 hA x.2 U))).mono ?_
          rintro e w' ⟨ys, rfl, hsm, hcy, hb'⟩
          exact ⟨_, rfl, _, _, _, x24, x25, rfl, ⟨fun _ => rfl, fun _ => rfl, fun _ => ⟨ys, rfl, hsm, hcy⟩, fun e => f3 (e.of_set (by decide)), fun e => f4 (e.of_set (by decide)), fun _ => hb.trans (hb'.mono hb.size), fun e => absurd e (not_set m5 (by decide)), fun e => absurd e (not_set m5 (by decide))⟩⟩
        | 3, _, hno, _ =>
          have m5 := n5 3 (by omega) hno
          have hb := h.f5 m5
          refine OI_value rfl rfl (about_none (by intro c h; cases h)) (by intro c h; cases h) (.agg (ns (w26 (rN key)))) U (run_load_row 215 _ rfl g6 rfl _ _ 5 23 Tryz.underlying215 (by kernel_rfl) rfl U (row6.below hb row6.lt)) ?_
          exact ⟨x21, x22, x23, _, x25, rfl, ⟨fun e => h.f0 (e.of_set (by decide)), fun e => h.f1 (e.of_set (by decide)), fun e => h.f2 (e.of_set (by decide)), fun _ => rfl, fun e => h.f4 (e.of_set (by decide)), fun _ => hb, fun e => absurd e (not_set m5 (by decide)), fun e => absurd e (not_set m5 (by decide))⟩⟩
        | 4, _, hno, hdep =>
          have m5 := n5 4 (by omega) hno
          have hb := h.f5 m5
          obtain ⟨ys, e2, hsm, hcy⟩ := h.f2 (hdep 2 (by simp [dep7]))
          have e3 := h.f3 (hdep 3 (by simp [dep7]))
          have f0 := h.f0
          have f1 := h.f1
          subst e2 e3
          refine OI_call rfl rfl (by intro c h; cases h) 150 #[.agg (ns ys), .agg (ns (w26 (rN key)))] (fun _ _ => trivial) (by kernel_rfl) (by decide) ?_
          refine (CallsIn.inRound _ (callsIn_wide.2 (product_any ys (w26 (rN key)) hsm (w26_sm _) U))).mono ?_
          rintro e w' ⟨zs, rfl, hsz, hv, hb'⟩
          rw [V5_w26 _ (rN_lt key)] at hv
          exact ⟨_, rfl, x21, x22, _, _, _, rfl, ⟨fun e => f0 (e.of_set (by decide)), fun e => f1 (e.of_set (by decide)), fun _ => ⟨ys, rfl, hsm, hcy⟩, fun _ => rfl, fun _ => ⟨zs, rfl, hsz, mod_step _ _ _ _ _ hv hcy.mod⟩, fun _ => hb.trans (hb'.mono hb.size), fun e => absurd e (not_set m5 (by decide)), fun e => absurd e (not_set m5 (by decide))⟩⟩
        | 5, _, hno, hdep =>
          have hb := h.f5 hno
          obtain ⟨zs, e4, hsz, hv⟩ := h.f4 (hdep 4 (by simp [dep7]))
          have f0 := h.f0
          have f1 := h.f1
          have f2 := h.f2
          have f3 := h.f3
          subst e4
          refine OI_skip rfl rfl (about_none (by intro c h; cases h)) (by intro c h; cases h) (U.setRow W.heap.size (ns zs)) (run_store_row 215 _ _ rfl W.heap.size (ns zs) rfl rfl _ _ (rowA.below hb rowA.lt) 5 (by kernel_rfl) (by rw [ns_size, hA.len]) (by rw [ns_size, hsz.len]) (ns_one _)) ?_
          refine ⟨x21, x22, x23, x24, _, rfl, ⟨fun e => f0 (e.of_set (by decide)), fun e => f1 (e.of_set (by decide)), fun e => f2 (e.of_set (by decide)), fun e => f3 (e.of_set (by decide)), fun _ => ⟨zs, rfl, hsz, hv⟩, fun hn => ?_, fun _ => ⟨zs, U, hb, rfl, hsz, hv⟩, fun _ i hi => (hdep i ?_).set⟩⟩
          · exact absurd (On.self (by rw [hlz]; omega)) hn
          · match i, hi with
            | 0, _ => simp [dep7]
            | 1, _ => simp [dep7]
            | 2, _ => simp [dep7]
            | 3, _ => simp [dep7]
            | 4, _ => simp [dep7]
      case done7 =>
        rintro l a U ⟨x21, x22, x23, x24, x25, rfl, h⟩ hon
        obtain ⟨zs, V1, hb, rfl, hsz, hv⟩ := h.f6 (hon 5 (by omega))
        refine ⟨rfl, (Keep1.of_below hb).trans (Keep1.setRow _ _ _), ⟨zs, hsz, ?_, (rowA.below hb rowA.lt).put _⟩, (row6.below hb row6.lt).putOther (by omega) _, (row7.below hb row7.lt).putOther (by omega) _, (rowo.below hb rowo.lt).putOther (by omega) _, bSetRow (hbel.trans (hb.mono hbel.size)) (by omega) _⟩
        rw [accW_snoc, hv]
        exact acc_step _ _ _ _ hacc
    case done2 =>
      rintro D V hD ⟨⟨A, hA, hacc, rowA⟩, row6, row7, rowo, hbel⟩ hDd
      have HT : Hid (∀ v, v % 340282366920938463463374607431768211456 = accW (rN key) (partsTo q.b (np q.len)) % 340282366920938463463374607431768211456 → by16 (v + sN key) = tagL key q.b) := show ∀ v, _ → _ from fun v hv => by
        unfold tagL tagN
        rw [show q.b.length = q.len from HQ.out.hb]
        exact by16_mod (by rw [Nat.mod_mod, Nat.add_mod, hv, ← Nat.add_mod])
      have HA := veil hA
      have HACC := veil hacc
      clear row6 hA hacc
      gi_wp2_with fail
      refine wpIn_region_any (by kernel_rfl) ?_
      refine anyIn_inv (Inv := fun l a U => ∃ x26 x27 x28 x29 x30 x31, a = tm8 key q w.heap.size g6 g7 W.heap.size D x26 x27 x28 x29 x30 x31 ∧ I8 A (w26 (sN key)) (sN key) (tagL key q.b) w.heap.size V x26 x27 x28 x29 x30 x31 l U) dep8 8 (by kernel_rfl) ?step8 ?done8 _ _ _ _ rfl (by decide) ⟨undef, undef, undef, undef, undef, undef, rfl, ⟨fun h => absurd h (On.none _ _), fun h => absurd h (On.none _ _), fun h => absurd h (On.none _ _), fun h => absurd h (On.none _ _), fun h => absurd h (On.none _ _), fun h => absurd h (On.none _ _), fun _ => (Below.refl _ _).drew, fun h => absurd h (On.none _ _), fun h => absurd h (On.none _ _)⟩⟩
      case step8 =>
        rintro l a U i hlz ⟨x26, x27, x28, x29, x30, x31, rfl, h⟩ hi hno hdep
        have n6 : ∀ j, j < 6 → ¬ On l j → ¬ On l 6 := fun j hj hn e => hn (h.f8 e j hj)
        have f0 := h.f0
        have f1 := h.f1
        have f2 := h.f2
        have f3 := h.f3
        have f4 := h.f4
        have f5 := h.f5
        have f6 := h.f6
        have f7 := h.f7
        have f8 := h.f8
        clear h
        match i, hi, hno, hdep with
        | 0, _, hno, _ =>
          have m6 := n6 0 (by omega) hno
          have hb := f6 m6
          refine OI_value rfl rfl (about_none (by intro c h; cases h)) (by intro c h; cases h) (.agg (ns A)) U (run_load_row 215 _ rfl W.heap.size rfl _ _ 5 23 Tryz.underlying215 (by kernel_rfl) (by rw [ns_size, HA.out.len]) U (rowA.below hb rowA.lt)) ?_
          exact ⟨_, x27, x28, x29, x30, x31, rfl, ⟨fun _ => rfl, fun e => f1 (e.of_set (by decide)), fun e => f2 (e.of_set (by decide)), fun e => f3 (e.of_set (by decide)), fun e => f4 (e.of_set (by decide)), fun e => f5 (e.of_set (by decide)), fun _ => hb, fun e => absurd e (not_set6 m6 (by decide)), fun e => absurd e (not_set6 m6 (by decide))⟩⟩
        | 1, _, hno, hdep =>
          have m6 := n6 1 (by omega) hno
          have hb := f6 m6
          have e0 := f0 (hdep 0 (by simp [dep8]))
          subst e0
          refine OI_call rfl rfl (by intro c h; cases h) 154 #[.agg (ns A)] (fun _ _ => trivial) (by kernel_rfl) (by decide) ?_
          refine (callsIn_wide.2 (least_any A HA.out U)).mono ?_
          rintro e w' ⟨a1, rfl, s1, v1, hb'⟩
          exact ⟨_, rfl, _, _, x28, x29, x30, x31, rfl, ⟨fun _ => rfl, fun _ => ⟨a1, rfl, s1, v1⟩, fun e => f2 (e.of_set (by decide)), fun e => f3 (e.of_set (by decide)), fun e => f4 (e.of_set (by decide)), fun e => f5 (e.of_set (by decide)), fun _ => hb.trans (hb'.mono hb.size), fun e => absurd e (not_set6 m6 (by decide)), fun e => absurd e (not_set6 m6 (by decide))⟩⟩
        | 2, _, hno, hdep =>
          have m6 := n6 2 (by omega) hno
          have hb := f6 m6
          obtain ⟨a1, e1, s1, v1⟩ := f1 (hdep 1 (by simp [dep8]))
          subst e1
          refine OI_call rfl rfl (by intro c h; cases h) 153 #[.agg (ns a1)] (fun _ _ => trivial) (by kernel_rfl) (by decide) ?_
          refine (callsIn_wide.2 (below128_any a1 s1 U)).mono ?_
          rintro e w' ⟨a2, rfl, s2, v2, hb'⟩
          exact ⟨_, rfl, x26, _, _, x29, x30, x31, rfl, ⟨fun e => f0 (e.of_set (by decide)), fun _ => ⟨a1, rfl, s1, v1⟩, fun _ => ⟨a2, rfl, s2, by rw [v2, v1]⟩, fun e => f3 (e.of_set (by decide)), fun e => f4 (e.of_set (by decide)), fun e => f5 (e.of_set (by decide)), fun _ => hb.trans (hb'.mono hb.size), fun e => absurd e (not_set6 m6 (by decide)), fun e => absurd e (not_set6 m6 (by decide))⟩⟩
        | 3, _, hno, _ =>
          have m6 := n6 3 (by omega) hno
          have hb := f6 m6
          refine OI_value rfl rfl (about_none (by intro c h; cases h)) (by intro c h; cases h) (.agg (ns (w26 (sN key)))) U (run_load_row 215 _ rfl g7 rfl _ _ 5 23 Tryz.underlying215 (by kernel_rfl) rfl U (row7.below hb row7.lt)) ?_
          exact ⟨x26, x27, x28, _, x30, x31, rfl, ⟨fun e => f0 (e.of_set (by decide)), fun e => f1 (e.of_set (by decide)), fun e => f2 (e.of_set (by decide)), fun _ => rfl, fun e => f4 (e.of_set (by decide)), fun e => f5 (e.of_set (by decide)), fun _ => hb, fun e => absurd e (not_set6 m6 (by decide)), fun e => absurd e (not_set6 m6 (by decide))⟩⟩
        | 4, _, hno, hdep =>
          have m6 := n6 4 (by omega) hno
          have hb := f6 m6
          obtain ⟨a2, e2, s2, v2⟩ := f2 (hdep 2 (by simp [dep8]))
          have e3 := f3 (hdep 3 (by simp [dep8]))
          subst e2 e3
          refine OI_call rfl rfl (by intro c h; cases h) 151 #[.agg (ns a2), .agg (ns (w26 (sN key)))] (fun _ _ => trivial) (by kernel_rfl) (by decide) ?_
          refine (callsIn_wide.2 (plSum_any a2 (w26 (sN key)) s2 (w26_sm _) U)).mono ?_
          rintro e w' ⟨a3, rfl, s3, v3, hb'⟩
          rw [V5_w26 _ (sN_lt key HK.out)] at v3
          have e3 : V5 a3 = V5 a2 + sN key := v3.eq (by
            have := sN_lt128 key HK.out
            omega)
          exact ⟨_, rfl, x26, x27, _, _, _, x31, rfl, ⟨fun e => f0 (e.of_set (by decide)), fun e => f1 (e.of_set (by decide)), fun _ => ⟨a2, rfl, s2, v2⟩, fun _ => rfl, fun _ => ⟨a3, rfl, s3, by rw [e3, v2]⟩, fun e => f5 (e.of_set (by decide)), fun _ => hb.trans (hb'.mono hb.size), fun e => absurd e (not_set6 m6 (by decide)), fun e => absurd e (not_set6 m6 (by decide))⟩⟩
        | 5, _, hno, hdep =>
          have m6 := n6 5 (by omega) hno
          have hb := f6 m6
          obtain ⟨a3, e4, s3, v3⟩ := f4 (hdep 4 (by simp [dep8]))
          subst e4
          refine OI_call rfl rfl (by intro c h; cases h) 152 #[.agg (ns a3)] (fun _ _ => trivial) (by kernel_rfl) (by decide) ?_
          refine (callsIn_wide.2 (bytesOf_any a3 s3 U)).mono ?_
          rintro e w' ⟨rfl, hb'⟩
          have e5 : by16 (V5 a3) = tagL key q.b := by
            rw [v3]
            exact HT.out _ (by rw [HACC.out, Nat.mod_mod])
          rw [e5]
          exact ⟨_, rfl, x26, x27, x28, x29, _, _, rfl, ⟨fun e => f0 (e.of_set (by decide)), fun e => f1 (e.of_set (by decide)), fun e => f2 (e.of_set (by decide)), fun e => f3 (e.of_set (by decide)), fun _ => ⟨a3, rfl, s3, v3⟩, fun _ => rfl, fun _ => hb.trans (hb'.mono hb.size), fun e => absurd e (not_set6 m6 (by decide)), fun e => absurd e (not_set6 m6 (by decide))⟩⟩
        | 6, _, hno, hdep =>
          have hb := f6 hno
          have e5 := f5 (hdep 5 (by simp [dep8]))
          subst e5
          refine OI_skip rfl rfl (about_none (by intro c h; cases h)) (by intro c h; cases h) (U.setRow (w.heap.size + 1) (bs (tagL key q.b))) (run_store_row 83 _ _ rfl (w.heap.size + 1) (bs (tagL key q.b)) rfl rfl _ _ (rowo.below hb rowo.lt) 16 (by kernel_rfl) rfl (by rw [bs_size]; exact by16_length _) (bs_one _)) ?_
          refine ⟨x26, x27, x28, x29, x30, _, rfl, ⟨fun e => f0 (e.of_set (by decide)), fun e => f1 (e.of_set (by decide)), fun e => f2 (e.of_set (by decide)), fun e => f3 (e.of_set (by decide)), fun e => f4 (e.of_set (by decide)), fun _ => rfl, fun hn => absurd (On.self (by rw [hlz]; omega)) hn, fun _ => ⟨U, hb, rfl⟩, fun _ i hi => (hdep i ?_).set⟩⟩
          match i, hi with
          | 0, _ => simp [dep8]
          | 1, _ => simp [dep8]
          | 2, _ => simp [dep8]
          | 3, _ => simp [dep8]
          | 4, _ => simp [dep8]
          | 5, _ => simp [dep8]
        | 7, _, hno, hdep =>
          have o6 := hdep 6 (by simp [dep8])
          refine OI_value rfl rfl (about_none (by intro c h; cases h)) (by intro c h; cases h) (.int .i64 0) U (by kernel_rfl) ?_
          exact ⟨x26, x27, x28, x29, x30, x31, rfl, ⟨fun e => f0 (e.of_set (by decide)), fun e => f1 (e.of_set (by decide)), fun e => f2 (e.of_set (by decide)), fun e => f3 (e.of_set (by decide)), fun e => f4 (e.of_set (by decide)), fun e => f5 (e.of_set (by decide)), fun hn => absurd o6.set hn, fun _ => f7 o6, fun _ i hi => (f8 o6 i hi).set⟩⟩
      case done8 =>
        rintro l a U ⟨x26, x27, x28, x29, x30, x31, rfl, h⟩ hon
        obtain ⟨U1, hb, rfl⟩ := h.f7 (hon 6 (by omega))
        clear h hon
        have k0 := rowo.below hb rowo.lt
        have kD : U1.heap[D]? = some (.deferred (some [])) := (hb.block D (Array.getElem?_eq_some_iff.1 hDd).1).trans hDd
        have kb := hbel.trans (hb.mono hbel.size)
        have kD2 : (U1.setRow (w.heap.size + 1) (bs (tagL key q.b))).heap[D]? = some (.deferred (some [])) := (setRow_other _ _ _ _ (by omega)).trans kD
        have k3 := k0.put (bs (tagL key q.b))
        have kb3 := bSetRow kb (show w.heap.size ≤ w.heap.size + 1 by omega) (bs (tagL key q.b))
        generalize U1.setRow (w.heap.size + 1) (bs (tagL key q.b)) = W4 at *
        unfold tm8
        gi_wp2
        have hlt4 : D < W4.heap.size := (Array.getElem?_eq_some_iff.1 kD2).1
        have kp : Below D W4 (W4.putObj D (.deferred none)) := below_putObj _ (Nat.le_refl _) (by omega)
        refine ⟨by simp, .inl ⟨_, _, rfl, run_takeDeferred kD2, ?_⟩⟩
        exact ⟨_, result_row_tmp rfl _ _ (w.heap.size + 1) _ _ (k3.below kp (by omega)) 16 5 (.int .i64 0) rfl rfl Tryz.underlying83 (by kernel_rfl) (by rw [bs_size]; exact by16_length _), rfl, kb3.trans (kp.mono (by omega))⟩
end Go.Proofs.YtbheoldakmcppaaGreatDoor

/-! What is tagged, and sealed bytes, on lists: no program in sight. -/
namespace Go.Proofs.YtbheoldakmcppaaGreatDoor
open Go

/-- How many bytes there are up to a multiple of 16. -/
def pad16 (n : Nat) : Nat := (16 - n % 16) % 16
theorem pad16_lt (n : Nat) : pad16 n < 16 := Nat.mod_lt _ (by decide)
theorem pad16_sum (n : Nat) : (n + pad16 n) % 16 = 0 := by unfold pad16; omega
theorem pad16_add (n m : Nat) (h : n % 16 = 0) : pad16 (n + m) = pad16 m := by unfold pad16; rw [Nat.add_mod, h, Nat.zero_add, Nat.mod_mod]
def fillL (l : List By) : List By := l ++ List.replicate (pad16 l.length) 0
theorem fillL_length (l : List By) : (fillL l).length = l.length + pad16 l.length := by simp [fillL]
/-- A number as eight bytes. -/
def eightL (n : Nat) : List By := (List.range 8).map (byteAt n)
def eightTo (n k : Nat) : List By := (List.range k).map (byteAt n)
theorem eightTo_succ (n k : Nat) : eightTo n (k + 1) = eightTo n k ++ [byteAt n k] := by
  unfold eightTo
  rw [List.range_succ, List.map_append, List.map_singleton]
theorem eightTo_zero (n : Nat) : eightTo n 0 = [] := rfl
theorem eightL_length (n : Nat) : (eightL n).length = 8 := by simp [eightL]
/-- What is tagged. -/
def taggedL (x y : List By) : List By := fillL x ++ y ++ List.replicate (pad16 y.length) 0 ++ eightL x.length ++ eightL y.length
theorem taggedL_length (x y : List By) : (taggedL x y).length = x.length + pad16 x.length + y.length + pad16 y.length + 16 := by
  simp only [taggedL, List.length_append, fillL_length, List.length_replicate, eightL_length]
theorem taggedL_fill (x y : List By) : fillL (fillL x ++ y) = fillL x ++ y ++ List.replicate (pad16 y.length) 0 := by
  rw [fillL, List.length_append, pad16_add]
  rw [fillL_length]
  exact pad16_sum _
/-- The tag; sealed bytes. -/
def markL (key nonce hidden beside : List By) : List By := tagL ((blockL key 0 nonce).take 32) (taggedL beside hidden)
theorem markL_length (key nonce hidden beside : List By) : (markL key nonce hidden beside).length = 16 := by16_length _
def sealL (key nonce plain beside : List By) : List By := xorL key 1 nonce plain ++ markL key nonce (xorL key 1 nonce plain) beside
theorem sealL_length (key nonce plain beside : List By) : (sealL key nonce plain beside).length = plain.length + 16 := by
  rw [sealL, List.length_append, xorL_length, markL_length]
theorem u_one : u (1 : Wd) = 1 := rfl
end Go.Proofs.YtbheoldakmcppaaGreatDoor

/-! A row made in the walk; a tag's length; sums of bytes; what a row of its own looks like. -/
namespace Go.Proofs.YtbheoldakmcppaaGreatDoor
open Go Go.RowKit

theorem alloc_row {P : Program} {ops : Array Oper} {rest : List Oper} {o : Oper} {a : Act} {w : World} {Q : Exit → Act → World → Prop} (hgd : o.guard = none) (t : TypeId) (ho : o.op = .alloc t) (cs : Array Value) (hz : (P.info? t).map (·.zero) = some (some (.agg cs)))
    (h : wpList P ops Q rest (a.put o.dst (.pointer (some ⟨w.heap.size, 0, none⟩))) (w.alloc (.cells cs t))) : wpList P ops Q (o :: rest) a w :=
  wpList_plain hgd fun _ hK => by
    unfold Oper.wp
    rw [exec_alloc_row t ho cs hz]
    exact hK _ _ h
/-! ### The law's sum -/
theorem byte_stable (v m : Nat) {j k : Nat} (h : j < k) : (v + m * 256 ^ k) / 256 ^ j % 256 = v / 256 ^ j % 256 := by
  obtain ⟨d, rfl⟩ : ∃ d, k = j + (d + 1) := ⟨k - j - 1, by omega⟩
  rw [Nat.pow_add, Nat.pow_succ, show m * (256 ^ j * (256 ^ d * 256)) = 256 ^ j * (m * 256 ^ d * 256) by simp only [Nat.mul_left_comm, Nat.mul_assoc], Nat.add_mul_div_left _ _ (Nat.pow_pos (by decide)), Nat.add_mul_mod_self_right]
/-! ### The law's repeat -/
theorem own_shape {w : World} {base n : Nat} {e : TypeId} {v : Value} {xs : List Value} (h : w.ownsRow base e 1 v n xs) : ∃ a c, v = .slice a n c := by
  rcases h.2 with ⟨rfl, rfl⟩ | ⟨g, c, cur, rfl, _⟩
  · exact ⟨_, _, rfl⟩
  · exact ⟨_, _, rfl⟩
end Go.Proofs.YtbheoldakmcppaaGreatDoor
