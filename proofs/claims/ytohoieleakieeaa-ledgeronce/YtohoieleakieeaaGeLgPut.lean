/-
  Written by mklgput.py: a packet is put on its way.
-/
import Derived.Test.YtohoieleakieeaaGeLgStep
namespace Go.Proofs.Ytohoieleakieeaa
open Go Go.RowKit

def KeepL (g : Nat) (v : Value) (W W' : World) : Prop := KeepP (fun k => k = g ∨ v.ownBlock = some k) W W'
theorem Try.infoPk : (Try.prog.info? 55).map (fun i => (i.zero, i.size, i.bytes)) = some (some (.agg (pkC ⟨0, 0, 0, false⟩)), 4, 32) := by kernel_rfl
theorem pk_info : ∃ i0, Try.prog.info? 55 = some i0 ∧ i0.zero = some (.agg (pkC ⟨0, 0, 0, false⟩)) ∧ i0.size = 4 ∧ i0.bytes = 32 := by
  have h := Try.infoPk
  cases hq : Try.prog.info? 55 with
  | none => rw [hq] at h; cases h
  | some i =>
    rw [hq] at h
    simp only [Option.map_some, Option.some.injEq, Prod.mk.injEq] at h
    exact ⟨i, rfl, h.1, h.2.1, h.2.2⟩
theorem pk_append (w : World) (ty : TypeId) (v : Value) (l : List Lg.Pk) (p : Lg.Pk) (b : Nat) (h : RowO w 55 4 v l.length (vp l)) (hr : Row w b 55 (pkC p)) (hl : l.length ≤ 100000) :
    ∃ v' w', (Builtin.append_ #[49, 49] ty #[v, .slice (some ⟨b, 0, none⟩) 1 1]).run Try.prog w = .ok v' w' ∧ RowO w' 55 4 v' (l ++ [p]).length (vp (l ++ [p])) ∧
      (v'.ownBlock = v.ownBlock ∧ v.ownBlock ≠ none ∧ w.grownBy w' v.ownBlock ∨ w.grownBy w' none ∧ (∀ k, v'.ownBlock = some k → k = w.heap.size)) := by
  obtain ⟨i0, h1, h2, h3, h4⟩ := pk_info
  rw [List.length_append, List.length_singleton, vp_append]
  refine run_append_O (P := Try.prog) w 49 ty 55 i0 _ 4 32 Try.underlying49 h1 h2 h3 h4 rfl (by decide) v l.length (vp l) h ⟨b, 0, none⟩ 1 1 (vp [p]) rfl ?_ (vp_one _) (by unfold maxLen; omega) (by omega)
  intro j u hu
  rw [Addr.add_mid, Nat.zero_add]
  have : (vp [p])[j]? = (pkC p)[j]? := by
    match j with
    | 0 => rfl
    | 1 => rfl
    | 2 => rfl
    | 3 => rfl
    | j + 4 => simp [vp, pkC]
  rw [this] at hu
  rw [← hu]
  exact cell_of_row w b j _ _ (0, 0) hr
theorem keepL_of {v : Value} {A B : World} (h : v.ownBlock ≠ none ∧ A.grownBy B v.ownBlock ∨ A.grownBy B none) : KeepP (fun k => v.ownBlock = some k) A B := by
  rcases h with ⟨_, h⟩ | h
  · exact ⟨h.os, h.tape, h.output, h.size, fun k hk hs => h.block k hk (fun e => hs e.symm)⟩
  · exact ⟨h.os, h.tape, h.output, h.size, fun k hk _ => h.block k hk (by simp)⟩
def depPu : Nat → List Nat
  | 0 => []
  | 1 => []
  | 2 => [1]
  | 3 => [2]
  | 4 => [3]
  | 5 => []
  | 6 => [5]
  | 7 => [4, 6]
  | 8 => [0]
  | 9 => [8]
  | 10 => [9, 7]
  | _ => []
def dclPu : Nat → List Nat
  | 6 => [5]
  | 7 => [4]
  | 10 => []
  | _ => []
def valPu (g : Nat) (v : Value) (p : Lg.Pk) : Nat → Value
  | 0 => .pointer (some ⟨g, 0, none⟩)
  | 1 => .pointer (some ⟨g, 0, none⟩)
  | 2 => .pointer (some ⟨g, 0, none⟩)
  | 3 => .pointer (some ⟨g, 0, none⟩)
  | 4 => v
  | 5 => .agg (pkC p)
  | 8 => .pointer (some ⟨g, 0, none⟩)
  | 9 => .pointer (some ⟨g, 0, none⟩)
  | _ => undef
def RPu (q : World) (g : Nat) (v : Value) (m : ML) (p : Lg.Pk) : Nat → World → Value → Prop
  | 0, W, _ => W = q
  | 1, W, u => W = q.alloc (.cells (pkC p) 55) ∧ u = .slice (some ⟨q.heap.size, 0, none⟩) 1 1
  | 2, W, u => Row W g 51 (mlC v m) ∧ RowO W 55 4 u (m.way ++ [p]).length (vp (m.way ++ [p])) ∧ KeepP (fun k => v.ownBlock = some k) q W ∧ (∀ k, u.ownBlock = some k → v.ownBlock = some k ∨ q.heap.size ≤ k)
  | _, W, _ => ∃ v', LdOk W g v' { m with way := m.way ++ [p] } ∧ KeepL g v q W ∧ (∀ k, v'.ownBlock = some k → v.ownBlock = some k ∨ q.heap.size ≤ k)
theorem RPu.zero {q : World} {g : Nat} {v : Value} {m : ML} {p : Lg.Pk} {k : Nat} {W : World} {u : Value} (h : RPu q g v m p k W u) (hk : k ≤ 0) : W = q := by
  obtain rfl : k = 0 := by omega
  exact h
theorem RPu.one {q : World} {g : Nat} {v : Value} {m : ML} {p : Lg.Pk} {k : Nat} {W : World} {u : Value} (h : RPu q g v m p k W u) (hk : k ≤ 1) : Below q.heap.size q W := by
  match k, h with
  | 0, h => exact (show W = q from h) ▸ Below.refl _ _
  | 1, h => rw [h.1]; exact (Below.refl _ _).alloc (Nat.le_refl _) _
  | _ + 2, _ => omega
set_option maxRecDepth 20000 in
set_option maxHeartbeats 1000000 in
theorem put_any (g : Nat) (v : Value) (m : ML) (p : Lg.Pk) (w : World) (h : LdOk w g v m) (hl : m.way.length ≤ 2000) (ha : m.ask ≤ 3000000) (hp : p.size ≤ 1200) :
    Calls Try.prog 18 #[.pointer (some ⟨g, 0, none⟩), .agg (pkC p)] w fun e w' => (∃ u, e = .returned u) ∧ ∃ v', LdOk w' g v' { m with way := m.way ++ [p], ask := if p.asks then m.ask + p.size else m.ask } ∧ KeepL g v w w' ∧ (∀ k, v'.ownBlock = some k → v.ownBlock = some k ∨ w.heap.size ≤ k) := by
  obtain ⟨A, hA⟩ : ∃ A, (if p.asks then m.ask + p.size else m.ask) = A := ⟨_, rfl⟩
  rw [hA]
  have HA := veil hA
  clear hA
  have hb0 : Below w.heap.size w (w.alloc (.cells (pkC p) 55)) := (Below.refl _ w).alloc (Nat.le_refl _) _
  have hq := h.below hb0
  have hbx : Row (w.alloc (.cells (pkC p) 55)) w.heap.size 55 (pkC p) := Row.new _ _ _
  have hsz : w.heap.size + 1 = (w.alloc (.cells (pkC p) 55)).heap.size := by simp
  go_enter Try.func18, Try.ntmps18
  go_wp2_with fail
  generalize w.alloc (.cells (pkC p) 55) = q0 at *
  have HB0 := veil hb0
  have HW := veil (h.way.lt)
  have HG := veil h.lt
  replace hq : LdOk q0.drew g v m := hq.below ((Below.refl _ q0).drew)
  replace hbx : Row q0.drew w.heap.size 55 (pkC p) := hbx
  replace hsz : w.heap.size + 1 = q0.drew.heap.size := hsz
  have HBX := veil hbx
  have HQ := veil hq
  have HS := veil hsz
  have c0 := hq.cells.c0
  clear h hb0 hq hbx hsz
  refine (wpIn_wide (n := 4)).1 ?_
  refine wpIn_region_any (by kernel_rfl) ?_
  refine anyIn_spine (valPu g v p) (RPu q0.drew g v m p) undef [6, 7, 10] [4, 5, 6, 7, 8, 9, 10, 11, 12, 13, 100000] depPu dclPu (by kernel_rfl) (by decide) rfl (by decide) (by decide) ?ord (by decide) ?h0 ?fix ?cal ?don
  case ord =>
    intro k i j h1 h2
    match k, h1, h2 with
    | 0, h1, h2 =>
      obtain rfl := Option.some.inj h1
      obtain rfl := Option.some.inj h2
      decide
    | 1, h1, h2 =>
      obtain rfl := Option.some.inj h1
      obtain rfl := Option.some.inj h2
      decide
    | 2, _, h2 => simp at h2
    | _ + 3, h1, _ => simp at h1
  case fix =>
    intro x W4 m2 ii d u hR hdi hni hdep hlo hhi
    match ii, hdi, hni, hdep, hhi with
    | 0, hdi, _, _, _ =>
      obtain rfl := Option.some.inj hdi
      exact OI_value rfl rfl (about_none (by intro c h; cases h)) (by intro c h; cases h) (.pointer (some ⟨g, 0, none⟩)) W4 (by kernel_rfl) ⟨rfl, rfl⟩
    | 1, hdi, _, _, _ =>
      obtain rfl := Option.some.inj hdi
      exact OI_value rfl rfl (about_none (by intro c h; cases h)) (by intro c h; cases h) (.pointer (some ⟨g, 0, none⟩)) W4 (by kernel_rfl) ⟨rfl, rfl⟩
    | 2, hdi, _, hdep, _ =>
      obtain rfl := Option.some.inj hdi
      rw [updV_self (show x 1 = _ from hdep 1 (by simp [depPu]) (by decide))]
      exact OI_value rfl rfl (about_none (by intro c h; cases h)) (by intro c h; cases h) (.pointer (some ⟨g, 0, none⟩)) W4 (by kernel_rfl) ⟨rfl, rfl⟩
    | 3, hdi, _, hdep, _ =>
      obtain rfl := Option.some.inj hdi
      rw [updV_self (show x 2 = _ from hdep 2 (by simp [depPu]) (by decide))]
      exact OI_value rfl rfl (about_none (by intro c h; cases h)) (by intro c h; cases h) (.pointer (some ⟨g, 0, none⟩)) W4 (by kernel_rfl) ⟨rfl, rfl⟩
    | 4, hdi, _, hdep, hhi =>
      obtain rfl := Option.some.inj hdi
      rw [updV_self (show x 3 = _ from hdep 3 (by simp [depPu]) (by decide))]
      exact OI_value rfl rfl (about_none (by intro c h; cases h)) (by intro c h; cases h) (v) W4 (lgRun_cell 49 _ ⟨g, 0, none⟩ _ _ rfl (by kernel_rfl) Try.underlying49 rfl _ (((hR.one (hhi 1 7 rfl (by decide))).cell (p := ⟨g, 0, none⟩) HQ.out.lt).trans c0)) ⟨rfl, rfl⟩
    | 5, hdi, _, _, hhi =>
      obtain rfl := Option.some.inj hdi
      exact OI_value rfl rfl (about_none (by intro c h; cases h)) (by intro c h; cases h) (.agg (pkC p)) W4 (lgRun_row 55 _ rfl w.heap.size (by kernel_rfl) 55 (pkC p) 4 _ Try.underlying55 (by kernel_rfl) rfl W4 (by rw [hR.zero (hhi 0 6 rfl (by decide))]; exact HBX.out)) ⟨rfl, rfl⟩
    | 6, _, hni, _, _ => exact absurd (by decide) hni
    | 7, _, hni, _, _ => exact absurd (by decide) hni
    | 8, hdi, _, hdep, _ =>
      obtain rfl := Option.some.inj hdi
      rw [updV_self (show x 0 = _ from hdep 0 (by simp [depPu]) (by decide))]
      exact OI_value rfl rfl (about_none (by intro c h; cases h)) (by intro c h; cases h) (.pointer (some ⟨g, 0, none⟩)) W4 (by kernel_rfl) ⟨rfl, rfl⟩
    | 9, hdi, _, hdep, _ =>
      obtain rfl := Option.some.inj hdi
      rw [updV_self (show x 8 = _ from hdep 8 (by simp [depPu]) (by decide))]
      exact OI_value rfl rfl (about_none (by intro c h; cases h)) (by intro c h; cases h) (.pointer (some ⟨g, 0, none⟩)) W4 (by kernel_rfl) ⟨rfl, rfl⟩
    | 10, _, hni, _, _ => exact absurd (by decide) hni
    | _ + 11, hdi, _, _, _ => simp at hdi
  case cal =>
    intro x W4 k2 ii d u hR hk hdi hdep hu0 hup
    match k2, hk, hR, hu0, hup with
    | 0, hk, hR, hu0, hup =>
      obtain rfl := Option.some.inj hk
      obtain rfl := Option.some.inj hdi
      obtain rfl : W4 = q0.drew := hR
      rw [updV_self (show x 5 = _ from hdep 5 (by simp [depPu]) (by decide))]
      obtain ⟨i0, j1, j2, j3, j4⟩ := pk_info
      refine OI_value rfl rfl (about_none (by intro c h; cases h)) (by intro c h; cases h) (.slice (some ⟨q0.drew.heap.size, 0, none⟩) 1 1) _ (lgRun_build1 49 55 _ (pkC p) i0 _ 4 rfl (by kernel_rfl) Try.underlying49 j1 j2 j3 (by decide) (by decide) (by kernel_rfl) _) ⟨_, rfl, rfl, rfl⟩
    | 1, hk, hR, hu0, hup =>
      obtain rfl := Option.some.inj hk
      obtain rfl := Option.some.inj hdi
      obtain ⟨rfl, hu⟩ := hR
      have h6 : x 6 = u := hup 0 6 rfl rfl
      rw [hu] at h6
      rw [updV_self (show x 4 = _ from hdep 4 (by simp [depPu]) (by decide)), updV_self (show (updV x 4 _) 6 = _ from h6)]
      have hq1 := HQ.out.below ((Below.refl _ q0.drew).alloc (Nat.le_refl _) (.cells (pkC p) 55))
      obtain ⟨v', w', a1, a2, a3⟩ := pk_append (q0.drew.alloc (.cells (pkC p) 55)) 49 v m.way p q0.drew.heap.size hq1.way (Row.new _ _ _) (by omega)
      have k1 : KeepP (fun k => v.ownBlock = some k) (q0.drew.alloc (.cells (pkC p) 55)) w' := keepL_of (a3.imp (fun z => z.2) (fun z => z.1))
      refine OI_value rfl rfl (about_builtin _ _ _ rfl) (by intro c h; cases h) v' w' (lgRun_append _ _ _ v _ v' _ _ rfl (by kernel_rfl) (by kernel_rfl) a1) ⟨_, rfl, k1.row hq1.row hq1.apart, a2, (KeepP.of_below ((Below.refl _ q0.drew).alloc (Nat.le_refl _) (.cells (pkC p) 55))).trans k1, fun k hk => ?_⟩
      rcases a3 with ⟨z, _⟩ | ⟨_, z⟩
      · rw [z] at hk; exact .inl hk
      · right; rw [z k hk]; simp
    | 2, hk, hR, hu0, hup =>
      obtain rfl := Option.some.inj hk
      obtain rfl := Option.some.inj hdi
      obtain ⟨z1, z2, z3, z4⟩ := hR
      have h7 : x 7 = u := hup 1 7 rfl rfl
      rw [updV_self (show x 9 = _ from hdep 9 (by simp [depPu]) (by decide)), updV_self (show (updV x 9 _) 7 = _ from h7)]
      refine OI_skip rfl rfl (about_none (by intro c h; cases h)) (by intro c h; cases h) _ (lgRun_store 49 _ _ ⟨g, 0, none⟩ u v (RowO.one z2) rfl (by kernel_rfl) (by kernel_rfl) (by kernel_rfl) _ (z1.cell 0) (z1.frozen 0)) ⟨undef, (lgPut_none _ _).trans (put_far _ _ _ (by rw [puts_size]; exact Nat.le_of_ble_eq_true rfl)).symm, u, ?_, ?_, z4⟩
      · have hne : u.ownBlock ≠ some g := fun e => by
          rcases z4 g e with e1 | e1
          · exact HQ.out.apart e1
          · exact absurd HQ.out.lt (by omega)
        refine ⟨z1.set 0 u, z2.same (fun k hk => Below.heap_setCell _ _ _ _ (fun e => ?_))⟩
        rw [e] at hk
        exact hne hk
      · exact (KeepP.mono z3 (fun k e => .inr e)).trans (KeepP.setCell (st := fun k => k = g ∨ v.ownBlock = some k) (.inl rfl) _ _ _)
    | _ + 3, hk, _, _, _ => simp at hk
  case h0 => exact rfl
  case don =>
    rintro x W u ⟨v', hL, hK, hV⟩ _ _
    simp only [putsV, Act.put, List.setIfInBounds_toArray, List.set_cons_succ, List.set_cons_zero, List.set_nil, Nat.reduceAdd]
    generalize x 0 = z0, x 1 = z1, x 2 = z2, x 3 = z3, x 4 = z4, x 5 = z5, x 6 = z6, x 7 = z7, x 8 = z8, x 9 = z9, x 10 = z10
    have hbx : Row W w.heap.size 55 (pkC p) := hK.row HBX.out (fun e => e.elim (fun e => by have := HG.out; omega) (fun e => by have := HW.out _ e; omega))
    have hK0 : KeepL g v w W := (KeepP.of_below (HB0.out.drew)).trans hK
    have hV0 : ∀ k, v'.ownBlock = some k → v.ownBlock = some k ∨ w.heap.size ≤ k := fun k hk => (hV k hk).imp id (fun e => by have := HS.out; omega)
    have b3 : W.cell? ⟨w.heap.size, 3, none⟩ = some (.bool p.asks) := hbx.cell 3
    have b1 : W.cell? ⟨w.heap.size, 1, none⟩ = some (.int .i64 (p.size : Int)) := hbx.cell 1
    have c1 := hL.cells.c1
    have f1 := hL.cells.f 1
    simp only at c1
    have HL := veil hL
    have HK := veil hK0
    have HV := veil hV0
    clear hL hK hV hbx hK0 hV0
    cases hpa : p.asks
    · rw [hpa] at b3
      have hA := HA.out
      rw [hpa, if_neg (by decide)] at hA
      subst hA
      clear HA
      clear hpa hl ha hp c0 b1 c1 f1
      go_wp2
      refine bodyPost_end (results_none rfl _ _ _) rfl ?_
      refine ⟨⟨_, rfl⟩, v', ?_, HK.out, HV.out⟩
      exact HL.out
    · rw [hpa] at b3
      have hz := HA.out
      rw [hpa, if_pos rfl] at hz
      have e1 : IntKind.i64.wrap ((m.ask : Int) + (p.size : Int)) = (A : Int) := by rw [IntKind.wrap_i64]; omega
      clear hz HA ha hp hl hpa c0
      go_wp2
      go_region
      go_wp2
      refine bodyPost_end (results_none rfl _ _ _) rfl ?_
      refine ⟨⟨_, rfl⟩, v', ?_, ?_, HV.out⟩
      · refine ⟨HL.out.row.drew.set 1 _, HL.out.way.same (fun k hk => Below.heap_setCell _ _ _ _ (fun e => ?_))⟩
        rw [e] at hk
        exact HL.out.apart hk
      · exact HK.out.trans ((KeepP.of_below (Below.refl _ W).drew).trans (KeepP.setCell (st := fun k => k = g ∨ v.ownBlock = some k) (.inl rfl) _ _ _))
end Go.Proofs.Ytohoieleakieeaa
