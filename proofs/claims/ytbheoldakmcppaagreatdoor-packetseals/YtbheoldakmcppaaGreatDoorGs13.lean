/-
  Out of KyParts, KyOf.
-/
import Derived.Test.YtbheoldakmcppaaGreatDoorGs29
import Derived.Maps.AppendAt
import Derived.BigRegion
import Derived.Deep.RegionHeld3

/-! What keys.parts, keys.Of and keys.Next answer. -/
namespace Go.Proofs.YtbheoldakmcppaaGreatDoor
open Go Go.RowKit

theorem kindNe {W : World} {B B' e e' z z' n n' : Nat} {v v' : Value} {xs xs' : List Value} (h : W.ownsRow B e z v n xs) (h' : W.ownsRow B' e' z' v' n' xs') (he : e ≠ e') : v.ownBlock = none ∨ v.ownBlock ≠ v'.ownBlock := by
  rcases h.2 with ⟨rfl, _⟩ | ⟨g, c, cur, rfl, _, hh, _⟩
  · exact .inl rfl
  · rcases h'.2 with ⟨rfl, _⟩ | ⟨g', c', cur', rfl, _, hh', _⟩
    · exact .inr (fun q => by cases q)
    · refine .inr (fun q => ?_)
      have q' : g = g' := Option.some.inj q
      subst q'
      rw [hh] at hh'
      injection hh' with hh'
      injection hh' with _ hh'
      exact he hh'

theorem own_belowY {w w' : World} {B n z : Nat} {e : TypeId} {v : Value} {xs : List Value} (h : w.ownsRow B e z v n xs) (hb : Below w.heap.size w w') : w'.ownsRow B e z v n xs :=
  h.kept (row := none) ⟨hb.os, hb.tape, hb.output, hb.size, fun k hk _ => hb.block k hk⟩ (by cases hv : v.ownBlock <;> simp)
/-- A row of bytes that fills its block. -/
abbrev own1 (g n : Nat) : Value := .slice (some ⟨g, 0, none⟩) n n
def updN (f : Nat → Nat) (m x : Nat) : Nat → Nat := fun i => if i = m then x else f i
theorem updN_at (f : Nat → Nat) (m x : Nat) : updN f m x m = x := if_pos rfl
theorem updN_lt (f : Nat → Nat) {m i : Nat} (x : Nat) (h : i < m) : updN f m x i = f i := if_neg (by omega)
def madeL (gs N : Nat → Nat) (k : Nat) : List Value := (List.range k).map fun j => own1 (gs j) (N j)
theorem madeL_succ (gs N : Nat → Nat) (k x : Nat) : madeL (updN gs k x) N (k + 1) = madeL gs N k ++ [own1 x (N k)] := by
  unfold madeL
  rw [List.range_succ, List.map_append, List.map_singleton, updN_at]
  congr 1
  apply List.map_congr_left
  intro j hj
  rw [List.mem_range] at hj
  rw [updN_lt _ _ hj]
theorem madeL_get (gs N : Nat → Nat) (k j : Nat) (h : j < k) : (madeL gs N k)[j]? = some (own1 (gs j) (N j)) := by simp [madeL, h]

/-- What was made so far. -/
structure Made (w : World) (b : List By) (S : Nat → ByteArray) (N : Nat → Nat) (k : Nat) (v : Value) (gs : Nat → Nat) (wr : World) : Prop where
  own : wr.ownsRow w.heap.size 22 1 v k (madeL gs N k)
  rows : ∀ j, j < k → wr.ownsRow w.heap.size 5 1 (own1 (gs j) (N j)) (N j) (vb (lab b (S j) (N j)))
  up : ∀ i j, i < j → j < k → gs i < gs j
  bel : Below w.heap.size w wr

theorem infoBs : (Tryz.prog.info? 22).map (fun i => (i.zero, i.size, i.bytes)) = some (some (.slice none 0 0), 1, 24) := by kernel_rfl

set_option maxRecDepth 20000 in
set_option maxHeartbeats 2000000 in
theorem parts_any (q : SL) (w : World) (hq : q.Ok w) (hl : q.len = 32) (A m c : Nat) (S : Nat → ByteArray) (N : Nat → Nat) (hA : A < w.heap.size) (hm : m ≤ 8)
    (hc0 : ∀ j, j < m → w.cell? ⟨A, j * 2, none⟩ = some (.string (S j))) (hc1 : ∀ j, j < m → w.cell? ⟨A, j * 2 + 1, none⟩ = some (.int .i64 (N j : Int))) (hS : ∀ j, j < m → (S j).size ≤ 249) (hN : ∀ j, j < m → N j ≤ 8160) :
    Calls Tryz.prog 109 #[.slice q.a q.len q.cap, .slice (some ⟨A, 0, none⟩) m c] w fun e w' => ∃ v gs, e = .returned (.tuple #[v, .int .i64 0]) ∧ Made w q.b S N m v gs w' := by
  obtain ⟨i0, hi, hz0, hz1, hz2⟩ := info_parts infoBs
  have HQ := veil hq
  have hbl := hq.hb
  have HC0 := veil hc0
  have HC1 := veil hc1
  have HS := veil hS
  have HN := veil hN
  have HL := veil hl
  have hne : ((q.len : Int) != 32) = false := by rw [hl]; rfl
  clear hq hc0 hc1 hS hN hl
  go_enter Tryz.func109, Tryz.ntmps109
  go_wp2_with fail
  go_loopw [6, 16] (fun out i wr => ∃ (k : Nat) (gs : Nat → Nat), k ≤ m ∧ i = .int .i64 (k : Int) ∧ Made w q.b S N k out gs wr)
    (fun _ i _ => m - (intOf i).toNat)
  case atStart => exact ⟨0, fun _ => 0, Nat.zero_le _, rfl, ⟨World.ownsRow_nil _ _ _ _, fun j hj => absurd hj (Nat.not_lt_zero _), fun i j _ hj => absurd hj (Nat.not_lt_zero _), Below.refl _ _⟩⟩
  case round =>
    obtain ⟨k, gs, hk, rfl, hM⟩ := hrel
    have HM := veil hM
    have hbel := hM.bel
    clear hM
    by_cases hlt : k < m
    · have c0 : wr.cell? ⟨A, k * 2, none⟩ = some (.string (S k)) := (hbel.cell (p := ⟨A, k * 2, none⟩) hA).trans (HC0.out k hlt)
      have c1 : wr.cell? ⟨A, k * 2 + 1, none⟩ = some (.int .i64 (N k : Int)) := (hbel.cell (p := ⟨A, k * 2 + 1, none⟩) hA).trans (HC1.out k hlt)
      have b1 : Below wr.heap.size wr (wr.alloc (.cells #[.string (S k), .int .i64 (N k : Int)] 172)) := (Below.refl _ wr).alloc (Nat.le_refl _) _
      have HB1 := veil b1
      have HQ1 := veil ((HQ.out.below hbel).below b1)
      clear hbel b1
      go_wp2_with fail
      generalize wr.alloc (.cells #[.string (S k), .int .i64 (N k : Int)] 172) = W1 at *
      refine (lab_any q (S k) (N k) W1 HQ1.out (HS.out k hlt) (HN.out k hlt) (by have := HL.out; omega)).mono ?_
      rintro e2 w2 ⟨g2, rfl, ho2, hb2⟩
      have hs1 := HB1.out.size
      have B2 := veil (HB1.out.trans (hb2.mono hs1))
      have HO2 := veil ho2
      clear hb2 ho2 c0 c1
      go_wp2_with (with_reducible (show wpList _ _ _ (⟨some 35, Op.call _, _, _, _, _⟩ :: _) _ _); refine Hid.out ?_)
      refine show wpList _ _ _ _ _ _ from ?_
      have hM2 : w2.ownsRow w.heap.size 22 1 u6 k (madeL gs N k) := own_belowY HM.out.own B2.out
      have hn2 : madeL (updN gs k g2) N (k + 1) = madeL gs N k ++ [own1 g2 (N k)] := madeL_succ gs N k g2
      have HNN := veil hn2
      clear hn2
      refine wpList_append_own_at _ rfl _ _ 108 rfl w.heap.size 22 i0 (.slice none 0 0) 1 24 Tryz.underlying108 hi hz0 hz1 hz2 rfl (by decide) u6 k (madeL gs N k) rfl (hM2.alloc _) ⟨w2.heap.size, 0, none⟩ 1 1 [own1 g2 (N k)] rfl rfl (cell_one_new _ _ _) (by simp [Value.oneCell']) (by unfold maxLen; omega) (by omega) (by have := HM.out.bel.size; have := B2.out.size; simp; omega) ?_
      intro v3 w3 ho3 hgr3 _ _
      have b3 : Below w.heap.size w w3 := (((HM.out.bel.trans (B2.out.mono HM.out.bel.size)).alloc (by have := HM.out.bel.size; have := B2.out.size; omega) _).grown hgr3 (by have := HM.out.bel.size; have := B2.out.size; simp; omega) (fun j e => (HM.out.own.lt j e).1))
      have hMade : Made w q.b S N (k + 1) v3 (updN gs k g2) w3 := by
        have hs0 := HM.out.bel.size
        refine ⟨by rw [HNN.out]; exact ho3, fun j hj => ?_, fun i j hij hj => ?_, b3⟩
        · rcases Nat.lt_or_ge j k with c | c
          · rw [updN_lt _ _ c]
            have h1 := own_belowY (HM.out.rows j c) B2.out
            exact (h1.alloc (.cells #[own1 g2 (N k)] 22)).kept hgr3 (kindNe h1 hM2 (by decide))
          · obtain rfl : j = k := by omega
            rw [updN_at]
            have h1 := own_low HO2.out (show w.heap.size ≤ W1.heap.size by omega)
            exact (h1.alloc (.cells #[own1 g2 (N j)] 22)).kept hgr3 (kindNe h1 hM2 (by decide))
        · rw [updN_lt _ _ (show i < k by omega)]
          rcases Nat.lt_or_ge j k with c | c
          · rw [updN_lt _ _ c]
            exact HM.out.up i j hij c
          · obtain rfl : j = k := by omega
            rw [updN_at]
            have h1 := ((HM.out.rows i (by omega)).lt (gs i) rfl).2
            have h2 := (HO2.out.lt g2 rfl).1
            omega
      have HM3 := veil hMade
      clear hMade b3 ho3 hgr3 hM2 HM HO2
      go_wp2_with fail
      go_roundw
      case rel => exact ⟨k + 1, _, by omega, by go_num, HM3.out⟩
      case measure => simp [intOf]; omega
    · obtain rfl : k = m := by omega
      have hd : decide ((k : Int) < (k : Int)) = false := by simp
      clear hbel hlt hk
      go_wp2_with fail
      refine bodyPost_ret (v := .tuple #[u6, .int .i64 0]) (by simp [results, Tryz.results109, go_sem]) rfl ⟨u6, gs, rfl, HM.out⟩
end Go.Proofs.YtbheoldakmcppaaGreatDoor

/-! What keys.Of and keys.Next answer. -/
namespace Go.Proofs.YtbheoldakmcppaaGreatDoor
open Go Go.RowKit

/-- A whole structure is handed back, with a second result. -/
theorem result_keys {P : Program} {fn : Func} {p q : Tmp} {ty : TypeId} (h : fn.results = #[.cell p ty, .tmp q]) (tmps : Array Value) (w : World) (g : Nat) (t : TypeId) (cs : Array Value) (hg : Row w g t cs) (n : Nat) (fs : Array Field) (v : Value)
    (hp : tmps.getD p undef = .pointer (some ⟨g, 0, none⟩)) (hq : tmps.getD q undef = v) (hu : P.underlying ty = some (.struct fs)) (hi : (P.info? ty).map (·.size) = some n) (hc : cs.size = n) :
    (results fn tmps).run P w = .ok (.tuple #[.agg cs, v]) w := by
  rw [results_cell_tmp h, hp, hq]
  simp [asAddr, Result.andThen, run_loadVar_row w g t ty cs (0, 0) _ hg hu rfl (by rw [hc]; exact hi)]

theorem own_setCell {w : World} {B e z n : Nat} {v : Value} {xs : List Value} (h : w.ownsRow B e z v n xs) (g k : Nat) (hp : ∀ j, v.ownBlock = some j → j ≠ g) (u : Value) : (w.setCell ⟨g, k, none⟩ u).ownsRow B e z v n xs :=
  h.kept (row := some g) ⟨rfl, rfl, rfl, by simp, fun b _ hb => Below.heap_setCell _ _ _ b (fun e => hb (by rw [e]))⟩ (by
    cases hv : v.ownBlock with
    | none => exact .inl rfl
    | some j => exact .inr (fun e => hp j hv (Option.some.inj e)))
def threeS (a b c : ByteArray) : Nat → ByteArray := fun j => if j = 0 then a else if j = 1 then b else c
def threeN (a b c : Nat) : Nat → Nat := fun j => if j = 0 then a else if j = 1 then b else c
abbrev keysC (a b c : Value) : Array Value := #[a, b, c]

set_option maxRecDepth 20000 in
set_option maxHeartbeats 2000000 in
theorem of_any (q : SL) (w : World) (hq : q.Ok w) (hl : q.len = 32) :
    Calls Tryz.prog 69 #[.slice q.a q.len q.cap] w fun e w' => ∃ g0 g1 g2, e = .returned (.tuple #[.agg (keysC (own1 g0 32) (own1 g1 12) (own1 g2 32)), .int .i64 0]) ∧
      w'.ownsRow w.heap.size 5 1 (own1 g0 32) 32 (vb (lab q.b keyT 32)) ∧ w'.ownsRow w.heap.size 5 1 (own1 g1 12) 12 (vb (lab q.b ivT 12)) ∧ w'.ownsRow w.heap.size 5 1 (own1 g2 32) 32 (vb (lab q.b hpT 32)) ∧ g0 < g1 ∧ g1 < g2 ∧ Below w.heap.size w w' := by
  have HQ := veil hq
  have HL := veil hl
  clear hq hl
  go_enter Tryz.func69, Tryz.ntmps69
  go_wp2_with fail
  obtain ⟨W1, hW1⟩ : ∃ W, W = (w.alloc (.cells (keysC (.slice none 0 0) (.slice none 0 0) (.slice none 0 0)) 27)) := ⟨_, rfl⟩
  have hs1 : W1.heap.size = w.heap.size + 1 := by rw [hW1]; simp
  have b1 : Below w.heap.size w W1 := by rw [hW1]; exact (Below.refl _ w).alloc (Nat.le_refl _) _
  have r1 : Row W1 w.heap.size 27 (keysC (.slice none 0 0) (.slice none 0 0) (.slice none 0 0)) := by rw [hW1]; exact Row.new _ _ _
  show Calls _ _ _ (((w.alloc (.cells (keysC (.slice none 0 0) (.slice none 0 0) (.slice none 0 0)) 27))).alloc (.cells #[.string keyT, .int .i64 32, .string ivT, .int .i64 12, .string hpT, .int .i64 32] 172)) _
  rw [← hW1]
  have r2 : Row (W1.alloc (.cells #[.string keyT, .int .i64 32, .string ivT, .int .i64 12, .string hpT, .int .i64 32] 172)) (w.heap.size + 1) 172 #[.string keyT, .int .i64 32, .string ivT, .int .i64 12, .string hpT, .int .i64 32] := by rw [← hs1]; exact Row.new _ _ _
  have r1' := r1.alloc (.cells #[.string keyT, .int .i64 32, .string ivT, .int .i64 12, .string hpT, .int .i64 32] 172)
  have b2 := b1.alloc b1.size (.cells #[.string keyT, .int .i64 32, .string ivT, .int .i64 12, .string hpT, .int .i64 32] 172)
  have hs2 : (W1.alloc (.cells #[.string keyT, .int .i64 32, .string ivT, .int .i64 12, .string hpT, .int .i64 32] 172)).heap.size = w.heap.size + 2 := by simp; omega
  generalize W1.alloc (.cells #[.string keyT, .int .i64 32, .string ivT, .int .i64 12, .string hpT, .int .i64 32] 172) = W2 at *
  refine (parts_any q W2 (HQ.out.below b2) HL.out (w.heap.size + 1) 3 3 (threeS keyT ivT hpT) (threeN 32 12 32) (by omega) (by decide) ?_ ?_ ?_ ?_).mono ?_
  · intro j hj
    rcases (show j = 0 ∨ j = 1 ∨ j = 2 by omega) with rfl | rfl | rfl
    · exact r2.cell 0
    · exact r2.cell 2
    · exact r2.cell 4
  · intro j hj
    rcases (show j = 0 ∨ j = 1 ∨ j = 2 by omega) with rfl | rfl | rfl
    · exact r2.cell 1
    · exact r2.cell 3
    · exact r2.cell 5
  · intro j hj
    rcases (show j = 0 ∨ j = 1 ∨ j = 2 by omega) with rfl | rfl | rfl <;> decide
  · intro j hj
    rcases (show j = 0 ∨ j = 1 ∨ j = 2 by omega) with rfl | rfl | rfl <;> decide
  rintro e3 w3 ⟨v, gs, rfl, hM⟩
  have hg0 : w3.ownsRow W2.heap.size 5 1 (own1 (gs 0) 32) 32 (vb (lab q.b keyT 32)) := hM.rows 0 (by decide)
  have hg1 : w3.ownsRow W2.heap.size 5 1 (own1 (gs 1) 12) 12 (vb (lab q.b ivT 12)) := hM.rows 1 (by decide)
  have hg2 : w3.ownsRow W2.heap.size 5 1 (own1 (gs 2) 32) 32 (vb (lab q.b hpT 32)) := hM.rows 2 (by decide)
  have hu1 := hM.up 0 1 (by decide) (by decide)
  have hu2 := hM.up 1 2 (by decide) (by decide)
  have b3 := b2.trans (hM.bel.mono b2.size)
  have r3 := r1'.below hM.bel r1'.lt
  obtain ⟨gm, cm, rfl, hgm, hgm2, hcells⟩ := own_slice hM.own (by decide)
  have c0 : w3.cell? ⟨gm, 0, none⟩ = some (own1 (gs 0) 32) := hcells 0 _ (madeL_get gs (threeN 32 12 32) 3 0 (by decide))
  have c1 : w3.cell? ⟨gm, 1, none⟩ = some (own1 (gs 1) 12) := hcells 1 _ (madeL_get gs (threeN 32 12 32) 3 1 (by decide))
  have c2 : w3.cell? ⟨gm, 2, none⟩ = some (own1 (gs 2) 32) := hcells 2 _ (madeL_get gs (threeN 32 12 32) 3 2 (by decide))
  generalize gs 0 = g0 at *
  generalize gs 1 = g1 at *
  generalize gs 2 = g2 at *
  have H0 := veil hg0
  have H1 := veil hg1
  have H2 := veil hg2
  have HU1 := veil hu1
  have HU2 := veil hu2
  have HB3 := veil b3
  have HR3 := veil r3
  have hz1 := hs1
  have hz2 := hs2
  have HS2 := veil hs2
  have HGM := veil hgm2
  clear hg0 hg1 hg2 hu1 hu2 b3 r3 hM hcells hgm hgm2 r1' r1 b1 b2 r2 hs1 hs2 hW1 hz1 hz2 HQ HL
  go_wp2_with fail
  have d0 : w3.cell? ⟨w.heap.size, 0, none⟩ = some (.slice none 0 0) := HR3.out.cell 0
  have d1 : w3.cell? ⟨w.heap.size, 1, none⟩ = some (.slice none 0 0) := HR3.out.cell 1
  have d2 : w3.cell? ⟨w.heap.size, 2, none⟩ = some (.slice none 0 0) := HR3.out.cell 2
  have f0 := HR3.out.frozen 0
  have f1 := HR3.out.frozen 1
  have f2 := HR3.out.frozen 2
  have hgn : gm ≠ w.heap.size := by have := HGM.out; have := HS2.out; omega
  have hgn2 : w.heap.size ≠ gm := fun e => hgn e.symm
  go_region_held3 (fun w' => w'.cell? ⟨gm, 0, none⟩ = some (own1 g0 32) ∧ w'.cell? ⟨gm, 1, none⟩ = some (own1 g1 12) ∧ w'.cell? ⟨gm, 2, none⟩ = some (own1 g2 32)) (first | go_keep | exact ⟨c0, c1, c2⟩) (fail)
  have rk : Row (((w3.setCell ⟨w.heap.size, 0, none⟩ (own1 g0 32)).setCell ⟨w.heap.size, 1, none⟩ (own1 g1 12)).setCell ⟨w.heap.size, 2, none⟩ (own1 g2 32)).drew w.heap.size 27 (keysC (own1 g0 32) (own1 g1 12) (own1 g2 32)) := (((HR3.out.set 0 (own1 g0 32)).set 1 (own1 g1 12)).set 2 (own1 g2 32)).drew
  have b4 : Below w.heap.size w (((w3.setCell ⟨w.heap.size, 0, none⟩ (own1 g0 32)).setCell ⟨w.heap.size, 1, none⟩ (own1 g1 12)).setCell ⟨w.heap.size, 2, none⟩ (own1 g2 32)).drew := (((HB3.out.setCell (p := ⟨w.heap.size, 0, none⟩) (Nat.le_refl _) _).setCell (p := ⟨w.heap.size, 1, none⟩) (Nat.le_refl _) _).setCell (p := ⟨w.heap.size, 2, none⟩) (Nat.le_refl _) _).drew
  have hs2 := HS2.out
  have k0 : ∀ (g n : Nat) (b : List By), w3.ownsRow W2.heap.size 5 1 (own1 g n) n (vb b) → (((w3.setCell ⟨w.heap.size, 0, none⟩ (own1 g0 32)).setCell ⟨w.heap.size, 1, none⟩ (own1 g1 12)).setCell ⟨w.heap.size, 2, none⟩ (own1 g2 32)).drew.ownsRow w.heap.size 5 1 (own1 g n) n (vb b) := fun g n b h => by
    have hp : ∀ j, (own1 g n).ownBlock = some j → j ≠ w.heap.size := fun j e => by have := (h.lt j e).1; omega
    exact (own_setCell (own_setCell (own_setCell (own_low h (show w.heap.size ≤ W2.heap.size by omega)) _ 0 hp _) _ 1 hp _) _ 2 hp _).drew
  have o0 := k0 _ _ _ H0.out
  have o1 := k0 _ _ _ H1.out
  have o2 := k0 _ _ _ H2.out
  clear k0
  have RK := veil rk
  have B4 := veil b4
  have O0 := veil o0
  have O1 := veil o1
  have O2 := veil o2
  clear rk b4 o0 o1 o2 d0 d1 d2 f0 f1 f2 c0 c1 c2
  go_wp2_with fail
  refine bodyPost_ret (result_keys rfl _ _ w.heap.size _ _ RK.out 3 _ (.int .i64 0) rfl rfl Tryz.underlying27 (by kernel_rfl) rfl) rfl ⟨g0, g1, g2, rfl, O0.out, O1.out, O2.out, HU1.out, HU2.out, B4.out⟩

end Go.Proofs.YtbheoldakmcppaaGreatDoor
