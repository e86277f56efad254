/-
  What SameBytes answers of any two slices.
-/
import Derived.Test.YtlicflmpakkccaaGreatDoorGv18
import Derived.BigRegion
import Derived.Test.YtlicflmpakkccaaGreatDoorGvKyBook
import Derived.Test.YtlicflmpakkccaaGreatDoorGv6
namespace Go.Proofs.YtlicflmpakkccaaGreatDoor
open Go Go.RowKit

set_option maxRecDepth 20000 in
set_option maxHeartbeats 1000000 in
theorem same_bool (p q : SL) (w : World) (hp : p.Ok w) (hq : q.Ok w) (hl : p.len ≤ 8388608) (hl2 : q.len ≤ 9223372036854775807) :
    Calls Tryz.prog 10 #[.slice p.a p.len p.cap, .slice q.a q.len q.cap] w fun e w' => e = .returned (.bool (decide (p.b = q.b))) ∧ Below w.heap.size w w' := by
  have HP := veil hp
  have HQ := veil hq
  clear hp hq
  by_cases hpq : p.len = q.len
  · obtain ⟨pa, pl, pc, pg, po, pb⟩ := p
    obtain ⟨qa, ql, qc, qg, qo, qb⟩ := q
    simp only at hpq hl ⊢
    subst hpq
    have h1 : ((pl : Int) != (pl : Int)) = false := by simp
    go_enter Tryz.func10, Tryz.ntmps10
    go_wp2
    go_loopw [5] (fun i wr => ∃ k : Nat, k ≤ pl ∧ i = .int .i64 k ∧ (∀ j, j < k → gb pb j = gb qb j) ∧ Below w.heap.size w wr)
      (fun i _ => pl - (intOf i).toNat)
    case atStart => exact ⟨0, Nat.zero_le _, rfl, (fun j h => absurd h (Nat.not_lt_zero _)), Below.refl _ _⟩
    case round =>
      obtain ⟨k, hk, rfl, hJ, hbel⟩ := hrel
      have HJ := veil hJ
      clear hJ
      by_cases hlt : k < pl
      · have ha := HP.out.at_ (show 0 < pl by omega)
        have hb := HQ.out.at_ (show 0 < pl by omega)
        simp only at ha hb
        subst ha hb
        have hca := (HP.out.below hbel).cell k hlt
        have hcb := (HQ.out.below hbel).cell k hlt
        simp only at hca hcb
        have HBEL := veil hbel
        clear hbel
        by_cases he : gb pb k = gb qb k
        · have hne : (v8 (gb pb k) != v8 (gb qb k)) = false := by rw [he]; simp
          have hca2 : wr.drew.cell? ⟨pg, po + k, none⟩ = some (.int .u8 (v8 (gb pb k))) := hca
          have hcb2 : wr.drew.cell? ⟨qg, qo + k, none⟩ = some (.int .u8 (v8 (gb qb k))) := hcb
          have HJ2 := veil (show ∀ j, j < k + 1 → gb pb j = gb qb j from fun j hj => by
            rcases Nat.lt_or_ge j k with c | c
            · exact HJ.out j c
            · rw [show j = k by omega]; exact he)
          clear he
          generalize v8 (gb pb k) = x at *
          generalize v8 (gb qb k) = y at *
          go_wp2_with fail
          go_region
          all_goals go_wp2
          all_goals
            go_roundw
            case rel => exact ⟨k + 1, by omega, by go_num, HJ2.out, HBEL.out.drew⟩
            case measure => simp [intOf]; omega
        · have hne : (v8 (gb pb k) != v8 (gb qb k)) = true := by
            simp
            exact fun e => he (v8_inj e)
          have HD := veil (show decide (pb = qb) = false from decide_eq_false (fun e => he (by rw [e])))
          clear he
          generalize v8 (gb pb k) = x at *
          generalize v8 (gb qb k) = y at *
          go_wp2_with fail
          go_region
          all_goals go_wp2
          all_goals
            go_ret
            exact ⟨by rw [HD.out]; rfl, HBEL.out.drew⟩
      · obtain rfl : k = pl := by omega
        have HD := veil (show decide (pb = qb) = true from decide_eq_true (by
          have l1 := HP.out.hb
          have l2 := HQ.out.hb
          simp only at l1 l2
          apply List.ext_getElem?
          intro j
          rcases Nat.lt_or_ge j k with c | c
          · have := HJ.out j c
            unfold gb at this
            rw [List.getElem?_eq_getElem (by omega), List.getElem?_eq_getElem (by omega)] at this ⊢
            exact congrArg some this
          · rw [List.getElem?_eq_none (by omega), List.getElem?_eq_none (by omega)]))
        clear hlt hk
        go_wp2_with fail
        go_ret
        exact ⟨by rw [HD.out]; rfl, hbel⟩
  · have h1 : ((p.len : Int) != (q.len : Int)) = true := by simp; omega
    have HD := veil (show decide (p.b = q.b) = false from decide_eq_false (fun e => hpq (by rw [← HP.out.hb, ← HQ.out.hb, e])))
    clear hpq
    go_enter Tryz.func10, Tryz.ntmps10
    go_wp2
    go_ret
    exact ⟨by rw [HD.out]; rfl, Below.refl _ _⟩

theorem same_yesK (p q : SL) (w : World) (hp : p.Ok w) (hq : q.Ok w) (hl : p.len ≤ 8388608) (hb : p.b = q.b) :
    Calls Tryz.prog 10 #[.slice p.a p.len p.cap, .slice q.a q.len q.cap] w fun e w' => e = .returned (.bool true) ∧ Below w.heap.size w w' := by
  have h := same_bool p q w hp hq hl (by rw [← hq.hb, ← hb, hp.hb]; omega)
  rw [decide_eq_true hb] at h
  exact h
end Go.Proofs.YtlicflmpakkccaaGreatDoor

/-! A Book that is told one list of bytes after another; api.Keys told and held against others. -/
namespace Go.Proofs.YtlicflmpakkccaaGreatDoor
open Go Go.RowKit

abbrev LV := List (Value × Nat)
def eL (L : LV) : Nat → Value := fun i => (L.getD i (.slice none 0 0, 0)).1
def nL (L : LV) : Nat → Nat := fun i => (L.getD i (.slice none 0 0, 0)).2
theorem eL_snoc (L : LV) (l : Value) (n : Nat) : eL (L ++ [(l, n)]) = upd (eL L) L.length l := by
  funext i
  unfold upd eL
  simp only [List.getD_eq_getElem?_getD]
  by_cases h : i = L.length
  · subst h; simp
  · rw [if_neg h]
    rcases Nat.lt_or_gt_of_ne h with q | q
    · rw [List.getElem?_append_left q]
    · rw [List.getElem?_eq_none (by simp; omega), List.getElem?_eq_none (by omega)]
theorem nL_snoc (L : LV) (l : Value) (n : Nat) : nL (L ++ [(l, n)]) = upd (nL L) L.length n := by
  funext i
  unfold upd nL
  simp only [List.getD_eq_getElem?_getD]
  by_cases h : i = L.length
  · subst h; simp
  · rw [if_neg h]
    rcases Nat.lt_or_gt_of_ne h with q | q
    · rw [List.getElem?_append_left q]
    · rw [List.getElem?_eq_none (by simp; omega), List.getElem?_eq_none (by omega)]
theorem eL_mem (L : LV) (i : Nat) (h : i < L.length) : ∃ p ∈ L, eL L i = p.1 ∧ nL L i = p.2 := by
  refine ⟨L[i], List.getElem_mem h, ?_, ?_⟩
  · unfold eL; simp [List.getD_eq_getElem?_getD, h]
  · unfold nL; simp [List.getD_eq_getElem?_getD, h]
/-- A book that was told these lists; its entries do not lie in block k. -/
def KBX (S B : Nat) (w0 : World) (L : LV) (k : Nat) (W : World) : Prop := ∃ V X, Bk S B L.length L.length V (eL L) (nL L) X w0 W ∧ V.ownBlock ≠ some k
/-- A book that was told these lists. -/
def KB (S B : Nat) (w0 : World) (L : LV) (W : World) : Prop := ∃ V X, Bk S B L.length L.length V (eL L) (nL L) X w0 W
theorem Holds.refl (S B : Nat) (W : World) : Holds S B W W := fun _ _ _ h _ => h
theorem Holds.trans {S B : Nat} {A C D : World} (h : Holds S B A C) (k : Holds S B C D) : Holds S B A D := fun v n xs h1 h2 => k v n xs (h v n xs h1 h2) h2
theorem Holds.alloc (S B : Nat) (W : World) (o : Obj) : Holds S B W (W.alloc o) := fun _ _ _ h _ => h.alloc o
def bookZ : Array Value := #[.int .i64 0, .slice none 0 0, .slice none 0 0, .slice none 0 0, .slice none 0 0, .slice none 0 0, .slice none 0 0, .slice none 0 0, .slice none 0 0, .slice none 0 0, .slice none 0 0, .slice none 0 0, .slice none 0 0]
theorem KB.new (S : Nat) (w0 W : World) (hS : S ≤ W.heap.size) (hb : Below S w0 W) (t : TypeId) : KB S W.heap.size w0 [] (W.alloc (.cells bookZ t)) :=
  ⟨_, fun _ => [], Bk.new S _ _ _ w0 W hS hb t⟩
theorem KBX.kb {S B k : Nat} {w0 W : World} {L : LV} (h : KBX S B w0 L k W) : KB S B w0 L W := by
  obtain ⟨V, X, bk, _⟩ := h
  exact ⟨V, X, bk⟩
/-- A new block. -/
theorem KB.box {S B : Nat} {w0 W : World} {L : LV} (kb : KB S B w0 L W) (o : Obj) : KBX S B w0 L W.heap.size (W.alloc o) := by
  obtain ⟨V, X, bk⟩ := kb
  have hg := World.grownBy_alloc W o none
  refine ⟨V, X, ⟨bk.SB, by have := bk.bB; simp; omega, hg.cell bk.n (fun e => by cases e), hg.cell bk.b (fun e => by cases e), fun j h1 h2 => hg.cell (bk.em j h1 h2) (fun e => by cases e), fun j => (World.frozen?_of_block (w := W) (a := ⟨B, j, none⟩) (hg.block B bk.bB (fun e => by cases e))).trans (bk.fz j), bk.ent.alloc o, bk.vB, bk.eB, bk.ee, fun i hi => (bk.rows i hi).alloc o, bk.below.alloc (by have := bk.SB; have := bk.bB; omega) o⟩, fun e => ?_⟩
  have := (bk.ent.lt _ e).2
  omega
/-- One list more. -/
theorem KBX.tell {S B k : Nat} {w0 W : World} {L : LV} (kb : KBX S B w0 L k W) (hk : k < W.heap.size) (hkB : k ≠ B) (l : Value) (nl : Nat) (xl : List Value) (hm : L.length ≤ 1000) (hl : RowW W S 5 1 l nl xl) (hlB : ∀ k, l.ownBlock = some k → k < B) (hle : ∀ p ∈ L, p.1.ownBlock = none ∨ p.1.ownBlock ≠ l.ownBlock) :
    Calls Tryz.prog 12 #[.pointer (some ⟨B, 0, none⟩), l] W fun e w' => e = .returned (.tuple #[]) ∧ KBX S B w0 (L ++ [(l, nl)]) k w' ∧ Holds S B W w' ∧ w'.heap[k]? = W.heap[k]? := by
  obtain ⟨V, X, bk, hV⟩ := kb
  refine (bytes_any S B L.length V (eL L) (nL L) X w0 W l nl xl hm bk hl hlB (fun i hi => ?_)).mono ?_
  · obtain ⟨p, hp, e, _⟩ := eL_mem L i hi
    rw [e]
    exact hle p hp
  · rintro e w' ⟨rfl, V', bk', hh, ha⟩
    refine ⟨rfl, ⟨V', upd X L.length xl, ?_, (ha k hk hkB hV).2⟩, hh, (ha k hk hkB hV).1⟩
    rw [eL_snoc, nL_snoc, List.length_append]
    exact bk'
theorem KB.tell {S B : Nat} {w0 W : World} {L : LV} (kb : KB S B w0 L W) (l : Value) (nl : Nat) (xl : List Value) (hm : L.length ≤ 1000) (hl : RowW W S 5 1 l nl xl) (hlB : ∀ k, l.ownBlock = some k → k < B) (hle : ∀ p ∈ L, p.1.ownBlock = none ∨ p.1.ownBlock ≠ l.ownBlock) :
    Calls Tryz.prog 12 #[.pointer (some ⟨B, 0, none⟩), l] W fun e w' => e = .returned (.tuple #[]) ∧ KB S B w0 (L ++ [(l, nl)]) w' ∧ Holds S B W w' := by
  obtain ⟨V, X, bk⟩ := kb
  refine (bytes_any S B L.length V (eL L) (nL L) X w0 W l nl xl hm bk hl hlB (fun i hi => ?_)).mono ?_
  · obtain ⟨p, hp, e, _⟩ := eL_mem L i hi
    rw [e]
    exact hle p hp
  · rintro e w' ⟨rfl, V', bk', hh, _⟩
    refine ⟨rfl, ⟨V', upd X L.length xl, ?_⟩, hh⟩
    rw [eL_snoc, nL_snoc, List.length_append]
    exact bk'
theorem KB.apart {S B : Nat} {w0 W : World} {L : LV} (kb : KB S B w0 L W) (h0 : 0 < L.length) (hm : L.length ≤ 1000) (hN : ∀ p ∈ L, p.2 ≤ 140737488351240) :
    Calls Tryz.prog 13 #[.pointer (some ⟨B, 0, none⟩)] W fun e w' => e = .returned (.bool true) ∧ Below S w0 w' := by
  obtain ⟨V, X, bk⟩ := kb
  exact apart_book S B L.length V (eL L) (nL L) X w0 W h0 hm (fun i hi => by
    obtain ⟨p, hp, _, e⟩ := eL_mem L i hi
    rw [e]
    exact hN p hp) bk
theorem KB.bel {S B : Nat} {w0 W : World} {L : LV} (kb : KB S B w0 L W) : Below S w0 W ∧ B < W.heap.size ∧ S ≤ B := by
  obtain ⟨V, X, bk⟩ := kb
  exact ⟨bk.below, bk.bB, bk.SB⟩

set_option maxRecDepth 20000 in
set_option maxHeartbeats 2000000 in
theorem sameKeys_yes (x y z a b c : SL) (w : World) (hx : x.Ok w) (hy : y.Ok w) (hz : z.Ok w) (ha : a.Ok w) (hb : b.Ok w) (hc : c.Ok w) (ex : x.b = a.b) (ey : y.b = b.b) (ez : z.b = c.b) (lx : x.len ≤ 8388608) (ly : y.len ≤ 8388608) (lz : z.len ≤ 8388608) :
    Calls Tryz.prog 18 #[.agg (keysC (.slice x.a x.len x.cap) (.slice y.a y.len y.cap) (.slice z.a z.len z.cap)), .agg (keysC (.slice a.a a.len a.cap) (.slice b.a b.len b.cap) (.slice c.a c.len c.cap))] w fun e w' => e = .returned (.bool true) ∧ Below w.heap.size w w' := by
  obtain ⟨W0, hW0⟩ : ∃ W, W = (w.alloc (.cells (keysC (.slice x.a x.len x.cap) (.slice y.a y.len y.cap) (.slice z.a z.len z.cap)) 46)).alloc (.cells (keysC (.slice a.a a.len a.cap) (.slice b.a b.len b.cap) (.slice c.a c.len c.cap)) 46) := ⟨_, rfl⟩
  have b0 : Below w.heap.size w W0 := by rw [hW0]; exact ((Below.refl _ w).alloc (Nat.le_refl _) _).alloc (by simp) _
  have r0 : Row W0 w.heap.size 46 (keysC (.slice x.a x.len x.cap) (.slice y.a y.len y.cap) (.slice z.a z.len z.cap)) := by rw [hW0]; exact (Row.new _ _ _).alloc _
  have r1 : Row W0 (w.heap.size + 1) 46 (keysC (.slice a.a a.len a.cap) (.slice b.a b.len b.cap) (.slice c.a c.len c.cap)) := by rw [hW0]; exact Row.new1 _ _ _ _
  have H1 : Hid (∀ W, Below W0.heap.size W0 W → Calls Tryz.prog 10 #[.slice x.a x.len x.cap, .slice a.a a.len a.cap] W fun e w' => e = .returned (.bool true) ∧ Below W.heap.size W w') := fun W hW => same_yesK x a W ((hx.below b0).below hW) ((ha.below b0).below hW) lx ex
  have H2 : Hid (∀ W, Below W0.heap.size W0 W → Calls Tryz.prog 10 #[.slice y.a y.len y.cap, .slice b.a b.len b.cap] W fun e w' => e = .returned (.bool true) ∧ Below W.heap.size W w') := fun W hW => same_yesK y b W ((hy.below b0).below hW) ((hb.below b0).below hW) ly ey
  have H3 : Hid (∀ W, Below W0.heap.size W0 W → Calls Tryz.prog 10 #[.slice z.a z.len z.cap, .slice c.a c.len c.cap] W fun e w' => e = .returned (.bool true) ∧ Below W.heap.size W w') := fun W hW => same_yesK z c W ((hz.below b0).below hW) ((hc.below b0).below hW) lz ez
  have B0 := veil b0
  have R0 := veil r0
  have R1 := veil r1
  clear b0 r0 r1 hx hy hz ha hb hc ex ey ez lx ly lz
  go_enter Tryz.func18, Tryz.ntmps18
  go_wp2_with fail
  show Calls _ _ _ ((w.alloc (.cells (keysC (.slice x.a x.len x.cap) (.slice y.a y.len y.cap) (.slice z.a z.len z.cap)) 46)).alloc (.cells (keysC (.slice a.a a.len a.cap) (.slice b.a b.len b.cap) (.slice c.a c.len c.cap)) 46)) _
  rw [← hW0]
  clear hW0
  refine (H1.out W0 (Below.refl _ _)).mono ?_
  rintro e1 w1 ⟨rfl, hb1⟩
  have D1 := veil hb1
  have c1 : w1.cell? ⟨w.heap.size, 1, none⟩ = some (.slice y.a y.len y.cap) := (R0.out.below hb1 R0.out.lt).cell 1
  have c2 : w1.cell? ⟨w.heap.size + 1, 1, none⟩ = some (.slice b.a b.len b.cap) := (R1.out.below hb1 R1.out.lt).cell 1
  clear hb1
  go_wp2_with fail
  refine (H2.out w1 D1.out).mono ?_
  rintro e2 w2 ⟨rfl, hb2⟩
  have D2 := veil (D1.out.trans (hb2.mono D1.out.size))
  clear c1 c2 hb2 D1
  have c1 : w2.cell? ⟨w.heap.size, 2, none⟩ = some (.slice z.a z.len z.cap) := (R0.out.below D2.out R0.out.lt).cell 2
  have c2 : w2.cell? ⟨w.heap.size + 1, 2, none⟩ = some (.slice c.a c.len c.cap) := (R1.out.below D2.out R1.out.lt).cell 2
  go_wp2_with fail
  refine (H3.out w2 D2.out).mono ?_
  rintro e3 w3 ⟨rfl, hb3⟩
  have D3 := veil (B0.out.trans ((D2.out.trans (hb3.mono D2.out.size)).mono B0.out.size))
  clear c1 c2 hb3 D2
  go_wp2_with fail
  go_ret
  exact ⟨rfl, D3.out⟩

set_option maxRecDepth 20000 in
set_option maxHeartbeats 2000000 in
theorem KB.keys {S B : Nat} {w0 W : World} {L : LV} (kb : KB S B w0 L W) (x y z : Value) (nx ny nz : Nat) (lx ly lz : List Value) (hm : L.length ≤ 900) (hx : RowW W S 5 1 x nx lx) (hy : RowW W S 5 1 y ny ly) (hz : RowW W S 5 1 z nz lz)
    (hxB : ∀ k, x.ownBlock = some k → k < B) (hyB : ∀ k, y.ownBlock = some k → k < B) (hzB : ∀ k, z.ownBlock = some k → k < B)
    (apx : ∀ p ∈ L, p.1.ownBlock = none ∨ p.1.ownBlock ≠ x.ownBlock) (apy : ∀ p ∈ L, p.1.ownBlock = none ∨ p.1.ownBlock ≠ y.ownBlock) (apz : ∀ p ∈ L, p.1.ownBlock = none ∨ p.1.ownBlock ≠ z.ownBlock)
    (xy : x.ownBlock = none ∨ x.ownBlock ≠ y.ownBlock) (xz : x.ownBlock = none ∨ x.ownBlock ≠ z.ownBlock) (yz : y.ownBlock = none ∨ y.ownBlock ≠ z.ownBlock) :
    Calls Tryz.prog 19 #[.pointer (some ⟨B, 0, none⟩), .agg (keysC x y z)] W fun e w' => e = .returned (.tuple #[]) ∧ KB S B w0 (((L ++ [(x, nx)]) ++ [(y, ny)]) ++ [(z, nz)]) w' ∧ Holds S B W w' := by
  obtain ⟨hbel, hBW, hSB⟩ := kb.bel
  have kx := kb.box (.cells (keysC x y z) 46)
  have r0 : Row (W.alloc (.cells (keysC x y z) 46)) W.heap.size 46 (keysC x y z) := Row.new _ _ _
  have h0 : Holds S B W (W.alloc (.cells (keysC x y z) 46)) := Holds.alloc S B W _
  have hkn : W.heap.size ≠ B := by omega
  have hsz : W.heap.size < (W.alloc (.cells (keysC x y z) 46)).heap.size := by simp
  have X0 := veil hx
  have Y0 := veil hy
  have Z0 := veil hz
  have KX := veil kx
  have R0 := veil r0
  have H0 := veil h0
  have hApy : Hid (∀ p ∈ L ++ [(x, nx)], p.1.ownBlock = none ∨ p.1.ownBlock ≠ y.ownBlock) := fun p hp => by
    rcases List.mem_append.1 hp with h | h
    · exact apy p h
    · obtain rfl : p = (x, nx) := by simpa using h
      exact xy
  have hApz : Hid (∀ p ∈ (L ++ [(x, nx)]) ++ [(y, ny)], p.1.ownBlock = none ∨ p.1.ownBlock ≠ z.ownBlock) := fun p hp => by
    rcases List.mem_append.1 hp with h | h
    · rcases List.mem_append.1 h with h | h
      · exact apz p h
      · obtain rfl : p = (x, nx) := by simpa using h
        exact xz
    · obtain rfl : p = (y, ny) := by simpa using h
      exact yz
  have APX := veil apx
  have BX := veil hxB
  have BY := veil hyB
  have BZ := veil hzB
  have HSZ := veil hsz
  have HKN := veil hkn
  have HM := veil hm
  obtain ⟨W1, hW1⟩ : ∃ W1, W1 = W.alloc (.cells (keysC x y z) 46) := ⟨_, rfl⟩
  rw [← hW1] at KX R0 H0 HSZ
  clear hx hy hz kx r0 h0 apx apy apz xy xz yz hxB hyB hzB hsz hkn kb hm hBW hSB hbel
  have c0 : W1.cell? ⟨W.heap.size, 0, none⟩ = some x := R0.out.cell 0
  rw [hW1] at c0
  go_enter Tryz.func19, Tryz.ntmps19
  go_wp2_with fail
  show Calls _ _ _ (W.alloc (.cells (keysC x y z) 46)) _
  rw [← hW1]
  rw [← hW1] at c0
  clear hW1 c0
  refine (KX.out.tell HSZ.out HKN.out x nx lx (by have := HM.out; omega) (H0.out _ _ _ X0.out BX.out) BX.out APX.out).mono ?_
  rintro e2 w2 ⟨rfl, kx2, hh2, hk2⟩
  have R2 : Row w2 W.heap.size 46 (keysC x y z) := hk2.trans R0.out
  have c1 : w2.cell? ⟨W.heap.size, 1, none⟩ = some y := R2.cell 1
  have H2 := veil (H0.out.trans hh2)
  have KX2 := veil kx2
  have RR2 := veil R2
  clear kx2 hh2 hk2 R2
  go_wp2_with fail
  refine (KX2.out.tell RR2.out.lt HKN.out y ny ly (by have := HM.out; simp; omega) (H2.out _ _ _ Y0.out BY.out) BY.out hApy.out).mono ?_
  rintro e3 w3 ⟨rfl, kx3, hh3, hk3⟩
  have R3 : Row w3 W.heap.size 46 (keysC x y z) := hk3.trans RR2.out
  have c2 : w3.cell? ⟨W.heap.size, 2, none⟩ = some z := R3.cell 2
  have H3 := veil (H2.out.trans hh3)
  have KX3 := veil kx3
  have RR3 := veil R3
  clear kx3 hh3 hk3 R3 c1
  go_wp2_with fail
  refine (KX3.out.tell RR3.out.lt HKN.out z nz lz (by have := HM.out; simp; omega) (H3.out _ _ _ Z0.out BZ.out) BZ.out hApz.out).mono ?_
  rintro e4 w4 ⟨rfl, kx4, hh4, hk4⟩
  have H4 := veil (H3.out.trans hh4)
  have KX4 := veil kx4.kb
  clear kx4 hh4 hk4 c2
  go_wp2_with fail
  go_end0
  exact ⟨rfl, KX4.out, H4.out⟩
end Go.Proofs.YtlicflmpakkccaaGreatDoor
