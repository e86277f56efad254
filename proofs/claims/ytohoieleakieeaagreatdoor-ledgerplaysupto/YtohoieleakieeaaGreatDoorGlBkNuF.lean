/-
  A Book of several kinds: its lists of numbers. Written by mkbkn.py out of the texts for bytes.
-/
import Derived.Test.YtohoieleakieeaaGreatDoorGlBkRgA
import Derived.RangeFuncBox
import Derived.Deep.RegionHeld3
import Derived.Maps.AppendAt
import Derived.ArgAppend
import Derived.BigQuiet
import Derived.Deep.AppendLies
import Derived.Deep.RegionLaw
import Derived.BigRegion
namespace Go.Proofs.YtohoieleakieeaaGreatDoor.Bn
open Go Go.RowKit
open Go.Proofs.YtohoieleakieeaaGreatDoor.Bq (OwnB keep_grown keep_below own_keepP below_keepP Sep)

/-- The mark of the list with this place, as it is written. -/
def mark (n : Nat) : Value := .int .u64 (1000 + (n : Int))

set_option maxHeartbeats 400000 in
theorem mark_any (n : Int) (w : World) (h0 : 0 ≤ n) (h1 : n ≤ 5000000) :
    Calls Tryz.prog 98 #[.int .i64 n] w fun e w' => e = .returned (.int .u64 (1000 + n)) ∧ w' = w := by
  go_enter Tryz.func98, Tryz.ntmps98
  go_wp2
  go_ret
  exact ⟨rfl, rfl⟩

/-- The book holds m lists in block h; each owns its elements; old memory is as it was. -/
structure St (S B h m cap : Nat) (nu : Nat → Nat) (E : Nat → Value) (N : Nat → Nat) (Lg : Nat → Value) (X : Nat → List Value) (w0 W : World) : Prop where
  sS : S ≤ W.heap.size
  bB : B < W.heap.size
  bh : h < W.heap.size
  book : W.cell? ⟨B, 2, none⟩ = some (.slice (some ⟨h, 0, none⟩) m cap)
  l : ∀ i, i < m → W.cell? ⟨h, i * 3, none⟩ = some (E i)
  g : ∀ i, i < m → W.cell? ⟨h, i * 3 + 1, none⟩ = some (Lg i)
  n : ∀ i, i < m → W.cell? ⟨h, i * 3 + 2, none⟩ = some (.int .i64 (nu i : Int))
  fz : ∀ j, W.frozen? ⟨h, j, none⟩ = false
  rows : ∀ i, i < m → W.ownsRow S 23 1 (E i) (N i) (X i)
  below : Below S w0 W

theorem St.grown {S B h m cap : Nat} {nu : Nat → Nat} {E : Nat → Value} {N : Nat → Nat} {Lg : Nat → Value} {X : Nat → List Value} {w0 W W' : World} {row : Option Nat} (st : St S B h m cap nu E N Lg X w0 W) (hg : W.grownBy W' row)
    (hS : ∀ k, row = some k → S ≤ k) (hB : row ≠ some B) (hh : row ≠ some h) (he : ∀ i, i < m → (E i).ownBlock = none ∨ (E i).ownBlock ≠ row) : St S B h m cap nu E N Lg X w0 W' where
  sS := Nat.le_trans st.sS hg.size
  bB := Nat.lt_of_lt_of_le st.bB hg.size
  bh := Nat.lt_of_lt_of_le st.bh hg.size
  book := hg.cell st.book (fun e => hB e.symm)
  l := fun i hi => hg.cell (st.l i hi) (fun e => hh e.symm)
  g := fun i hi => hg.cell (st.g i hi) (fun e => hh e.symm)
  n := fun i hi => hg.cell (st.n i hi) (fun e => hh e.symm)
  fz := fun j => (World.frozen?_of_block (w := W) (a := ⟨h, j, none⟩) (hg.block h st.bh (fun e => hh e.symm))).trans (st.fz j)
  rows := fun i hi => (st.rows i hi).kept hg (he i hi)
  below := st.below.grown hg st.sS hS

theorem St.alloc {S B h m cap : Nat} {nu : Nat → Nat} {E : Nat → Value} {N : Nat → Nat} {Lg : Nat → Value} {X : Nat → List Value} {w0 W : World} (st : St S B h m cap nu E N Lg X w0 W) (o : Obj) : St S B h m cap nu E N Lg X w0 (W.alloc o) :=
  st.grown (World.grownBy_alloc W o none) (fun _ e => by cases e) (by simp) (by simp) (fun i _ => by
    by_cases h : (E i).ownBlock = none
    · exact .inl h
    · exact .inr h)

theorem St.drew {S B h m cap : Nat} {nu : Nat → Nat} {E : Nat → Value} {N : Nat → Nat} {Lg : Nat → Value} {X : Nat → List Value} {w0 W : World} (st : St S B h m cap nu E N Lg X w0 W) : St S B h m cap nu E N Lg X w0 W.drew :=
  ⟨st.sS, st.bB, st.bh, st.book, st.l, st.g, st.n, st.fz, st.rows, st.below.drew⟩

/-- One element of one list is written. -/
theorem St.store {S B h m cap : Nat} {nu : Nat → Nat} {E : Nat → Value} {N : Nat → Nat} {Lg : Nat → Value} {X : Nat → List Value} {w0 W : World} (st : St S B h m cap nu E N Lg X w0 W) (sep : Sep S B h m E) {i g c : Nat} (hi : i < m) (he : E i = .slice (some ⟨g, 0, none⟩) (N i) c) (k : Nat) (u : Value) :
    St S B h m cap nu E N Lg (fun j => if j = i then (X i).set k u else X j) w0 (W.setCell ⟨g, k, none⟩ u) := by
  have hob : (E i).ownBlock = some g := by rw [he]; rfl
  have hSg : S ≤ g := ((st.rows i hi).lt g hob).1
  have hgr : W.grownBy (W.setCell ⟨g, k, none⟩ u) (some g) := ⟨rfl, rfl, rfl, by simp, fun b _ hb => Below.heap_setCell _ _ _ b (fun e => hb (by rw [e]))⟩
  have hgB : some g ≠ some B := fun e => sep.eB i hi (hob.trans e)
  have hgh : some g ≠ some h := fun e => sep.eh i hi (hob.trans e)
  refine ⟨Nat.le_trans st.sS hgr.size, Nat.lt_of_lt_of_le st.bB hgr.size, Nat.lt_of_lt_of_le st.bh hgr.size, hgr.cell st.book (fun e => hgB e.symm), fun j hj => hgr.cell (st.l j hj) (fun e => hgh e.symm), fun j hj => hgr.cell (st.g j hj) (fun e => hgh e.symm), fun j hj => hgr.cell (st.n j hj) (fun e => hgh e.symm), fun j => (World.frozen?_of_block (w := W) (a := ⟨h, j, none⟩) (hgr.block h st.bh (fun e => hgh e.symm))).trans (st.fz j), fun j hj => ?_, st.below.setCell (p := ⟨g, k, none⟩) hSg u⟩
  by_cases hji : j = i
  · subst hji
    rw [if_pos rfl]
    have hr := st.rows j hj
    rw [he] at hr ⊢
    exact (hr.stored k u).1
  · rw [if_neg hji]
    refine (st.rows j hj).kept hgr ?_
    rcases sep.ee j i hj hi hji with h | h
    · exact .inl h
    · exact .inr (by rw [← hob]; exact h)

/-- What a value that owns a row looks like. -/
theorem bookOwn_shape {W : World} {S : Nat} {v : Value} {n : Nat} {xs : List Value} (h : W.ownsRow S 23 1 v n xs) : (v = .slice none 0 0 ∧ n = 0) ∨ ∃ g c, v = .slice (some ⟨g, 0, none⟩) n c ∧ n ≤ c := by
  rcases h.2 with ⟨h1, h2⟩ | ⟨g, c, _, h1, _, _, h2, _⟩
  · exact .inl ⟨h1, h2⟩
  · exact .inr ⟨g, c, h1, h2⟩

theorem set_step (xs : List Value) (k n : Nat) (u : Value) (hl : xs.length = n) (hk : k < n) (h : xs.take k = List.replicate k u) : (xs.set k u).take (k + 1) = List.replicate (k + 1) u := by
  have hk2 : k < (xs.set k u).length := by rw [List.length_set]; omega
  rw [List.take_succ_eq_append_getElem hk2, List.getElem_set_self, List.take_set_of_le (Nat.le_refl _), h, List.replicate_succ']

set_option maxHeartbeats 4000000 in
theorem fill_any (S B h m cap : Nat) (nu : Nat → Nat) (E : Nat → Value) (N : Nat → Nat) (Lg : Nat → Value) (X : Nat → List Value) (w0 wF : World) (hnu : ∀ i, i < m → nu i ≤ 5000000) (hm2 : m ≤ 3000000) (hN : ∀ i, i < m → N i ≤ 5000000) (hLg : ∀ i, i < m → Lg i = .slice none 0 0) (sep : Sep S B h m E) (st : St S B h m cap nu E N Lg X w0 wF) :
    Calls Tryz.prog 49 #[.pointer (some ⟨B, 0, none⟩)] wF fun e w' => e = .returned (.tuple #[]) ∧ St S B h m cap nu E N Lg (fun i => List.replicate (N i) (mark (nu i))) w0 w' ∧ KeepP (OwnB m E) wF w' := by
  have hc := st.book
  have HST := veil st
  clear st
  go_enter Tryz.func49, Tryz.ntmps49
  go_wp2
  go_loopw [2] (fun i wr => ∃ (k : Nat) (Y : Nat → List Value), k ≤ m ∧ i = .int .i64 k ∧ St S B h m cap nu E N Lg Y w0 wr ∧ (∀ j, j < k → Y j = List.replicate (N j) (mark (nu j))) ∧ KeepP (OwnB m E) wF wr) (fun i _ => m - (intOf i).toNat)
  case atStart => exact ⟨0, X, Nat.zero_le _, rfl, HST.out, fun j hj => absurd hj (Nat.not_lt_zero _), KeepP.refl _ _⟩
  case round =>
    obtain ⟨k, Y, hk, rfl, st, hY, hkp⟩ := hrel
    have HKP := veil hkp
    clear hkp
    have hcb := st.book
    by_cases hlt : k < m
    · have c0 := st.l k hlt
      have c1 := st.g k hlt
      have c2 := st.n k hlt
      have hNk := hN k hlt
      have hnk := hnu k hlt
      have HSR : Hid (St S B h m cap nu E N Lg Y w0 wr) := st
      have HY : Hid (∀ j, j < k → Y j = List.replicate (N j) (mark (nu j))) := hY
      rw [hLg k hlt] at c1
      have hlen := (st.rows k hlt).1
      rw [Nat.mul_one] at hlen
      have hbh := st.bh
      rcases bookOwn_shape (st.rows k hlt) with ⟨hv, hn⟩ | ⟨g, c, hv, hnc⟩
      · rw [hv] at c0
        clear st hY
        go_wp2
        refine wp_loop_rounds 1 ?_
        rw [rounds_succ]
        go_wp2
        go_roundw
        case rel =>
          refine ⟨k + 1, Y, by omega, by go_num, HSR.out.alloc _, fun j hj => ?_, keep_grown HKP.out (World.grownBy_alloc _ _ none) (fun b e => by cases e)⟩
          rcases Nat.lt_or_ge j k with h1 | h1
          · exact HY.out j h1
          · obtain rfl : j = k := by omega
            rw [hn, List.replicate_zero]
            exact List.eq_nil_of_length_eq_zero (by rw [hlen, hn])
        case measure => simp [intOf]; omega
      · rw [hv] at c0
        have hgl : g < wr.heap.size := ((st.rows k hlt).lt g (by rw [hv]; rfl)).2
        clear st hY
        go_wp2
        obtain ⟨wo, rfl⟩ : ∃ wo : World, wo = wr := ⟨_, rfl⟩
        have HA := HSR.out.alloc (.cells #[.slice (some ⟨g, 0, none⟩) (N k) c, .slice none 0 0, .int .i64 (nu k : Int)] 102)
        go_loopw [4] (fun i wq => ∃ (q : Nat) (Z : List Value), q ≤ N k ∧ i = .int .i64 q ∧ St S B h m cap nu E N Lg (fun j => if j = k then Z else Y j) w0 wq ∧ Z.length = N k ∧ Z.take q = List.replicate q (mark (nu k)) ∧ wq.cell? ⟨wo.heap.size, 0, none⟩ = some (.slice (some ⟨g, 0, none⟩) (N k) c) ∧ wq.cell? ⟨wo.heap.size, 2, none⟩ = some (.int .i64 (nu k : Int)) ∧ KeepP (OwnB m E) wF wq) (fun i _ => N k - (intOf i).toNat)
        case atStart =>
          refine ⟨0, Y k, Nat.zero_le _, rfl, ?_, hlen, rfl, by simp, by simp, keep_grown HKP.out (World.grownBy_alloc _ _ none) (fun b e => by cases e)⟩
          have e : (fun j => if j = k then Y k else Y j) = Y := by
            funext j
            by_cases hj : j = k
            · rw [if_pos hj, hj]
            · rw [if_neg hj]
          rw [e]
          exact HA
        case round =>
          obtain ⟨q, Z, hq, rfl, st2, hZl, hZ, hp0, hp2, hkp2⟩ := hrel
          have HKP2 := veil hkp2
          clear hkp2
          have HS2 : Hid (St S B h m cap nu E N Lg (fun j => if j = k then Z else Y j) w0 wr) := st2
          by_cases hqn : q < N k
          · have hrow := st2.rows k hlt
            simp only [if_true] at hrow
            rw [hv] at hrow
            have hcg : wr.cell? ⟨g, q, none⟩ = some (Z[q]'(by omega)) := by rw [hrow.cellAt q (by omega), List.getElem?_eq_getElem]
            have hfg := hrow.frozenAt q
            obtain ⟨old, hold⟩ : ∃ old, wr.cell? ⟨g, q, none⟩ = some old := ⟨_, hcg⟩
            have HZ : Hid (Z.take q = List.replicate q (mark (nu k))) := hZ
            have HZl : Hid (Z.length = N k) := hZl
            have i1 : (0 : Int) ≤ (q : Int) := by omega
            have i2 : (q : Int) < (N k : Int) := by omega
            have hk0 : ∀ u, (wr.setCell ⟨g, q, none⟩ u).cell? ⟨wo.heap.size, 0, none⟩ = some (.slice (some ⟨g, 0, none⟩) (N k) c) := fun u => (World.cell?_of_block (w := wr) (a := ⟨wo.heap.size, 0, none⟩) (Below.heap_setCell wr ⟨g, q, none⟩ u wo.heap.size (by show wo.heap.size ≠ g; omega))).trans hp0
            have hk2 : ∀ u, (wr.setCell ⟨g, q, none⟩ u).cell? ⟨wo.heap.size, 2, none⟩ = some (.int .i64 (nu k : Int)) := fun u => (World.cell?_of_block (w := wr) (a := ⟨wo.heap.size, 2, none⟩) (Below.heap_setCell wr ⟨g, q, none⟩ u wo.heap.size (by show wo.heap.size ≠ g; omega))).trans hp2
            clear st2 hrow hcg hZ hZl HA
            go_wp2
            go_region_held3 (fun w' => w'.cell? ⟨wo.heap.size, 0, none⟩ = some (.slice (some ⟨g, 0, none⟩) (N k) c) ∧ w'.cell? ⟨wo.heap.size, 2, none⟩ = some (.int .i64 (nu k : Int))) (first | go_keep | exact ⟨hk0 _, hk2 _⟩) (first | (go_at_call 98; refine (mark_any _ _ (by omega) (by omega)).mono ?_; rintro e9 w9 ⟨rfl, rfl⟩))
            go_wp2
            go_roundw
            case rel =>
              have hst := (HS2.out.store sep hlt hv q (mark (nu k))).drew
              simp only [if_true] at hst
              have e : (fun j => if j = k then Z.set q (mark (nu k)) else if j = k then Z else Y j) = (fun j => if j = k then Z.set q (mark (nu k)) else Y j) := by
                funext j
                by_cases hj : j = k
                · rw [if_pos hj, if_pos hj]
                · rw [if_neg hj, if_neg hj, if_neg hj]
              rw [e] at hst
              exact ⟨q + 1, Z.set q (mark (nu k)), by omega, by go_num, hst, by rw [List.length_set]; exact HZl.out, set_step Z q (N k) (mark (nu k)) HZl.out hqn HZ.out, hk0 _, hk2 _, keep_grown (row := some g) HKP2.out ⟨rfl, rfl, rfl, by simp, fun b _ hb => Below.heap_setCell _ _ _ b (fun e => hb (by rw [e]))⟩ (fun b e => by injection e with e; subst e; exact .inl ⟨k, hlt, by rw [hv]; rfl⟩)⟩
            case measure => simp [intOf]; omega
          · have hqe : q = N k := by omega
            have HZF : Hid (Z = List.replicate (N k) (mark (nu k))) := by
              rw [hqe, List.take_of_length_le (by omega)] at hZ
              exact hZ
            clear st2 hZ hZl HA
            go_wp2
            go_roundw
            case rel =>
              refine ⟨k + 1, _, by omega, by go_num, HS2.out, fun j hj => ?_, HKP2.out⟩
              by_cases hjk : j = k
              · simp only [hjk, if_true]; exact HZF.out
              · simp only [hjk, if_false]; exact HY.out j (by omega)
            case measure => simp [intOf]; omega
    · have hkm : k = m := by omega
      subst hkm
      have HSR : Hid (St S B h k cap nu E N Lg Y w0 wr) := st
      have HY : Hid (∀ j, j < k → Y j = List.replicate (N j) (mark (nu j))) := hY
      clear st hY
      go_wp2
      go_end0
      have hst := HSR.out
      refine ⟨rfl, ⟨hst.sS, hst.bB, hst.bh, hst.book, hst.l, hst.g, hst.n, hst.fz, fun i hi => ?_, hst.below⟩, HKP.out⟩
      have := hst.rows i hi
      rw [HY.out i hi] at this
      exact this
end Go.Proofs.YtohoieleakieeaaGreatDoor.Bn
