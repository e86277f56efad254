/-
  Out of HkHelp, PcMid.
-/
import Derived.Test.YtekgdljbninjiaaDoorRows
import Derived.Test.YtekgdljbninjiaaDoorGp3
import Derived.WalkKit
import Derived.WalkSpells
import Derived.WalkLawsBesides
import Derived.Test.YtekgdljbninjiaaDoorGp1
import Derived.ArgAppend

/-! What the statements' helpers TwinBytes and LeftBytes do to memory, for 4194304 bytes at most. -/
namespace Go.Proofs.YtekgdljbninjiaaDoor
open Go.RowKit

/-- Where bytes lie that are read: they are none, or a row of cells. -/
def Lies (w : World) (a : Option Addr) (zs : List Int) : Prop :=
  zs = [] ∨ ∃ b off, a = some ⟨b, off, none⟩ ∧ b < w.heap.size ∧ ∀ j : Nat, j < zs.length → w.cell? ⟨b, off + j, none⟩ = some (.int .u8 (zs[j]?.getD 0))

theorem Tryd.infoByte : (Tryd.prog.info? 5).map (fun i => (i.zero, i.size, i.bytes)) = some (some (.int .u8 0), 1, 1) := by kernel_rfl

/-- What is copied: a row of its own, with a mark behind. -/
def twin (zs : List Int) : List Value := (zs ++ [77]).map (Value.int .u8)

theorem twin_take {zs : List Int} {k : Nat} (h : k < zs.length) : (zs.take k).map (Value.int .u8) ++ [.int .u8 (zs[k]?.getD 0)] = (zs.take (k + 1)).map (Value.int .u8) := by
  rw [List.take_succ_eq_append_getElem h, List.map_append]
  congr 1
  simp [h]

set_option maxHeartbeats 1000000 in
theorem twin_any (a : Option Addr) (len cap : Nat) (zs : List Int) (w : World) (hz : zs.length = len) (hl : len ≤ 4194304) (hL : Lies w a zs) :
    Calls Tryd.prog 7 #[.slice a len cap] w fun e w' => ∃ g, e = .returned (.slice (some ⟨g, 0, none⟩) len (len + 1)) ∧
      w'.ownsRow w.heap.size 5 1 (.slice (some ⟨g, 0, none⟩) (len + 1) (len + 1)) (len + 1) (twin zs) ∧ Below w.heap.size w w' := by
  obtain ⟨i0, hi, hz0, hz1, hz2⟩ := info_parts Tryd.infoByte
  have HL : Hid (Lies w a zs) := hL
  have HZ : Hid (zs.length = len) := hz
  have hb1 : i0.bytes * (len + 1) ≤ 281474976710656 := by rw [hz2]; omega
  have hb2 : len + 1 ≤ maxLen := by unfold maxLen; omega
  clear hL hz
  go_enter Tryd.func7, Tryd.ntmps7
  go_wp2_with (at_make; refine wpList_make_own _ rfl _ _ 49 rfl w.heap.size 5 i0 (.int .u8 0) 1 Tryd.underlying49 hi hz0 hz1 .i64 .i64 _ (len + 1) rfl rfl (by omega) hb1 hb2 (Nat.le_refl _) ?_; intro w1 hown1 hgrow1)
  clear hb1 hb2
  have hbel1 : Below w.heap.size w w1 := (Below.refl _ _).grown hgrow1 (Nat.le_refl _) (fun k e => by cases e)
  clear hgrow1
  go_loopw [3, 4] (fun t i wr => ∃ k : Nat, k ≤ len ∧ i = .int .i64 k ∧ t = .slice (some ⟨w.heap.size, 0, none⟩) k (len + 1) ∧
      wr.ownsRow w.heap.size 5 1 (.slice (some ⟨w.heap.size, 0, none⟩) k (len + 1)) k ((zs.take k).map (Value.int .u8)) ∧ Below w.heap.size w wr)
    (fun _ i _ => len - (intOf i).toNat)
  case atStart => exact ⟨0, Nat.zero_le _, rfl, rfl, by simpa using hown1, hbel1⟩
  case round =>
    obtain ⟨k, hk, rfl, rfl, hown, hbel⟩ := hrel
    clear hown1 hbel1
    by_cases hlt : k < len
    · rcases HL.out with h0 | ⟨b, off, ha, hb, hcell⟩
      · have := HZ.out; rw [h0] at this; simp at this; omega
      · subst ha
        have hcx : wr.cell? ⟨b, off + k, none⟩ = some (.int .u8 (zs[k]?.getD 0)) := (hbel.cell (by exact hb)).trans (hcell k (by rw [HZ.out]; exact hlt))
        clear hcell
        go_wp2_with (at_builtin; refine wpList_append_fits _ rfl _ _ 49 rfl w.heap.size 5 i0 1 Tryd.underlying49 hi hz1 w.heap.size k (len + 1) _ rfl (hown.alloc _) ⟨wr.heap.size, 0, none⟩ 1 1 [.int .u8 (zs[k]?.getD 0)] rfl rfl (cell_one_new _ _ _) (by simp [Value.oneCell']) (by omega) ?_; intro w2 hown2 hgrow2)
        have hbel2 : Below w.heap.size w w2 := (hbel.alloc hbel.size _).grown hgrow2 (by have := hbel.size; simp; omega) (fun k e => by cases e; exact Nat.le_refl _)
        rw [twin_take (by rw [HZ.out]; exact hlt)] at hown2
        clear hgrow2 hown
        go_wp2
        go_roundw
        case rel => exact ⟨k + 1, by omega, by go_num, rfl, hown2, hbel2⟩
        case measure => simp [intOf]; omega
    · have hkl : k = len := by omega
      subst hkl
      have hown3 : wr.ownsRow w.heap.size 5 1 (.slice (some ⟨w.heap.size, 0, none⟩) k (k + 1)) k (zs.map (Value.int .u8)) := by
        have := hown; rw [List.take_of_length_le (by rw [HZ.out]; exact Nat.le_refl _)] at this; exact this
      clear hown
      go_wp2_with (at_builtin; refine wpList_append_fits _ rfl _ _ 49 rfl w.heap.size 5 i0 1 Tryd.underlying49 hi hz1 w.heap.size k (k + 1) _ rfl (hown3.alloc _) ⟨wr.heap.size, 0, none⟩ 1 1 [.int .u8 77] rfl rfl (cell_one_new _ _ _) (by simp [Value.oneCell']) (by omega) ?_; intro w2 hown2 hgrow2)
      have hbel2 : Below w.heap.size w w2 := (hbel.alloc hbel.size _).grown hgrow2 (by have := hbel.size; simp; omega) (fun k e => by cases e; exact Nat.le_refl _)
      clear hgrow2 hown3
      go_wp2
      go_ret
      exact ⟨_, rfl, by simpa [twin] using hown2, hbel2⟩

/-- The cells of a copy that is kept. -/
theorem twin_cells {w : World} {base g len : Nat} {zs : List Int} (hz : zs.length = len) (h : w.ownsRow base 5 1 (.slice (some ⟨g, 0, none⟩) (len + 1) (len + 1)) (len + 1) (twin zs)) :
    g < w.heap.size ∧ base ≤ g ∧ (∀ j : Nat, j < len → w.cell? ⟨g, j, none⟩ = some (.int .u8 (zs[j]?.getD 0))) ∧ w.cell? ⟨g, len, none⟩ = some (.int .u8 77) := by
  obtain ⟨h1, h2⟩ := h.lt g rfl
  refine ⟨h2, h1, fun j hj => ?_, ?_⟩
  · rw [h.cellAt j (by omega)]
    unfold twin
    rw [List.getElem?_map, List.getElem?_append_left (by omega)]
    simp [show j < zs.length by omega]
  · rw [h.cellAt len (by omega)]
    unfold twin
    rw [List.getElem?_map, List.getElem?_append_right (by omega)]
    simp [hz]

set_option maxHeartbeats 1000000 in
theorem left_any (g : Nat) (a : Option Addr) (len cap : Nat) (zs : List Int) (w : World) (hz : zs.length = len) (hl : len ≤ 4194304) (hL : Lies w a zs) (hg : g < w.heap.size)
    (hT : ∀ j : Nat, j < len → w.cell? ⟨g, j, none⟩ = some (.int .u8 (zs[j]?.getD 0))) (h77 : w.cell? ⟨g, len, none⟩ = some (.int .u8 77)) :
    Calls Tryd.prog 10 #[.slice (some ⟨g, 0, none⟩) len (len + 1), .slice a len cap] w fun e w' => e = .returned (.bool true) ∧ Below w.heap.size w w' := by
  have HL : Hid (Lies w a zs) := hL
  have HZ : Hid (zs.length = len) := hz
  have HT := fun j hj => hT j hj
  have H77 : Hid (w.cell? ⟨g, len, none⟩ = some (.int .u8 77)) := h77
  have h1 : ((len : Int) != (len : Int)) = false := by simp
  have h2 : ¬ ((len : Int) + 1 ≤ (len : Int)) := by omega
  clear hL hz hT h77
  go_enter Tryd.func10, Tryd.ntmps10
  go_wp2
  go_loopw [5] (fun i wr => ∃ k : Nat, k ≤ len ∧ i = .int .i64 k ∧ Below w.heap.size w wr)
    (fun i _ => len - (intOf i).toNat)
  case atStart => exact ⟨0, Nat.zero_le _, rfl, Below.refl _ _⟩
  case round =>
    obtain ⟨k, hk, rfl, hbel⟩ := hrel
    by_cases hlt : k < len
    · rcases HL.out with h0 | ⟨b, off, ha, hb, hcell⟩
      · have := HZ.out; rw [h0] at this; simp at this; omega
      · subst ha
        have hcx : wr.cell? ⟨b, off + k, none⟩ = some (.int .u8 (zs[k]?.getD 0)) := (hbel.cell (by exact hb)).trans (hcell k (by rw [HZ.out]; exact hlt))
        have hcy : wr.cell? ⟨g, k, none⟩ = some (.int .u8 (zs[k]?.getD 0)) := (hbel.cell (by exact hg)).trans (HT k hlt)
        clear hcell HT
        go_wp2
        go_region
        all_goals go_wp2
        all_goals
          go_roundw
          case rel => exact ⟨k + 1, by omega, by go_num, hbel.drew⟩
          case measure => simp [intOf]; omega
    · have hkl : k = len := by omega
      subst hkl
      have hc7 : wr.cell? ⟨g, k, none⟩ = some (.int .u8 77) := (hbel.cell (by exact hg)).trans H77.out
      go_wp2
      go_ret
      exact ⟨rfl, hbel⟩
/-- The cells of bytes, as numbers. -/
def nums (b : List By) : List Int := b.map v8
theorem nums_length (b : List By) : (nums b).length = b.length := by simp [nums]
theorem nums_get (b : List By) (j : Nat) (h : j < b.length) : (nums b)[j]?.getD 0 = v8 (gb b j) := by
  unfold nums gb
  rw [List.getElem?_map, List.getElem?_eq_getElem h]
  rfl
theorem lies_of {w : World} {a : Option Addr} {g off len : Nat} {b : List By} (hb : b.length = len) (ha : 0 < len → a = some ⟨g, off, none⟩) (hgl : 0 < len → g < w.heap.size) (hc : ∀ j : Nat, j < len → w.cell? ⟨g, off + j, none⟩ = some (.int .u8 (v8 (gb b j)))) : Lies w a (nums b) := by
  by_cases h : 0 < len
  · refine .inr ⟨g, off, ha h, hgl h, fun j hj => ?_⟩
    rw [nums_length, hb] at hj
    rw [hc j hj, nums_get b j (by omega)]
  · left
    obtain rfl : b = [] := List.eq_nil_of_length_eq_zero (by omega)
    rfl
end Go.Proofs.YtekgdljbninjiaaDoor

/-! A slice of one-cell elements somewhere in a block, with the spare cells behind it: appended to, cut, written. No program in sight. -/
namespace Go.Proofs.YtekgdljbninjiaaDoor
open Go Go.RowKit

structure Mid (w : World) (a : Option Addr) (len cap g off : Nat) (xs : List Value) : Prop where
  le : len ≤ cap
  max : cap ≤ maxLen
  addr : 0 < cap → a = some ⟨g, off, none⟩
  lt : 0 < cap → g < w.heap.size
  xl : xs.length = len
  cell : ∀ j u, xs[j]? = some u → w.cell? ⟨g, off + j, none⟩ = some u
  there : ∀ j, j < cap → (w.cell? ⟨g, off + j, none⟩).isSome = true ∧ w.frozen? ⟨g, off + j, none⟩ = false
theorem Mid.same {w w' : World} {a : Option Addr} {len cap g off : Nat} {xs : List Value} (h : Mid w a len cap g off xs) (hs : 0 < cap → w'.heap[g]? = w.heap[g]?) (hz : w.heap.size ≤ w'.heap.size) : Mid w' a len cap g off xs :=
  ⟨h.le, h.max, h.addr, fun p => Nat.lt_of_lt_of_le (h.lt p) hz, h.xl, fun j u hu => by
    have hj := (List.getElem?_eq_some_iff.1 hu).1
    have := h.le
    have := h.xl
    exact (World.cell?_of_block (a := ⟨g, off + j, none⟩) (hs (by omega))).trans (h.cell j u hu), fun j hj => ⟨by rw [World.cell?_of_block (a := ⟨g, off + j, none⟩) (hs (by omega))]; exact (h.there j hj).1, (World.frozen?_of_block (a := ⟨g, off + j, none⟩) (hs (by omega))).trans (h.there j hj).2⟩⟩
theorem Mid.none (w : World) (g : Nat) : Mid w .none 0 0 g 0 [] := ⟨Nat.le_refl _, Nat.zero_le _, fun h => absurd h (Nat.lt_irrefl _), fun h => absurd h (Nat.lt_irrefl _), rfl, fun j u h => (by simp at h), fun j h => absurd h (Nat.not_lt_zero _)⟩
theorem Mid.set {w : World} {a : Option Addr} {len cap g off : Nat} {xs : List Value} (h : Mid w a len cap g off xs) {j : Nat} (hj : j < len) (u : Value) : Mid (w.setCell ⟨g, off + j, Option.none⟩ u) a len cap g off (xs.set j u) := by
  have hl := h.le
  refine ⟨h.le, h.max, h.addr, fun p => by simpa [World.setCell] using h.lt p, by rw [List.length_set]; exact h.xl, fun i v hv => ?_, fun i hi => ?_⟩
  · by_cases e : j = i
    · subst e
      rw [List.getElem?_set_self (by rw [h.xl]; exact hj)] at hv
      cases hv
      obtain ⟨z, hz⟩ := Option.isSome_iff_exists.1 (h.there j (by omega)).1
      exact World.cell?_setCell_same _ _ _ hz
    · rw [List.getElem?_set_ne e] at hv
      rw [World.cell?_setCell_other _ _ _ _ (by intro q; injection q; omega)]
      exact h.cell i v hv
  · rw [World.frozen?_setCell]
    refine ⟨?_, (h.there i hi).2⟩
    by_cases e : j = i
    · subst e
      obtain ⟨z, hz⟩ := Option.isSome_iff_exists.1 (h.there j (by omega)).1
      rw [World.cell?_setCell_same _ _ _ hz]; rfl
    · rw [World.cell?_setCell_other _ _ _ _ (by intro q; injection q; omega)]
      exact (h.there i hi).1
theorem Mid.of_own {w : World} {base : Nat} {e : TypeId} {v : Value} {n : Nat} {xs : List Value} (h : w.ownsRow base e 1 v n xs) (hn : 0 < n) : ∃ g c, v = .slice (some ⟨g, 0, .none⟩) n c ∧ base ≤ g ∧ 0 < c ∧ Mid w (some ⟨g, 0, .none⟩) n c g 0 xs := by
  have hx := h.1
  rcases h.2 with ⟨_, h2⟩ | ⟨g, c, cur, rfl, hb, hh, hnc, hcm, hsz, htk⟩
  · omega
  · refine ⟨g, c, rfl, hb, by omega, hnc, hcm, fun _ => rfl, fun _ => (Array.getElem?_eq_some_iff.1 hh).1, by omega, fun j u hu => ?_, fun j hj => ?_⟩
    · have := h.cells (g := g) rfl j u hu
      rw [Addr.add_lit] at this
      simpa using this
    · have hc : w.cell? ⟨g, 0 + j, .none⟩ = cur[j]? := by rw [Nat.zero_add]; exact cell_of_row w g j cur e (0, 0) hh
      refine ⟨?_, by rw [Nat.zero_add]; exact frozen_of_row w g j cur e hh⟩
      rw [hc, Array.getElem?_eq_getElem (by omega)]
      rfl

section
variable {P : Program}
/-- One element more. -/
theorem mid_append {w : World} {a : Option Addr} {len cap g off : Nat} {xs : List Value} (h : Mid w a len cap g off xs) (t ty e : TypeId) (i : TypeInfo) (z : Value) (bytes : Nat) (ht : P.underlying t = some (.slice e)) (hi : P.info? e = some i) (hz : i.zero = some z) (hsize : i.size = 1) (hby : i.bytes = bytes) (hzs : z.cells.size = 1)
    (ad : Addr) (x : Value) (hx : w.cell? ad = some x) (h1 : x.oneCell' = true) (h63 : len + 1 ≤ maxLen) (hbytes : (len + 1) * bytes ≤ 140737488355328) :
    ∃ a' cap' g' off' w', (Builtin.append_ #[t, t] ty #[.slice a len cap, .slice (some ad) 1 1]).run P w = .ok (.slice a' (len + 1) cap') w' ∧ Mid w' a' (len + 1) cap' g' off' (xs ++ [x]) ∧ 0 < cap' ∧ (0 < cap ∧ g' = g ∨ w.heap.size ≤ g') ∧ KeepP (fun k => 0 < cap ∧ k = g) w w' := by
  have hnews : ∀ j u, ([x] : List Value)[j]? = some u → w.cell? (ad.add j) = some u := fun j u hu => by
    have hj := (List.getElem?_eq_some_iff.1 hu).1
    obtain rfl : j = 0 := by simp at hj; omega
    have : ad.add 0 = ad := by cases ad; simp [Addr.add]
    rw [this]
    simp at hu
    subst hu
    exact hx
  have hone : ∀ u ∈ ([x] : List Value), u.oneCell' = true := fun u hu => by rw [List.mem_singleton.1 hu]; exact h1
  by_cases hr : len + 1 ≤ cap
  · have ha := h.addr (by omega)
    subst ha
    have hrun := run_append_room_cells (P := P) w t ty e i ht hi g off len cap ad 1 1 [x] (by rw [hsize]; rfl) hnews hone hr (fun j hj => by rw [hsize, Nat.mul_one, Nat.add_assoc]; exact (h.there (len + j) (by simp at hj; omega)).1) (fun j hj => by rw [hsize, Nat.mul_one, Nat.add_assoc]; exact (h.there (len + j) (by simp at hj; omega)).2)
    rw [hsize, Nat.mul_one] at hrun
    have hw : w.setCells g (off + len) [x] = w.setCell ⟨g, off + len, .none⟩ x := rfl
    rw [hw] at hrun
    refine ⟨_, cap, g, off, _, hrun, ?_, by omega, .inl ⟨by omega, rfl⟩, KeepP.setCell (st := fun k => 0 < cap ∧ k = g) ⟨by omega, rfl⟩ _ _ _⟩
    refine ⟨hr, h.max, fun _ => rfl, fun p => by simpa [World.setCell] using h.lt (by omega), by rw [List.length_append, h.xl]; rfl, fun j u hu => ?_, fun j hj => ?_⟩
    · by_cases hj : j = len
      · subst hj
        rw [List.getElem?_append_right (by rw [h.xl]; exact Nat.le_refl _), h.xl, Nat.sub_self] at hu
        simp at hu
        subst hu
        obtain ⟨z', hz'⟩ := Option.isSome_iff_exists.1 (h.there j (by omega)).1
        exact World.cell?_setCell_same _ _ _ hz'
      · have hjl : j < (xs ++ [x]).length := (List.getElem?_eq_some_iff.1 hu).1
        rw [List.length_append, h.xl] at hjl
        simp at hjl
        rw [List.getElem?_append_left (by rw [h.xl]; omega)] at hu
        rw [World.cell?_setCell_other _ _ _ _ (by intro q; injection q; omega)]
        exact h.cell j u hu
    · rw [World.frozen?_setCell]
      refine ⟨?_, (h.there j hj).2⟩
      by_cases hjl : j = len
      · subst hjl
        obtain ⟨z', hz'⟩ := Option.isSome_iff_exists.1 (h.there j (by omega)).1
        rw [World.cell?_setCell_same _ _ _ hz']; rfl
      · rw [World.cell?_setCell_other _ _ _ _ (by intro q; injection q; omega)]
        exact (h.there j hj).1
  · have hcl : cap = len := by have := h.le; omega
    have fin : ∀ v' w', w'.ownsRow w.heap.size e 1 v' (len + 1) (xs ++ [x]) → w.grownBy w' .none → (Builtin.append_ #[t, t] ty #[.slice a len cap, .slice (some ad) 1 1]).run P w = .ok v' w' →
        ∃ a' cap' g' off' w', (Builtin.append_ #[t, t] ty #[.slice a len cap, .slice (some ad) 1 1]).run P w = .ok (.slice a' (len + 1) cap') w' ∧ Mid w' a' (len + 1) cap' g' off' (xs ++ [x]) ∧ 0 < cap' ∧ (0 < cap ∧ g' = g ∨ w.heap.size ≤ g') ∧ KeepP (fun k => 0 < cap ∧ k = g) w w' := fun v' w' ho hg hrun => by
      obtain ⟨g', c', rfl, hb, hc0, hm⟩ := Mid.of_own ho (by omega)
      exact ⟨_, c', g', 0, w', hrun, hm, hc0, .inr hb, ⟨hg.os, hg.tape, hg.output, hg.size, fun k hk _ => hg.block k hk (by simp)⟩⟩
    cases a with
    | none =>
      obtain rfl : cap = 0 := by
        rcases Nat.eq_zero_or_pos cap with e0 | e0
        · exact e0
        · have := h.addr e0; cases this
      obtain rfl : len = 0 := hcl.symm
      have hx0 : xs = [] := List.eq_nil_of_length_eq_zero h.xl
      subst hx0
      obtain ⟨v', w', hrun, ho, hg, _⟩ := run_append_own (P := P) w w.heap.size t ty e i z 1 bytes ht hi hz hsize hby hzs (by decide) (.slice .none 0 0) 0 [] (World.ownsRow_nil _ _ _ _) ad 1 1 [x] rfl hnews hone h63 hbytes (Nat.le_refl _)
      exact fin v' w' ho hg hrun
    | some b =>
      obtain ⟨v', w', hrun, ho, hg⟩ := run_append_arg_grows (P := P) w t ty e i z 1 bytes ht hi hz hsize hby hzs (by decide) b len cap xs (by rw [h.xl, Nat.mul_one]) (fun j u hu => by
        have hj := (List.getElem?_eq_some_iff.1 hu).1
        rw [h.xl] at hj
        have hb := h.addr (by omega)
        injection hb with hb
        subst hb
        rw [Addr.add_mid]
        exact h.cell j u hu) ad 1 1 [x] rfl hnews (by omega) h63 hbytes
      exact fin v' w' ho hg hrun
/-- From a place on. -/
theorem mid_cut {w : World} {a : Option Addr} {len cap g off : Nat} {xs : List Value} (h : Mid w a len cap g off xs) {k : Nat} (hk : k ≤ len) (t e : TypeId) (ht : P.underlying t = some (.slice e)) (hs : ∀ W, (sizeOf e).run P W = .ok 1 W) :
    ∃ a', (∀ W, (Instr.sliceAt t (.slice a len cap) (some (.int .i64 (k : Int))) .none .none).run P W = .ok (.slice a' (len - k) (cap - k)) W) ∧ Mid w a' (len - k) (cap - k) g (off + k) (xs.drop k) := by
  have hle := h.le
  have mid : ∀ a', (0 < cap - k → a' = some ⟨g, off + k, .none⟩) → Mid w a' (len - k) (cap - k) g (off + k) (xs.drop k) := fun a' ha' =>
    ⟨by omega, by have := h.max; omega, ha', fun p => h.lt (by omega), by rw [List.length_drop, h.xl], fun j u hu => by
      rw [List.getElem?_drop] at hu
      have := h.cell (k + j) u hu
      rw [← Nat.add_assoc] at this
      exact this, fun j hj => by
      have := h.there (k + j) (by omega)
      rw [← Nat.add_assoc] at this
      exact this⟩
  cases a with
  | none =>
    obtain rfl : cap = 0 := by
      rcases Nat.eq_zero_or_pos cap with e0 | e0
      · exact e0
      · have := h.addr e0; cases this
    obtain rfl : len = 0 := by omega
    obtain rfl : k = 0 := by omega
    refine ⟨.none, fun W => ?_, mid _ (fun p => by omega)⟩
    simp [Instr.sliceAt, Instr.slice, Instr.sliceBounds, Instr.sliceBound, asIntOf, run_underlying ht, hs]
  | some b =>
    by_cases hc : cap = k
    · refine ⟨some b, fun W => ?_, mid _ (fun p => by omega)⟩
      simp [Instr.sliceAt, Instr.slice, Instr.sliceBounds, Instr.sliceBound, asIntOf, run_underlying ht, hs, hk, hc]
    · have hb := h.addr (by omega)
      injection hb with hb
      subst hb
      refine ⟨some ⟨g, off + k, .none⟩, fun W => ?_, mid _ (fun _ => rfl)⟩
      simp [Instr.sliceAt, Instr.slice, Instr.sliceBounds, Instr.sliceBound, asIntOf, run_underlying ht, hs, hk, hc, Addr.add_mid]
end
end Go.Proofs.YtekgdljbninjiaaDoor
