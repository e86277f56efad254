/-
  Out of AeLock, AeZeros, AeTagged, AeArr, AeSame.
-/
import Derived.Test.YtbheoldakmcppaaGreatDoorGs8
import Derived.Test.YtbheoldakmcppaaGreatDoorGs9
import Derived.Test.YtbheoldakmcppaaGreatDoorGs27
import Derived.Great.FillDense
import Derived.Test.YtbheoldakmcppaaGreatDoorGs7
import Derived.BigQuiet

/-! A key and a nonce in one; what aead's smaller functions answer. -/
namespace Go.Proofs.YtbheoldakmcppaaGreatDoor
open Go Go.RowKit

def z12 : List By := List.replicate 12 0
def z32b : List By := List.replicate 32 0
def z44 : List By := List.replicate 44 0
theorem lock_key {W : World} {g : Nat} {t : TypeId} {key nonce : List By} (h : Row W g t (bs (key ++ nonce))) : W.rangeAt g 0 (bs key).toList := by
  intro j v hv
  rw [Nat.zero_add, h.cell]
  have e : (bs (key ++ nonce)) = bs key ++ bs nonce := by simp [bs]
  have hj : j < (bs key).size := by
    rcases Nat.lt_or_ge j (bs key).size with hj | hj
    · exact hj
    · rw [List.getElem?_eq_none (by simpa using hj)] at hv; cases hv
  rw [e, Array.getElem?_append_left hj]
  simpa using hv
theorem lock_nonce {W : World} {g : Nat} {t : TypeId} {key nonce : List By} (h : Row W g t (bs (key ++ nonce))) (hk : key.length = 32) : W.rangeAt g 32 (bs nonce).toList := by
  intro j v hv
  have e : (bs (key ++ nonce)) = bs key ++ bs nonce := by simp [bs]
  rw [h.cell, e, Array.getElem?_append_right (by rw [bs_size, hk]; omega), bs_size, hk, show 32 + j - 32 = j by omega]
  simpa using hv
theorem lock_whole {W : World} {g : Nat} {t : TypeId} {cs : Array Value} (h : Row W g t cs) : W.rangeAt g 0 cs.toList := by
  intro j v hv
  rw [Nat.zero_add, h.cell]
  simpa using hv
theorem fold_arr (off : Nat) (l cells : Array Value) : (l.zipIdx.foldl (fun cs (x : Value × Nat) => cs.setIfInBounds (off + x.2) x.1) cells) = ((l.toList.zipIdx 0).foldl (fun cs (x : Value × Nat) => cs.setIfInBounds (off + x.2) x.1) cells) := by
  rw [← Array.foldl_toList, Array.toList_zipIdx]
theorem lock_fill (key nonce : List By) (hk : key.length = 32) (hn : nonce.length = 12) : Instr.fill (fun i => (#[(0, 32), (32, 12)] : Array (Nat × Nat))[i]?) (bs z44) [(0, .agg (bs key)), (1, .agg (bs nonce))] = some (bs (key ++ nonce)) := by
  have e : (bs (key ++ nonce)) = bs key ++ bs nonce := by simp [bs]
  have z : (bs z44).size = 44 := rfl
  have ck : (Value.agg (bs key)).cells.size = 32 := by show (bs key).size = 32; rw [bs_size, hk]
  have cn : (Value.agg (bs nonce)).cells.size = 12 := by show (bs nonce).size = 12; rw [bs_size, hn]
  obtain ⟨a1, a2⟩ := Great.foldl_set 0 (bs key).toList 0 (bs z44)
  obtain ⟨b1, b2⟩ := Great.foldl_set 32 (bs nonce).toList 0 (((bs key).toList.zipIdx 0).foldl (fun cs (x : Value × Nat) => cs.setIfInBounds (0 + x.2) x.1) (bs z44))
  rw [Instr.fill, show (#[(0, 32), (32, 12)] : Array (Nat × Nat))[0]? = some (0, 32) from rfl]
  simp only [ck, z]
  rw [if_neg (by decide), Instr.fill, show (#[(0, 32), (32, 12)] : Array (Nat × Nat))[1]? = some (32, 12) from rfl]
  simp only [cn]
  rw [fold_arr, fold_arr]
  simp only [show (Value.agg (bs key)).cells = bs key from rfl, show (Value.agg (bs nonce)).cells = bs nonce from rfl]
  rw [if_neg (by rw [a1, z]; decide), Instr.fill]
  congr 1
  apply Array.ext_getElem?
  intro k
  rw [b2, a2, a1, z]
  have lk : (bs key).toList.length = 32 := by rw [Array.length_toList, bs_size, hk]
  have ln : (bs nonce).toList.length = 12 := by rw [Array.length_toList, bs_size, hn]
  rw [lk, ln, e]
  by_cases h1 : k < 32
  · rw [if_neg (by omega), if_pos (by omega), Array.getElem?_append_left (by rw [bs_size, hk]; exact h1)]
    simp
  · rw [Array.getElem?_append_right (by rw [bs_size, hk]; omega), bs_size, hk]
    by_cases h2 : k < 44
    · rw [if_pos (by omega)]
      simp
    · rw [if_neg (by omega), if_neg (by omega), Array.getElem?_eq_none (by rw [z]; omega), Array.getElem?_eq_none (by rw [bs_size, hn]; omega)]
theorem lock_built (key nonce : List By) (hk : key.length = 32) (hn : nonce.length = 12) : Tryz.prog.built 80 [(0, .agg (bs key)), (1, .agg (bs nonce))] = some (bs (key ++ nonce)) :=
  Eq.trans (by kernel_rfl) (lock_fill key nonce hk hn)

theorem missing_any (n : Nat) (hn : n ≤ 140737488355328) (w : World) :
    Calls Tryz.prog 155 #[.int .i64 (n : Int)] w fun e w' => e = .returned (.int .i64 ((pad16 n : Nat) : Int)) ∧ w' = w := by
  have h1 : ((16 : Int) - (n : Int) % 16) % 16 = ((pad16 n : Nat) : Int) := by unfold pad16; omega
  go_enter Tryz.func155, Tryz.ntmps155
  go_wp2
  go_ret
  refine ⟨?_, rfl⟩
  rw [h1]
  rfl
end Go.Proofs.YtbheoldakmcppaaGreatDoor

/-! append of so many zeros to a row of the call's own: no program in sight. -/
namespace Go.Proofs.YtbheoldakmcppaaGreatDoor
open Go Go.RowKit

def zs8 (m : Nat) : List Value := vb (List.replicate m (0 : By))
theorem zs8_length (m : Nat) : (zs8 m).length = m := by rw [zs8, vb_length, List.length_replicate]
theorem zs8_one (m : Nat) : ∀ u ∈ zs8 m, u.oneCell' = true := vb_one _
theorem zeroCells_vb (m : Nat) : Builtin.zeroCells (Value.int .u8 0).cells m = (zs8 m).toArray := by
  have h1 : (Value.int .u8 0).cells = #[.int .u8 0] := rfl
  rw [h1]
  apply Array.ext
  · simp [Builtin.zeroCells, zs8, vb]
  · intro i h2 h3
    simp [Builtin.zeroCells, zs8, vb, v8, Nat.mod_one]

theorem run_append_zeros8 {P : Program} (w : World) (base : Nat) (t tn ty e : TypeId) (i : TypeInfo) (kn k : IntKind) (ht : P.underlying t = some (.slice e)) (htn : P.underlying tn = some (.int kn)) (hi : P.info? e = some i) (hz : i.zero = some (.int .u8 0)) (hsize : i.size = 1) (hby : i.bytes = 1)
    (v : Value) (n : Nat) (xs : List By) (hown : w.ownsRow base e 1 v n (vb xs)) (m : Nat) (hl : n + m ≤ 8388608) (hbase : base ≤ w.heap.size) :
    ∃ v' w', (Builtin.append_ #[t, tn] ty #[v, .int k (m : Int)]).run P w = .ok v' w' ∧ w'.ownsRow base e 1 v' (n + m) (vb (xs ++ List.replicate m 0)) ∧ w.grownBy w' v.ownBlock := by
  have hwr : IntKind.i64.wrap (m : Int) = m := by rw [IntKind.wrap_i64]; omega
  have hneg : ¬ ((m : Int) < 0) := by omega
  have hw0 : IntKind.i64.wrap 0 = 0 := by rw [IntKind.wrap_i64]; rfl
  have h48i : ¬ (281474976710656 < (m : Int)) := by omega
  have hxl : (vb xs).length = n := by have := hown.1; omega
  have hvr : vb (xs ++ List.replicate m 0) = vb xs ++ zs8 m := vb_append _ _
  have hrl : (zs8 m).length = m := zs8_length m
  have grown : ∀ (old : Nat), old < n + m → ∀ (row : Option Nat),
      (w.drew.alloc (.cells ((vb xs).toArray ++ (zs8 m).toArray ++ Builtin.zeroCells (Value.int .u8 0).cells (grownCap w (n + m) old e - (n + m))) e)).ownsRow base e 1
        (.slice (some ⟨w.heap.size, 0, none⟩) (n + m) (grownCap w (n + m) old e)) (n + m) (vb (xs ++ List.replicate m 0)) ∧
      w.grownBy (w.drew.alloc (.cells ((vb xs).toArray ++ (zs8 m).toArray ++ Builtin.zeroCells (Value.int .u8 0).cells (grownCap w (n + m) old e - (n + m))) e)) row := by
    intro old ho row
    have hge := grownCap_ge w (n + m) old e
    have hcm : grownCap w (n + m) old e ≤ maxLen := grownCap_le_maxLen w (n + m) old e (by unfold maxLen; omega)
    refine ⟨⟨by rw [hvr, List.length_append, hxl, hrl]; omega, .inr ⟨w.heap.size, _, _, rfl, hbase, _root_.Go.heap_alloc_new w.drew _, hge, hcm, ?_, ?_⟩⟩, ⟨rfl, rfl, rfl, by simp, fun k hk _ => heap_alloc_old w.drew _ hk⟩⟩
    · simp only [Array.size_append, List.size_toArray, hxl, hrl, size_zeroCells]
      rw [show (Value.int .u8 0).cells.size = 1 from rfl]
      omega
    · simp only [Array.toList_append]
      rw [hvr, show (n + m) * 1 = (vb xs ++ zs8 m).length by rw [List.length_append, hxl, hrl]; omega]
      exact List.take_left
  rcases hown.2 with ⟨rfl, rfl⟩ | ⟨g, cap, cur, rfl, hbg, hg, hnc, hcm, hcs, htake⟩
  · have hx : xs = [] := List.eq_nil_of_length_eq_zero (by rw [vb_length] at hxl; exact hxl)
    subst hx
    by_cases hm : m = 0
    · subst hm
      refine ⟨.slice none 0 0, w, ?_, ?_, ⟨rfl, rfl, rfl, Nat.le_refl _, fun _ _ _ => rfl⟩⟩
      · simp [Builtin.append_, run_underlying ht, run_underlying htn, sizeOf, typeInfo, hi, asInt, asIntOf, hw0]
      · exact World.ownsRow_nil w base e 1
    · have hr := Lib.run_append_nil_zeros (P := P) w t tn ty e i (.int .u8 0) k kn ht htn hi hz m (by omega) (by omega) (by omega) (by rw [hby]; omega)
      have hgr := grown 0 (by omega) (Value.ownBlock (.slice none 0 0))
      simp only [Nat.zero_add] at hgr ⊢
      rw [show (vb ([] : List By)).toArray = #[] from rfl, Array.empty_append, ← zeroCells_vb] at hgr
      exact ⟨_, _, hr, hgr.1, hgr.2⟩
  · have h1 : cur.size = cap := by omega
    by_cases hm : m = 0
    · subst hm
      refine ⟨.slice (some ⟨g, 0, none⟩) n cap, w, ?_, ?_, ⟨rfl, rfl, rfl, Nat.le_refl _, fun _ _ _ => rfl⟩⟩
      · simp [Builtin.append_, run_underlying ht, run_underlying htn, sizeOf, typeInfo, hi, asInt, asIntOf, hw0, hnc, storeCells]
      · simpa using hown
    · by_cases hroom : n + m ≤ cap
      · have hst := run_storeCells_at P g (n * 1) e (zs8 m) 0 cur w hg (by rw [hrl]; omega) (zs8_one _)
        simp only [Nat.add_zero, Nat.mul_one] at hst
        have hadd : (⟨g, 0, none⟩ : Addr).add n = ⟨g, n, none⟩ := by unfold Addr.add; split <;> simp_all
        refine ⟨.slice (some ⟨g, 0, none⟩) (n + m) cap, w.setRow g (cur.toList.take n ++ zs8 m ++ cur.toList.drop (n + (zs8 m).length)).toArray, ?_, ⟨by rw [hvr, List.length_append, hxl, hrl]; omega, .inr ⟨g, cap, _, rfl, hbg, setRow_heap w g cur _ e _ hg, hroom, hcm, ?_, ?_⟩⟩, ⟨rfl, rfl, rfl, by simp, fun k _ hk => setRow_other w g k _ (fun e => hk (by simp [Value.ownBlock, e]))⟩⟩
        · simp [Builtin.append_, run_underlying ht, run_underlying htn, sizeOf, typeInfo, zeroValue, hi, hz, asInt, asIntOf, hsize, hby, hwr, hneg, hm, h48i, hroom, hadd, zeroCells_vb, hst]
        · simp only [List.size_toArray, List.length_append, List.length_take, List.length_drop, Array.length_toList, hrl]
          omega
        · have ht' : cur.toList.take n = vb xs := by rw [Nat.mul_one] at htake; exact htake
          simp only []
          rw [ht', hvr, show (n + m) * 1 = (vb xs ++ zs8 m).length by rw [List.length_append, hxl, hrl]; omega]
          exact List.take_left
      · have holds : ∀ j u, (vb xs)[j]? = some u → w.cell? ((⟨g, 0, none⟩ : Addr).add j) = some u := hown.cells (g := g) rfl
        have hfo := run_firstCells_some (P := P) w.drew 1 n ⟨g, 0, none⟩ n cap (vb xs) (by omega) (by simpa using holds)
        have h63' : ¬ (9223372036854775807 < ((n : Int) + (m : Int))) := by omega
        have h48' : ¬ (281474976710656 < Builtin.nextslicecap (n + m) cap) := by
          have := growslice_fits (need := n + m) (old := cap) (bytes := 1) (by omega) (by omega)
          omega
        have hgr := grown cap (by omega) (Value.ownBlock (.slice (some ⟨g, 0, none⟩) n cap))
        refine ⟨_, _, ?_, hgr.1, hgr.2⟩
        simp [Builtin.append_, run_underlying ht, run_underlying htn, sizeOf, typeInfo, zeroValue, hi, hz, asInt, asIntOf, hsize, hby, hwr, hneg, hm, h48i, hroom, h63', h48', Question.forced, hfo, newRow, grownCap, zeroCells_vb]
end Go.Proofs.YtbheoldakmcppaaGreatDoor

/-! What aead.tagged answers, of any number of lists. -/
namespace Go.Proofs.YtbheoldakmcppaaGreatDoor
open Go Go.RowKit

/-- What is tagged, so many lists of it; how many bytes each has, so many of them. -/
def accT (L : Nat → SL) : Nat → List By
  | 0 => []
  | k + 1 => accT L k ++ (L k).b ++ List.replicate (pad16 (L k).len) 0
def numT (L : Nat → SL) (z : List By) : Nat → List By
  | 0 => z
  | k + 1 => numT L z k ++ eightL (L k).len
theorem shr8a (p : Int) (i : Nat) (h : i < 8) : Op.shift .shr .u64 p .i64 (8 * (i : Int)) = pure (.int .u64 (p / 2 ^ (8 * i))) := by
  rw [shift_shr_u64 (x := p) (yk := .i64) (y := 8 * (i : Int)) (by omega) (by omega), show (8 * (i : Int)).toNat = 8 * i by omega]
theorem byte_shr (n i : Nat) : (n : Int) / 2 ^ (8 * i) % 256 = v8 (byteAt n i) := by
  rw [v8_byteAt, show (256 : Nat) ^ i = 2 ^ (8 * i) by rw [Nat.pow_mul]]
  simp

set_option maxRecDepth 20000 in
set_option maxHeartbeats 4000000 in
theorem tagged_any (N st cap : Nat) (L : Nat → SL) (hN : N ≤ 4) (w : World) (hst : st < w.heap.size) (hc : ∀ k, k < N → w.cell? ⟨st, k, none⟩ = some (.slice (L k).a (L k).len (L k).cap)) (hL : ∀ k, k < N → (L k).Ok w ∧ (L k).len ≤ 1048576) :
    Calls Tryz.prog 122 #[.slice (some ⟨st, 0, none⟩) N cap] w fun e w' => ∃ v, e = .returned v ∧ w'.ownsRow w.heap.size 5 1 v (numT L (accT L N) N).length (vb (numT L (accT L N) N)) ∧ Below w.heap.size w w' := by
  obtain ⟨i0, hi, hz0, hz1, hz2⟩ := info_parts (P := Tryz.prog) (e := 5) (z := .int .u8 0) (size := 1) (bytes := 1) (by kernel_rfl)
  have HC := veil hc
  have HL := veil hL
  clear hc hL
  go_enter Tryz.func122, Tryz.ntmps122
  go_wp2
  go_loopw [3, 11] (fun bv iv wr => ∃ (k n : Nat) (a : Option Addr) (c : Nat), k ≤ N ∧ iv = .int .i64 k ∧ n ≤ 1048592 * k ∧ bv = .slice a n c ∧ Hid (n = (accT L k).length) ∧ wr.ownsRow w.heap.size 5 1 (.slice a n c) n (vb (accT L k)) ∧ Below w.heap.size w wr)
    (fun _ iv _ => N - (intOf iv).toNat)
  case atStart => exact ⟨0, 0, none, 0, by omega, rfl, by omega, rfl, rfl, World.ownsRow_nil _ _ _ _, Below.refl _ _⟩
  case round =>
    obtain ⟨k, n, a, c, hk, rfl, hn, rfl, HNL, hown, hbel⟩ := hrel
    have HOWN := veil hown
    have HB := veil hbel
    have hsz := hbel.size
    clear hown hbel
    by_cases hlt : k < N
    · have hdk : decide ((k : Int) < (N : Int)) = true := by simp; omega
      have ck : wr.cell? ⟨st, k, none⟩ = some (.slice (L k).a (L k).len (L k).cap) := (HB.out.cell (p := ⟨st, k, none⟩) hst).trans (HC.out k hlt)
      have HQ := veil ((HL.out k hlt).1.below HB.out)
      have hql := (HL.out k hlt).2
      have hql' : (L k).len ≤ 140737488355328 := by omega
      have hqb := HQ.out.hb
      generalize hq : L k = q at *
      have HQQ := veil hq
      clear hq
      have hpad := pad16_lt q.len
      go_wp2_with (with_reducible (show wpList _ _ _ (⟨some 17, Op.call _, _, _, _, _⟩ :: _) _ _)
                   refine append_sl rfl _ _ 22 rfl w.heap.size i0 Tryz.underlying22 hi hz0 hz1 hz2 _ n _ rfl HOWN.out q HQ.out rfl (by omega) hsz ?_
                   intro v1 w1 hown1 hgrow1)
      obtain ⟨a1, c1, rfl⟩ := own_shape hown1
      have HB1 := veil (HB.out.grown hgrow1 hsz (fun k e => (HOWN.out.lt k e).1))
      have hsz1 := HB1.out.size
      have HO1 := veil hown1
      clear hown1 hgrow1 HOWN HQ HB ck
      go_wp2_with fail
      refine (missing_any q.len hql' w1).mono ?_
      rintro e2 w2 ⟨rfl, hw2⟩
      rw [hw2]
      clear hw2 w2
      obtain ⟨v3, w3, hr3, hown3, hgrow3⟩ := run_append_zeros8 (P := Tryz.prog) w1 w.heap.size 22 3 22 5 i0 .i64 .i64 Tryz.underlying22 Tryz.underlying3 hi hz0 hz1 hz2 _ _ _ HO1.out (pad16 q.len) (by omega) hsz1
      have HR3 := veil hr3
      clear hr3
      go_wp2_with (with_reducible (show wpList _ _ _ (⟨some 22, Op.call _, _, _, _, _⟩ :: _) _ _)
                   refine Lib.wpList_append_run w1 rfl _ _ 22 3 rfl _ _ rfl rfl _ _ HR3.out ?_)
      obtain ⟨a3, c3, rfl⟩ := own_shape hown3
      have HB3 := veil (HB1.out.grown hgrow3 hsz1 (fun k e => (HO1.out.lt k e).1))
      have HO3 := veil hown3
      clear hown3 hgrow3 HO1 HB1
      go_wp2_with fail
      go_roundw
      case rel =>
        have e : accT L (k + 1) = accT L k ++ q.b ++ List.replicate (pad16 q.len) 0 := by rw [← HQQ.out]; rfl
        refine ⟨k + 1, n + q.len + pad16 q.len, a3, c3, by omega, by go_num, by omega, rfl, ?_, ?_, HB3.out⟩
        · show _ = _
          rw [e, List.length_append, List.length_append, List.length_replicate, ← HNL.out, hqb]
        · rw [e]; exact HO3.out
      case measure => simp [intOf]; omega
    · obtain rfl : N = k := by omega
      have hdk : decide ((N : Int) < (N : Int)) = false := by simp
      go_wp2_with fail
      go_loopw [3, 26] (fun bv iv wr2 => ∃ (k2 n2 : Nat) (a2 : Option Addr) (c2 : Nat), k2 ≤ N ∧ iv = .int .i64 k2 ∧ n2 ≤ 1048592 * N + 8 * k2 ∧ bv = .slice a2 n2 c2 ∧ Hid (n2 = (numT L (accT L N) k2).length) ∧ wr2.ownsRow w.heap.size 5 1 (.slice a2 n2 c2) n2 (vb (numT L (accT L N) k2)) ∧ Below w.heap.size w wr2)
        (fun _ iv _ => N - (intOf iv).toNat)
      case atStart => exact ⟨0, n, a, c, by omega, rfl, by omega, rfl, HNL, HOWN.out, HB.out⟩
      case round =>
        clear HOWN HB HNL
        obtain ⟨k2, n2, a2, c2, hk2, rfl, hn2, rfl, HNL2, hown2, hbel2⟩ := hrel
        have HOWN2 := veil hown2
        have HB2 := veil hbel2
        have hsz2 := hbel2.size
        clear hown2 hbel2
        by_cases hlt2 : k2 < N
        · have hdk2 : decide ((k2 : Int) < (N : Int)) = true := by simp; omega
          have ck : wr.cell? ⟨st, k2, none⟩ = some (.slice (L k2).a (L k2).len (L k2).cap) := (HB2.out.cell (p := ⟨st, k2, none⟩) hst).trans (HC.out k2 hlt2)
          have hql := (HL.out k2 hlt2).2
          generalize hq : L k2 = q at *
          have HQQ := veil hq
          clear hq
          go_wp2_with fail
          go_loopw [3, 30] (fun bv iv wr3 => ∃ (i n3 : Nat) (a3 : Option Addr) (c3 : Nat), i ≤ 8 ∧ iv = .int .i64 i ∧ n3 ≤ 1048592 * N + 8 * k2 + i ∧ bv = .slice a3 n3 c3 ∧ Hid (n3 = (numT L (accT L N) k2 ++ eightTo q.len i).length) ∧ wr3.ownsRow w.heap.size 5 1 (.slice a3 n3 c3) n3 (vb (numT L (accT L N) k2 ++ eightTo q.len i)) ∧ Below w.heap.size w wr3)
            (fun _ iv _ => 8 - (intOf iv).toNat)
          case atStart =>
            refine ⟨0, n2, a2, c2, by omega, rfl, by omega, rfl, ?_, ?_, HB2.out⟩
            · rw [eightTo_zero, List.append_nil]; exact HNL2
            · rw [eightTo_zero, List.append_nil]; exact HOWN2.out
          case round =>
            obtain ⟨i, n3, a3, c3, hi8, rfl, hn3, rfl, HNL3, hown3, hbel3⟩ := hrel
            have HOWN3 := veil hown3
            have HB3 := veil hbel3
            have hsz3 := hbel3.size
            clear hown3 hbel3
            by_cases hlt3 : i < 8
            · have hdk3 : decide ((i : Int) < 8) = true := by simp; omega
              have hs1 := shr8a (q.len : Int) i hlt3
              have HV := veil (byte_shr q.len i)
              have hw1 : IntKind.u64.wrap (q.len : Int) = (q.len : Int) := by rw [IntKind.wrap_u64]; omega
              go_wp2_with (with_reducible (show wpList _ _ _ (⟨some 42, Op.call _, _, _, _, _⟩ :: _) _ _)
                           rw [HV.out]
                           refine append_sl rfl _ _ 22 rfl w.heap.size i0 Tryz.underlying22 hi hz0 hz1 hz2 _ n3 _ rfl (HOWN3.out.alloc _) (rowN wr.heap.size 1 [byteAt q.len i]) (rowN_ok (Row.new _ _ _) rfl) rfl (by show n3 + 1 ≤ 8388608; omega) (by simp; omega) ?_
                           intro v4 w4 hown4 hgrow4)
              obtain ⟨a4, c4, rfl⟩ := own_shape hown4
              have HB4 := veil ((HB3.out.alloc hsz3 (.cells #[.int .u8 (v8 (byteAt q.len i))] 5)).grown hgrow4 (by simp; omega) (fun k e => (HOWN3.out.lt k e).1))
              have HO4 := veil hown4
              clear hown4 hgrow4
              go_wp2_with fail
              go_roundw
              case rel =>
                refine ⟨i + 1, n3 + 1, a4, c4, by omega, by go_num, by omega, rfl, ?_, ?_, HB4.out⟩
                · show _ = _
                  rw [eightTo_succ, ← List.append_assoc, List.length_append, ← HNL3.out]
                  rfl
                · rw [eightTo_succ, ← List.append_assoc]; exact HO4.out
              case measure => simp [intOf]; omega
            · have hdk3 : decide ((i : Int) < 8) = false := by simp; omega
              obtain rfl : i = 8 := by omega
              go_wp2_with fail
              go_roundw
              case rel =>
                have e : numT L (accT L N) (k2 + 1) = numT L (accT L N) k2 ++ eightTo q.len 8 := by rw [← HQQ.out]; rfl
                exact ⟨k2 + 1, n3, a3, c3, by omega, by go_num, by omega, rfl, by rw [e]; exact HNL3, by rw [e]; exact HOWN3.out, HB3.out⟩
              case measure => simp [intOf]; omega
        · obtain rfl : N = k2 := by omega
          have hdk2 : decide ((N : Int) < (N : Int)) = false := by simp
          have hNL2 := HNL2.out
          subst hNL2
          go_wp2_with fail
          go_ret
          exact ⟨_, rfl, HOWN2.out, HB2.out⟩
end Go.Proofs.YtbheoldakmcppaaGreatDoor

/-! What aead.arrayOf answers, at each of its three kinds. Written by mkarr.py. -/
namespace Go.Proofs.YtbheoldakmcppaaGreatDoor
open Go Go.RowKit

theorem array32_no (b : SL) (w : World) (h : b.len ≠ 32) :
    Calls Tryz.prog 117 #[.slice b.a b.len b.cap] w fun e w' => e = .returned (.tuple #[.agg (bs z32b), .bool false]) ∧ Below w.heap.size w w' := by
  have hne : ((b.len : Int) != 32) = true := by simp; omega
  have r0 : Row ((w.alloc (.cells (bs z32b) 78)).alloc (.cells (bs z32b) 78)) w.heap.size 78 (bs z32b) := (Row.new _ _ _).alloc _
  have r1 : Row ((w.alloc (.cells (bs z32b) 78)).alloc (.cells (bs z32b) 78)) (w.heap.size + 1) 78 (bs z32b) := Row.new1 _ _ _ _
  have b0 : Below w.heap.size w ((w.alloc (.cells (bs z32b) 78)).alloc (.cells (bs z32b) 78)) := ((Below.refl _ w).alloc (Nat.le_refl _) _).alloc (by simp) _
  have hz : (bs z32b).size = 32 := by rw [bs_size]; rfl
  go_enter Tryz.func117, Tryz.ntmps117
  go_wp2_with (first
    | (with_reducible (show wpList _ _ _ (⟨_, Op.alloc 78, _, _, _, _⟩ :: _) _ _)
       refine alloc_row rfl 78 rfl (bs z32b) (by kernel_rfl) ?_)
    | (with_reducible (show wpList _ _ _ (⟨_, Op.load 78 _, _, _, _, _⟩ :: _) _ _)
       refine load_row rfl 78 _ rfl (w.heap.size + 1) rfl _ _ r1 32 5 Tryz.underlying78 (by kernel_rfl) hz ?_)
    | (with_reducible (show wpList _ _ _ (⟨_, Op.store 78 _ _, _, _, _, _⟩ :: _) _ _)
       refine store_row rfl 78 _ _ rfl w.heap.size (bs z32b) rfl rfl _ _ r0 32 (by kernel_rfl) hz hz (bs_one _) ?_))
  refine bodyPost_ret (result_row_tmp rfl _ _ w.heap.size _ _ (r0.put _) 32 5 (.bool false) rfl rfl Tryz.underlying78 (by kernel_rfl) hz) rfl ⟨rfl, bSetRow b0 (Nat.le_refl _) _⟩

set_option maxRecDepth 20000 in
set_option maxHeartbeats 1000000 in
theorem array32_yes (b : SL) (w : World) (hb : b.Ok w) (h : b.len = 32) :
    Calls Tryz.prog 117 #[.slice b.a b.len b.cap] w fun e w' => e = .returned (.tuple #[.agg (bs b.b), .bool true]) ∧ Below w.heap.size w w' := by
  obtain ⟨ba, bl, bc, bg, bo, bb⟩ := b
  simp only at h
  subst h
  have HB := veil hb
  clear hb
  have hbl : bb.length = 32 := HB.out.hb
  have HBL := veil hbl
  have he : ba = some ⟨bg, bo, none⟩ := HB.out.at_ (show 0 < 32 by omega)
  subst he
  have hlt : bg < w.heap.size := HB.out.lt (show 0 < 32 by omega)
  clear hbl
  have r0 : Row ((w.alloc (.cells (bs z32b) 78)).alloc (.cells (bs z32b) 78)) w.heap.size 78 (bs z32b) := (Row.new _ _ _).alloc _
  have r1 : Row ((w.alloc (.cells (bs z32b) 78)).alloc (.cells (bs z32b) 78)) (w.heap.size + 1) 78 (bs z32b) := Row.new1 _ _ _ _
  have b0 : Below w.heap.size w ((w.alloc (.cells (bs z32b) 78)).alloc (.cells (bs z32b) 78)) := ((Below.refl _ w).alloc (Nat.le_refl _) _).alloc (by simp) _
  have hz : (bs z32b).size = 32 := by rw [bs_size]; rfl
  go_enter Tryz.func117, Tryz.ntmps117
  go_wp2_with (first
    | (with_reducible (show wpList _ _ _ (⟨_, Op.alloc 78, _, _, _, _⟩ :: _) _ _)
       refine alloc_row rfl 78 rfl (bs z32b) (by kernel_rfl) ?_)
    | (with_reducible (show wpList _ _ _ (⟨_, Op.load 78 _, _, _, _, _⟩ :: _) _ _)
       refine load_row rfl 78 _ rfl (w.heap.size + 1) rfl _ _ r1 32 5 Tryz.underlying78 (by kernel_rfl) hz ?_))
  go_loopw [15] (fun iv wr => ∃ (k : Nat) (zs : List By), k ≤ 32 ∧ iv = .int .i64 k ∧ Hid (zs.length = 32) ∧ Hid (∀ j, j < k → gb zs j = gb bb j) ∧ Row wr w.heap.size 78 (bs z32b) ∧ Row wr (w.heap.size + 1) 78 (bs zs) ∧ Below w.heap.size w wr)
    (fun iv _ => 32 - (intOf iv).toNat)
  case atStart =>
    exact ⟨0, z32b, by omega, rfl, (show z32b.length = 32 from rfl), (fun j hj => by omega), r0, r1, b0⟩
  case round =>
    clear r0 r1 b0
    obtain ⟨k, zs, hk, rfl, HL, HD, r0, r1, hbel⟩ := hrel
    by_cases h16 : k < 32
    · have hdk : decide ((k : Int) < 32) = true := by simp; omega
      have cx : wr.cell? ⟨bg, bo + k, none⟩ = some (.int .u8 (v8 (gb bb k))) := (hbel.cell (p := ⟨bg, bo + k, none⟩) hlt).trans (HB.out.cell k h16)
      have cz := r1.cellB (j := k) (by rw [HL.out]; exact h16)
      have fx := r1.frozen k
      generalize hX : gb bb k = X at *
      have HX := veil hX
      clear hX
      go_wp2
      go_roundw
      case rel =>
        have q1 := r1.set k (.int .u8 (v8 X))
        rw [bs_set] at q1
        refine ⟨k + 1, _, by omega, by go_num, ?_, ?_, r0.other (by show w.heap.size ≠ w.heap.size + 1; omega) _, q1, hbel.setCell (p := ⟨w.heap.size + 1, k, none⟩) (by show w.heap.size ≤ w.heap.size + 1; omega) _⟩
        · show List.length _ = 32
          rw [List.length_set]; exact HL.out
        · intro j hj
          rw [gb_set _ (by rw [HL.out]; exact h16)]
          split
          · rename_i h; subst h; exact HX.out.symm
          · exact HD.out j (by omega)
      case measure => simp [intOf]; omega
    · have hdk : decide ((k : Int) < 32) = false := by simp; omega
      rw [show k = 32 by omega] at HD
      have e : zs = bb := gb_ext (by rw [HL.out, HBL.out]) (fun p hp => HD.out p (by rw [HL.out] at hp; exact hp))
      subst e
      have hsz : (bs zs).size = 32 := by rw [bs_size, HL.out]
      go_wp2_with (first
        | (with_reducible (show wpList _ _ _ (⟨_, Op.load 78 _, _, _, _, _⟩ :: _) _ _)
           refine load_row rfl 78 _ rfl (w.heap.size + 1) rfl _ _ r1 32 5 Tryz.underlying78 (by kernel_rfl) hsz ?_)
        | (with_reducible (show wpList _ _ _ (⟨_, Op.store 78 _ _, _, _, _, _⟩ :: _) _ _)
           refine store_row rfl 78 _ _ rfl w.heap.size (bs zs) rfl rfl _ _ r0 32 (by kernel_rfl) hz hsz (bs_one _) ?_))
      refine bodyPost_ret (result_row_tmp rfl _ _ w.heap.size _ _ (r0.put _) 32 5 (.bool true) rfl rfl Tryz.underlying78 (by kernel_rfl) hsz) rfl ⟨rfl, bSetRow hbel (Nat.le_refl _) _⟩

theorem array12_no (b : SL) (w : World) (h : b.len ≠ 12) :
    Calls Tryz.prog 118 #[.slice b.a b.len b.cap] w fun e w' => e = .returned (.tuple #[.agg (bs z12), .bool false]) ∧ Below w.heap.size w w' := by
  have hne : ((b.len : Int) != 12) = true := by simp; omega
  have r0 : Row ((w.alloc (.cells (bs z12) 76)).alloc (.cells (bs z12) 76)) w.heap.size 76 (bs z12) := (Row.new _ _ _).alloc _
  have r1 : Row ((w.alloc (.cells (bs z12) 76)).alloc (.cells (bs z12) 76)) (w.heap.size + 1) 76 (bs z12) := Row.new1 _ _ _ _
  have b0 : Below w.heap.size w ((w.alloc (.cells (bs z12) 76)).alloc (.cells (bs z12) 76)) := ((Below.refl _ w).alloc (Nat.le_refl _) _).alloc (by simp) _
  have hz : (bs z12).size = 12 := by rw [bs_size]; rfl
  go_enter Tryz.func118, Tryz.ntmps118
  go_wp2_with (first
    | (with_reducible (show wpList _ _ _ (⟨_, Op.alloc 76, _, _, _, _⟩ :: _) _ _)
       refine alloc_row rfl 76 rfl (bs z12) (by kernel_rfl) ?_)
    | (with_reducible (show wpList _ _ _ (⟨_, Op.load 76 _, _, _, _, _⟩ :: _) _ _)
       refine load_row rfl 76 _ rfl (w.heap.size + 1) rfl _ _ r1 12 5 Tryz.underlying76 (by kernel_rfl) hz ?_)
    | (with_reducible (show wpList _ _ _ (⟨_, Op.store 76 _ _, _, _, _, _⟩ :: _) _ _)
       refine store_row rfl 76 _ _ rfl w.heap.size (bs z12) rfl rfl _ _ r0 12 (by kernel_rfl) hz hz (bs_one _) ?_))
  refine bodyPost_ret (result_row_tmp rfl _ _ w.heap.size _ _ (r0.put _) 12 5 (.bool false) rfl rfl Tryz.underlying76 (by kernel_rfl) hz) rfl ⟨rfl, bSetRow b0 (Nat.le_refl _) _⟩

set_option maxRecDepth 20000 in
set_option maxHeartbeats 1000000 in
theorem array12_yes (b : SL) (w : World) (hb : b.Ok w) (h : b.len = 12) :
    Calls Tryz.prog 118 #[.slice b.a b.len b.cap] w fun e w' => e = .returned (.tuple #[.agg (bs b.b), .bool true]) ∧ Below w.heap.size w w' := by
  obtain ⟨ba, bl, bc, bg, bo, bb⟩ := b
  simp only at h
  subst h
  have HB := veil hb
  clear hb
  have hbl : bb.length = 12 := HB.out.hb
  have HBL := veil hbl
  have he : ba = some ⟨bg, bo, none⟩ := HB.out.at_ (show 0 < 12 by omega)
  subst he
  have hlt : bg < w.heap.size := HB.out.lt (show 0 < 12 by omega)
  clear hbl
  have r0 : Row ((w.alloc (.cells (bs z12) 76)).alloc (.cells (bs z12) 76)) w.heap.size 76 (bs z12) := (Row.new _ _ _).alloc _
  have r1 : Row ((w.alloc (.cells (bs z12) 76)).alloc (.cells (bs z12) 76)) (w.heap.size + 1) 76 (bs z12) := Row.new1 _ _ _ _
  have b0 : Below w.heap.size w ((w.alloc (.cells (bs z12) 76)).alloc (.cells (bs z12) 76)) := ((Below.refl _ w).alloc (Nat.le_refl _) _).alloc (by simp) _
  have hz : (bs z12).size = 12 := by rw [bs_size]; rfl
  go_enter Tryz.func118, Tryz.ntmps118
  go_wp2_with (first
    | (with_reducible (show wpList _ _ _ (⟨_, Op.alloc 76, _, _, _, _⟩ :: _) _ _)
       refine alloc_row rfl 76 rfl (bs z12) (by kernel_rfl) ?_)
    | (with_reducible (show wpList _ _ _ (⟨_, Op.load 76 _, _, _, _, _⟩ :: _) _ _)
       refine load_row rfl 76 _ rfl (w.heap.size + 1) rfl _ _ r1 12 5 Tryz.underlying76 (by kernel_rfl) hz ?_))
  go_loopw [15] (fun iv wr => ∃ (k : Nat) (zs : List By), k ≤ 12 ∧ iv = .int .i64 k ∧ Hid (zs.length = 12) ∧ Hid (∀ j, j < k → gb zs j = gb bb j) ∧ Row wr w.heap.size 76 (bs z12) ∧ Row wr (w.heap.size + 1) 76 (bs zs) ∧ Below w.heap.size w wr)
    (fun iv _ => 12 - (intOf iv).toNat)
  case atStart =>
    exact ⟨0, z12, by omega, rfl, (show z12.length = 12 from rfl), (fun j hj => by omega), r0, r1, b0⟩
  case round =>
    clear r0 r1 b0
    obtain ⟨k, zs, hk, rfl, HL, HD, r0, r1, hbel⟩ := hrel
    by_cases h16 : k < 12
    · have hdk : decide ((k : Int) < 12) = true := by simp; omega
      have cx : wr.cell? ⟨bg, bo + k, none⟩ = some (.int .u8 (v8 (gb bb k))) := (hbel.cell (p := ⟨bg, bo + k, none⟩) hlt).trans (HB.out.cell k h16)
      have cz := r1.cellB (j := k) (by rw [HL.out]; exact h16)
      have fx := r1.frozen k
      generalize hX : gb bb k = X at *
      have HX := veil hX
      clear hX
      go_wp2
      go_roundw
      case rel =>
        have q1 := r1.set k (.int .u8 (v8 X))
        rw [bs_set] at q1
        refine ⟨k + 1, _, by omega, by go_num, ?_, ?_, r0.other (by show w.heap.size ≠ w.heap.size + 1; omega) _, q1, hbel.setCell (p := ⟨w.heap.size + 1, k, none⟩) (by show w.heap.size ≤ w.heap.size + 1; omega) _⟩
        · show List.length _ = 12
          rw [List.length_set]; exact HL.out
        · intro j hj
          rw [gb_set _ (by rw [HL.out]; exact h16)]
          split
          · rename_i h; subst h; exact HX.out.symm
          · exact HD.out j (by omega)
      case measure => simp [intOf]; omega
    · have hdk : decide ((k : Int) < 12) = false := by simp; omega
      rw [show k = 12 by omega] at HD
      have e : zs = bb := gb_ext (by rw [HL.out, HBL.out]) (fun p hp => HD.out p (by rw [HL.out] at hp; exact hp))
      subst e
      have hsz : (bs zs).size = 12 := by rw [bs_size, HL.out]
      go_wp2_with (first
        | (with_reducible (show wpList _ _ _ (⟨_, Op.load 76 _, _, _, _, _⟩ :: _) _ _)
           refine load_row rfl 76 _ rfl (w.heap.size + 1) rfl _ _ r1 12 5 Tryz.underlying76 (by kernel_rfl) hsz ?_)
        | (with_reducible (show wpList _ _ _ (⟨_, Op.store 76 _ _, _, _, _, _⟩ :: _) _ _)
           refine store_row rfl 76 _ _ rfl w.heap.size (bs zs) rfl rfl _ _ r0 12 (by kernel_rfl) hz hsz (bs_one _) ?_))
      refine bodyPost_ret (result_row_tmp rfl _ _ w.heap.size _ _ (r0.put _) 12 5 (.bool true) rfl rfl Tryz.underlying76 (by kernel_rfl) hsz) rfl ⟨rfl, bSetRow hbel (Nat.le_refl _) _⟩

set_option maxRecDepth 20000 in
set_option maxHeartbeats 1000000 in
theorem array16_yes (b : SL) (w : World) (hb : b.Ok w) (h : b.len = 16) :
    Calls Tryz.prog 169 #[.slice b.a b.len b.cap] w fun e w' => e = .returned (.tuple #[.agg (bs b.b), .bool true]) ∧ Below w.heap.size w w' := by
  obtain ⟨ba, bl, bc, bg, bo, bb⟩ := b
  simp only at h
  subst h
  have HB := veil hb
  clear hb
  have hbl : bb.length = 16 := HB.out.hb
  have HBL := veil hbl
  have he : ba = some ⟨bg, bo, none⟩ := HB.out.at_ (show 0 < 16 by omega)
  subst he
  have hlt : bg < w.heap.size := HB.out.lt (show 0 < 16 by omega)
  clear hbl
  have r0 : Row ((w.alloc (.cells (bs z16) 83)).alloc (.cells (bs z16) 83)) w.heap.size 83 (bs z16) := (Row.new _ _ _).alloc _
  have r1 : Row ((w.alloc (.cells (bs z16) 83)).alloc (.cells (bs z16) 83)) (w.heap.size + 1) 83 (bs z16) := Row.new1 _ _ _ _
  have b0 : Below w.heap.size w ((w.alloc (.cells (bs z16) 83)).alloc (.cells (bs z16) 83)) := ((Below.refl _ w).alloc (Nat.le_refl _) _).alloc (by simp) _
  have hz : (bs z16).size = 16 := by rw [bs_size]; rfl
  go_enter Tryz.func169, Tryz.ntmps169
  go_wp2_with (first
    | (with_reducible (show wpList _ _ _ (⟨_, Op.alloc 83, _, _, _, _⟩ :: _) _ _)
       refine alloc_row rfl 83 rfl (bs z16) (by kernel_rfl) ?_)
    | (with_reducible (show wpList _ _ _ (⟨_, Op.load 83 _, _, _, _, _⟩ :: _) _ _)
       refine load_row rfl 83 _ rfl (w.heap.size + 1) rfl _ _ r1 16 5 Tryz.underlying83 (by kernel_rfl) hz ?_))
  go_loopw [15] (fun iv wr => ∃ (k : Nat) (zs : List By), k ≤ 16 ∧ iv = .int .i64 k ∧ Hid (zs.length = 16) ∧ Hid (∀ j, j < k → gb zs j = gb bb j) ∧ Row wr w.heap.size 83 (bs z16) ∧ Row wr (w.heap.size + 1) 83 (bs zs) ∧ Below w.heap.size w wr)
    (fun iv _ => 16 - (intOf iv).toNat)
  case atStart =>
    exact ⟨0, z16, by omega, rfl, (show z16.length = 16 from rfl), (fun j hj => by omega), r0, r1, b0⟩
  case round =>
    clear r0 r1 b0
    obtain ⟨k, zs, hk, rfl, HL, HD, r0, r1, hbel⟩ := hrel
    by_cases h16 : k < 16
    · have hdk : decide ((k : Int) < 16) = true := by simp; omega
      have cx : wr.cell? ⟨bg, bo + k, none⟩ = some (.int .u8 (v8 (gb bb k))) := (hbel.cell (p := ⟨bg, bo + k, none⟩) hlt).trans (HB.out.cell k h16)
      have cz := r1.cellB (j := k) (by rw [HL.out]; exact h16)
      have fx := r1.frozen k
      generalize hX : gb bb k = X at *
      have HX := veil hX
      clear hX
      go_wp2
      go_roundw
      case rel =>
        have q1 := r1.set k (.int .u8 (v8 X))
        rw [bs_set] at q1
        refine ⟨k + 1, _, by omega, by go_num, ?_, ?_, r0.other (by show w.heap.size ≠ w.heap.size + 1; omega) _, q1, hbel.setCell (p := ⟨w.heap.size + 1, k, none⟩) (by show w.heap.size ≤ w.heap.size + 1; omega) _⟩
        · show List.length _ = 16
          rw [List.length_set]; exact HL.out
        · intro j hj
          rw [gb_set _ (by rw [HL.out]; exact h16)]
          split
          · rename_i h; subst h; exact HX.out.symm
          · exact HD.out j (by omega)
      case measure => simp [intOf]; omega
    · have hdk : decide ((k : Int) < 16) = false := by simp; omega
      rw [show k = 16 by omega] at HD
      have e : zs = bb := gb_ext (by rw [HL.out, HBL.out]) (fun p hp => HD.out p (by rw [HL.out] at hp; exact hp))
      subst e
      have hsz : (bs zs).size = 16 := by rw [bs_size, HL.out]
      go_wp2_with (first
        | (with_reducible (show wpList _ _ _ (⟨_, Op.load 83 _, _, _, _, _⟩ :: _) _ _)
           refine load_row rfl 83 _ rfl (w.heap.size + 1) rfl _ _ r1 16 5 Tryz.underlying83 (by kernel_rfl) hsz ?_)
        | (with_reducible (show wpList _ _ _ (⟨_, Op.store 83 _ _, _, _, _, _⟩ :: _) _ _)
           refine store_row rfl 83 _ _ rfl w.heap.size (bs zs) rfl rfl _ _ r0 16 (by kernel_rfl) hz hsz (bs_one _) ?_))
      refine bodyPost_ret (result_row_tmp rfl _ _ w.heap.size _ _ (r0.put _) 16 5 (.bool true) rfl rfl Tryz.underlying83 (by kernel_rfl) hsz) rfl ⟨rfl, bSetRow hbel (Nat.le_refl _) _⟩
end Go.Proofs.YtbheoldakmcppaaGreatDoor

/-! What aead.same answers. -/
namespace Go.Proofs.YtbheoldakmcppaaGreatDoor
open Go Go.RowKit

def ob (x y : By) : By := x ||| y
theorem bob (x y : By) : bits .or .u8 (v8 x) (v8 y) = v8 (ob x y) := by
  rw [u8_or _ _ (v8_nn x) (by have := v8_le x; omega) (v8_nn y) (by have := v8_le y; omega), v8_nat, v8_nat]
  unfold v8 ob
  rw [BitVec.toNat_or]
theorem ob_zero (x y z : By) : ob x (xb y z) = 0 ↔ x = 0 ∧ y = z := by
  unfold ob xb
  constructor
  · intro h
    have h1 : x = 0 := by
      apply BitVec.eq_of_getLsbD_eq
      intro i hi
      have := congrArg (fun t => t.getLsbD i) h
      simp at this
      simp [this.1]
    have h2 : y ^^^ z = 0 := by rw [h1] at h; simpa using h
    refine ⟨h1, ?_⟩
    have := congrArg (· ^^^ z) h2
    simpa [BitVec.xor_assoc] using this
  · rintro ⟨rfl, rfl⟩
    simp
theorem v8_zero_iff (x : By) : (v8 x == 0) = decide (x = 0) := by
  by_cases h : x = 0
  · subst h; rfl
  · rw [decide_eq_false h]
    have : v8 x ≠ 0 := fun e => h (by
      apply BitVec.eq_of_toNat_eq
      unfold v8 at e
      have : x.toNat = 0 := by omega
      rw [this]; rfl)
    simpa using this

set_option maxRecDepth 20000 in
set_option maxHeartbeats 1000000 in
theorem same_tags (a b : List By) (ha : a.length = 16) (hb : b.length = 16) (w : World) :
    Calls Tryz.prog 170 #[.agg (bs a), .agg (bs b)] w fun e w' => e = .returned (.bool (decide (a = b))) ∧ Below w.heap.size w w' := by
  have HA := veil ha
  have HB := veil hb
  clear ha hb
  have r0 : Row ((w.alloc (.cells (bs a) 83)).alloc (.cells (bs b) 83)) w.heap.size 83 (bs a) := (Row.new _ _ _).alloc _
  have r1 : Row ((w.alloc (.cells (bs a) 83)).alloc (.cells (bs b) 83)) (w.heap.size + 1) 83 (bs b) := Row.new1 _ _ _ _
  have b0 : Below w.heap.size w ((w.alloc (.cells (bs a) 83)).alloc (.cells (bs b) 83)) := ((Below.refl _ w).alloc (Nat.le_refl _) _).alloc (by simp) _
  go_enter Tryz.func170, Tryz.ntmps170
  go_wp2
  go_loopw [5, 7] (fun ov iv wr => ∃ (k : Nat) (o : By), k ≤ 16 ∧ iv = .int .i64 k ∧ ov = .int .u8 (v8 o) ∧ Hid (o = 0 ↔ ∀ j, j < k → gb a j = gb b j) ∧ Row wr w.heap.size 83 (bs a) ∧ Row wr (w.heap.size + 1) 83 (bs b) ∧ Below w.heap.size w wr)
    (fun _ iv _ => 16 - (intOf iv).toNat)
  case atStart => exact ⟨0, 0, by omega, rfl, rfl, (show _ ↔ _ from ⟨fun _ j hj => by omega, fun _ => rfl⟩), r0, r1, b0⟩
  case round =>
    clear r0 r1 b0
    obtain ⟨k, o, hk, rfl, rfl, HO, r0, r1, hbel⟩ := hrel
    by_cases h16 : k < 16
    · have hdk : decide ((k : Int) < 16) = true := by simp; omega
      have cx := r0.cellB (j := k) (by rw [HA.out]; exact h16)
      have cy := r1.cellB (j := k) (by rw [HB.out]; exact h16)
      have h1 := bxb (gb a k) (gb b k)
      have h2 := bob o (xb (gb a k) (gb b k))
      go_wp2
      go_quiet (fail)
      go_wp2
      go_roundw
      case rel =>
        refine ⟨k + 1, ob o (xb (gb a k) (gb b k)), by omega, by go_num, rfl, ?_, r0, r1, below_drewN hbel _⟩
        show _ ↔ _
        rw [ob_zero, HO.out]
        constructor
        · rintro ⟨h1, h2⟩ j hj
          by_cases e : j = k
          · rw [e]; exact h2
          · exact h1 j (by omega)
        · intro h
          exact ⟨fun j hj => h j (by omega), h k (by omega)⟩
      case measure => simp [intOf]; omega
    · have hdk : decide ((k : Int) < 16) = false := by simp; omega
      rw [show k = 16 by omega] at HO
      have e : (v8 o == 0) = decide (a = b) := by
        rw [v8_zero_iff]
        congr 1
        rw [HO.out]
        refine propext ⟨fun h => gb_ext (by rw [HA.out, HB.out]) (fun p hp => h p (by rw [HA.out] at hp; exact hp)), fun h j _ => by rw [h]⟩
      go_wp2
      go_ret
      refine ⟨?_, hbel⟩
      rw [← e]
      rfl
end Go.Proofs.YtbheoldakmcppaaGreatDoor
