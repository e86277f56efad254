/-
  append of so many zeros to a row of the call's own: no program in sight.
-/
import Derived.Test.YtffokggejbmadaaDoorGd3
namespace Go.Proofs.YtffokggejbmadaaDoor
open Go Go.RowKit

def zs8 (m : Nat) : List Value := vb (List.replicate m (0 : By))
theorem zs8_length (m : Nat) : (zs8 m).length = m := by rw [zs8, vb_length, List.length_replicate]
theorem zs8_one (m : Nat) : ∀ u ∈ zs8 m, u.oneCell' = true := vb_one _
theorem zeroCells_vb (m : Nat) : Builtin.zeroCells (Value.int .u8 0).cells m = (zs8 m).toArray := by
  have h1 : (Value.int .u8 0).cells = #[.int .u8 0] := rfl
  rw [h1]
  apply Array.ext
  · simp [Builtin.zeroCells, zs8, vb]
  · intro i h2 h3
    simp [Builtin.zeroCells, zs8, vb, v8, Nat.mod_one]

theorem run_append_zeros8 {P : Program} (w : World) (base : Nat) (t tn ty e : TypeId) (i : TypeInfo) (kn k : IntKind) (ht : P.underlying t = some (.slice e)) (htn : P.underlying tn = some (.int kn)) (hi : P.info? e = some i) (hz : i.zero = some (.int .u8 0)) (hsize : i.size = 1) (hby : i.bytes = 1)
    (v : Value) (n : Nat) (xs : List By) (hown : w.ownsRow base e 1 v n (vb xs)) (m : Nat) (hl : n + m ≤ 8388608) (hbase : base ≤ w.heap.size) :
    ∃ v' w', (Builtin.append_ #[t, tn] ty #[v, .int k (m : Int)]).run P w = .ok v' w' ∧ w'.ownsRow base e 1 v' (n + m) (vb (xs ++ List.replicate m 0)) ∧ w.grownBy w' v.ownBlock := by
  have hwr : IntKind.i64.wrap (m : Int) = m := by rw [IntKind.wrap_i64]; omega
  have hneg : ¬ ((m : Int) < 0) := by omega
  have hw0 : IntKind.i64.wrap 0 = 0 := by rw [IntKind.wrap_i64]; rfl
  have h48i : ¬ (281474976710656 < (m : Int)) := by omega
  have hxl : (vb xs).length = n := by have := hown.1; omega
  have hvr : vb (xs ++ List.replicate m 0) = vb xs ++ zs8 m := vb_append _ _
  have hrl : (zs8 m).length = m := zs8_length m
  have grown : ∀ (old : Nat), old < n + m → ∀ (row : Option Nat),
      (w.drew.alloc (.cells ((vb xs).toArray ++ (zs8 m).toArray ++ Builtin.zeroCells (Value.int .u8 0).cells (grownCap w (n + m) old e - (n + m))) e)).ownsRow base e 1
        (.slice (some ⟨w.heap.size, 0, none⟩) (n + m) (grownCap w (n + m) old e)) (n + m) (vb (xs ++ List.replicate m 0)) ∧
      w.grownBy (w.drew.alloc (.cells ((vb xs).toArray ++ (zs8 m).toArray ++ Builtin.zeroCells (Value.int .u8 0).cells (grownCap w (n + m) old e - (n + m))) e)) row := by
    intro old ho row
    have hge := grownCap_ge w (n + m) old e
    have hcm : grownCap w (n + m) old e ≤ maxLen := grownCap_le_maxLen w (n + m) old e (by unfold maxLen; omega)
    refine ⟨⟨by rw [hvr, List.length_append, hxl, hrl]; omega, .inr ⟨w.heap.size, _, _, rfl, hbase, _root_.Go.heap_alloc_new w.drew _, hge, hcm, ?_, ?_⟩⟩, ⟨rfl, rfl, rfl, by simp, fun k hk _ => heap_alloc_old w.drew _ hk⟩⟩
    · simp only [Array.size_append, List.size_toArray, hxl, hrl, size_zeroCells]
      rw [show (Value.int .u8 0).cells.size = 1 from rfl]
      omega
    · simp only [Array.toList_append]
      rw [hvr, show (n + m) * 1 = (vb xs ++ zs8 m).length by rw [List.length_append, hxl, hrl]; omega]
      exact List.take_left
  rcases hown.2 with ⟨rfl, rfl⟩ | ⟨g, cap, cur, rfl, hbg, hg, hnc, hcm, hcs, htake⟩
  · have hx : xs = [] := List.eq_nil_of_length_eq_zero (by rw [vb_length] at hxl; exact hxl)
    subst hx
    by_cases hm : m = 0
    · subst hm
      refine ⟨.slice none 0 0, w, ?_, ?_, ⟨rfl, rfl, rfl, Nat.le_refl _, fun _ _ _ => rfl⟩⟩
      · simp [Builtin.append_, run_underlying ht, run_underlying htn, sizeOf, typeInfo, hi, asInt, asIntOf, hw0]
      · exact World.ownsRow_nil w base e 1
    · have hr := Lib.run_append_nil_zeros (P := P) w t tn ty e i (.int .u8 0) k kn ht htn hi hz m (by omega) (by omega) (by omega) (by rw [hby]; omega)
      have hgr := grown 0 (by omega) (Value.ownBlock (.slice none 0 0))
      simp only [Nat.zero_add] at hgr ⊢
      rw [show (vb ([] : List By)).toArray = #[] from rfl, Array.empty_append, ← zeroCells_vb] at hgr
      exact ⟨_, _, hr, hgr.1, hgr.2⟩
  · have h1 : cur.size = cap := by omega
    by_cases hm : m = 0
    · subst hm
      refine ⟨.slice (some ⟨g, 0, none⟩) n cap, w, ?_, ?_, ⟨rfl, rfl, rfl, Nat.le_refl _, fun _ _ _ => rfl⟩⟩
      · simp [Builtin.append_, run_underlying ht, run_underlying htn, sizeOf, typeInfo, hi, asInt, asIntOf, hw0, hnc, storeCells]
      · simpa using hown
    · by_cases hroom : n + m ≤ cap
      · have hst := run_storeCells_at P g (n * 1) e (zs8 m) 0 cur w hg (by rw [hrl]; omega) (zs8_one _)
        simp only [Nat.add_zero, Nat.mul_one] at hst
        have hadd : (⟨g, 0, none⟩ : Addr).add n = ⟨g, n, none⟩ := by unfold Addr.add; split <;> simp_all
        refine ⟨.slice (some ⟨g, 0, none⟩) (n + m) cap, w.setRow g (cur.toList.take n ++ zs8 m ++ cur.toList.drop (n + (zs8 m).length)).toArray, ?_, ⟨by rw [hvr, List.length_append, hxl, hrl]; omega, .inr ⟨g, cap, _, rfl, hbg, setRow_heap w g cur _ e _ hg, hroom, hcm, ?_, ?_⟩⟩, ⟨rfl, rfl, rfl, by simp, fun k _ hk => setRow_other w g k _ (fun e => hk (by simp [Value.ownBlock, e]))⟩⟩
        · simp [Builtin.append_, run_underlying ht, run_underlying htn, sizeOf, typeInfo, zeroValue, hi, hz, asInt, asIntOf, hsize, hby, hwr, hneg, hm, h48i, hroom, hadd, zeroCells_vb, hst]
        · simp only [List.size_toArray, List.length_append, List.length_take, List.length_drop, Array.length_toList, hrl]
          omega
        · have ht' : cur.toList.take n = vb xs := by rw [Nat.mul_one] at htake; exact htake
          simp only []
          rw [ht', hvr, show (n + m) * 1 = (vb xs ++ zs8 m).length by rw [List.length_append, hxl, hrl]; omega]
          exact List.take_left
      · have holds : ∀ j u, (vb xs)[j]? = some u → w.cell? ((⟨g, 0, none⟩ : Addr).add j) = some u := hown.cells (g := g) rfl
        have hfo := run_firstCells_some (P := P) w.drew 1 n ⟨g, 0, none⟩ n cap (vb xs) (by omega) (by simpa using holds)
        have h63' : ¬ (9223372036854775807 < ((n : Int) + (m : Int))) := by omega
        have h48' : ¬ (281474976710656 < Builtin.nextslicecap (n + m) cap) := by
          have := growslice_fits (need := n + m) (old := cap) (bytes := 1) (by omega) (by omega)
          omega
        have hgr := grown cap (by omega) (Value.ownBlock (.slice (some ⟨g, 0, none⟩) n cap))
        refine ⟨_, _, ?_, hgr.1, hgr.2⟩
        simp [Builtin.append_, run_underlying ht, run_underlying htn, sizeOf, typeInfo, zeroValue, hi, hz, asInt, asIntOf, hsize, hby, hwr, hneg, hm, h48i, hroom, h63', h48', Question.forced, hfo, newRow, grownCap, zeroCells_vb]
end Go.Proofs.YtffokggejbmadaaDoor
