/-
  Out of AeZeros, FrRefPutB, FrRefPutC, FrRefFrame, FrRefMay.
-/
import Derived.Test.YtaighdppemnglaaGreatDoorGf5
import Derived.Test.YtaighdppemnglaaGreatDoorGf9
import Derived.Test.YtaighdppemnglaaGreatDoorGf10
import Derived.Test.YtaighdppemnglaaGreatDoorGf11

/-! append of so many zeros to a row of the call's own: no program in sight. -/
namespace Go.Proofs.YtaighdppemnglaaGreatDoor
open Go Go.RowKit

def zs8 (m : Nat) : List Value := vb (List.replicate m (0 : By))
theorem zs8_length (m : Nat) : (zs8 m).length = m := by rw [zs8, vb_length, List.length_replicate]
theorem zs8_one (m : Nat) : ∀ u ∈ zs8 m, u.oneCell' = true := vb_one _
theorem zeroCells_vb (m : Nat) : Builtin.zeroCells (Value.int .u8 0).cells m = (zs8 m).toArray := by
  have h1 : (Value.int .u8 0).cells = #[.int .u8 0] := rfl
  rw [h1]
  apply Array.ext
  · simp [Builtin.zeroCells, zs8, vb]
  · intro i h2 h3
    simp [Builtin.zeroCells, zs8, vb, v8, Nat.mod_one]

theorem run_append_zeros8 {P : Program} (w : World) (base : Nat) (t tn ty e : TypeId) (i : TypeInfo) (kn k : IntKind) (ht : P.underlying t = some (.slice e)) (htn : P.underlying tn = some (.int kn)) (hi : P.info? e = some i) (hz : i.zero = some (.int .u8 0)) (hsize : i.size = 1) (hby : i.bytes = 1)
    (v : Value) (n : Nat) (xs : List By) (hown : w.ownsRow base e 1 v n (vb xs)) (m : Nat) (hl : n + m ≤ 8388608) (hbase : base ≤ w.heap.size) :
    ∃ v' w', (Builtin.append_ #[t, tn] ty #[v, .int k (m : Int)]).run P w = .ok v' w' ∧ w'.ownsRow base e 1 v' (n + m) (vb (xs ++ List.replicate m 0)) ∧ w.grownBy w' v.ownBlock := by
  have hwr : IntKind.i64.wrap (m : Int) = m := by rw [IntKind.wrap_i64]; omega
  have hneg : ¬ ((m : Int) < 0) := by omega
  have hw0 : IntKind.i64.wrap 0 = 0 := by rw [IntKind.wrap_i64]; rfl
  have h48i : ¬ (281474976710656 < (m : Int)) := by omega
  have hxl : (vb xs).length = n := by have := hown.1; omega
  have hvr : vb (xs ++ List.replicate m 0) = vb xs ++ zs8 m := vb_append _ _
  have hrl : (zs8 m).length = m := zs8_length m
  have grown : ∀ (old : Nat), old < n + m → ∀ (row : Option Nat),
      (w.drew.alloc (.cells ((vb xs).toArray ++ (zs8 m).toArray ++ Builtin.zeroCells (Value.int .u8 0).cells (grownCap w (n + m) old e - (n + m))) e)).ownsRow base e 1
        (.slice (some ⟨w.heap.size, 0, none⟩) (n + m) (grownCap w (n + m) old e)) (n + m) (vb (xs ++ List.replicate m 0)) ∧
      w.grownBy (w.drew.alloc (.cells ((vb xs).toArray ++ (zs8 m).toArray ++ Builtin.zeroCells (Value.int .u8 0).cells (grownCap w (n + m) old e - (n + m))) e)) row := by
    intro old ho row
    have hge := grownCap_ge w (n + m) old e
    have hcm : grownCap w (n + m) old e ≤ maxLen := grownCap_le_maxLen w (n + m) old e (by unfold maxLen; omega)
    refine ⟨⟨by rw [hvr, List.length_append, hxl, hrl]; omega, .inr ⟨w.heap.size, _, _, rfl, hbase, _root_.Go.heap_alloc_new w.drew _, hge, hcm, ?_, ?_⟩⟩, ⟨rfl, rfl, rfl, by simp, fun k hk _ => heap_alloc_old w.drew _ hk⟩⟩
    · simp only [Array.size_append, List.size_toArray, hxl, hrl, size_zeroCells]
      rw [show (Value.int .u8 0).cells.size = 1 from rfl]
      omega
    · simp only [Array.toList_append]
      rw [hvr, show (n + m) * 1 = (vb xs ++ zs8 m).length by rw [List.length_append, hxl, hrl]; omega]
      exact List.take_left
  rcases hown.2 with ⟨rfl, rfl⟩ | ⟨g, cap, cur, rfl, hbg, hg, hnc, hcm, hcs, htake⟩
  · have hx : xs = [] := List.eq_nil_of_length_eq_zero (by rw [vb_length] at hxl; exact hxl)
    subst hx
    by_cases hm : m = 0
    · subst hm
      refine ⟨.slice none 0 0, w, ?_, ?_, ⟨rfl, rfl, rfl, Nat.le_refl _, fun _ _ _ => rfl⟩⟩
      · simp [Builtin.append_, run_underlying ht, run_underlying htn, sizeOf, typeInfo, hi, asInt, asIntOf, hw0]
      · exact World.ownsRow_nil w base e 1
    · have hr := Lib.run_append_nil_zeros (P := P) w t tn ty e i (.int .u8 0) k kn ht htn hi hz m (by omega) (by omega) (by omega) (by rw [hby]; omega)
      have hgr := grown 0 (by omega) (Value.ownBlock (.slice none 0 0))
      simp only [Nat.zero_add] at hgr ⊢
      rw [show (vb ([] : List By)).toArray = #[] from rfl, Array.empty_append, ← zeroCells_vb] at hgr
      exact ⟨_, _, hr, hgr.1, hgr.2⟩
  · have h1 : cur.size = cap := by omega
    by_cases hm : m = 0
    · subst hm
      refine ⟨.slice (some ⟨g, 0, none⟩) n cap, w, ?_, ?_, ⟨rfl, rfl, rfl, Nat.le_refl _, fun _ _ _ => rfl⟩⟩
      · simp [Builtin.append_, run_underlying ht, run_underlying htn, sizeOf, typeInfo, hi, asInt, asIntOf, hw0, hnc, storeCells]
      · simpa using hown
    · by_cases hroom : n + m ≤ cap
      · have hst := run_storeCells_at P g (n * 1) e (zs8 m) 0 cur w hg (by rw [hrl]; omega) (zs8_one _)
        simp only [Nat.add_zero, Nat.mul_one] at hst
        have hadd : (⟨g, 0, none⟩ : Addr).add n = ⟨g, n, none⟩ := by unfold Addr.add; split <;> simp_all
        refine ⟨.slice (some ⟨g, 0, none⟩) (n + m) cap, w.setRow g (cur.toList.take n ++ zs8 m ++ cur.toList.drop (n + (zs8 m).length)).toArray, ?_, ⟨by rw [hvr, List.length_append, hxl, hrl]; omega, .inr ⟨g, cap, _, rfl, hbg, setRow_heap w g cur _ e _ hg, hroom, hcm, ?_, ?_⟩⟩, ⟨rfl, rfl, rfl, by simp, fun k _ hk => setRow_other w g k _ (fun e => hk (by simp [Value.ownBlock, e]))⟩⟩
        · simp [Builtin.append_, run_underlying ht, run_underlying htn, sizeOf, typeInfo, zeroValue, hi, hz, asInt, asIntOf, hsize, hby, hwr, hneg, hm, h48i, hroom, hadd, zeroCells_vb, hst]
        · simp only [List.size_toArray, List.length_append, List.length_take, List.length_drop, Array.length_toList, hrl]
          omega
        · have ht' : cur.toList.take n = vb xs := by rw [Nat.mul_one] at htake; exact htake
          simp only []
          rw [ht', hvr, show (n + m) * 1 = (vb xs ++ zs8 m).length by rw [List.length_append, hxl, hrl]; omega]
          exact List.take_left
      · have holds : ∀ j u, (vb xs)[j]? = some u → w.cell? ((⟨g, 0, none⟩ : Addr).add j) = some u := hown.cells (g := g) rfl
        have hfo := run_firstCells_some (P := P) w.drew 1 n ⟨g, 0, none⟩ n cap (vb xs) (by omega) (by simpa using holds)
        have h63' : ¬ (9223372036854775807 < ((n : Int) + (m : Int))) := by omega
        have h48' : ¬ (281474976710656 < Builtin.nextslicecap (n + m) cap) := by
          have := growslice_fits (need := n + m) (old := cap) (bytes := 1) (by omega) (by omega)
          omega
        have hgr := grown cap (by omega) (Value.ownBlock (.slice (some ⟨g, 0, none⟩) n cap))
        refine ⟨_, _, ?_, hgr.1, hgr.2⟩
        simp [Builtin.append_, run_underlying ht, run_underlying htn, sizeOf, typeInfo, zeroValue, hi, hz, asInt, asIntOf, hsize, hby, hwr, hneg, hm, h48i, hroom, h63', h48', Question.forced, hfo, newRow, grownCap, zeroCells_vb]
end Go.Proofs.YtaighdppemnglaaGreatDoor

/-! The document's put: FrPadding, FrPing, FrDone. Written by mkrefputb.py. -/
namespace Go.Proofs.YtaighdppemnglaaGreatDoor
open Go Go.RowKit

set_option maxRecDepth 20000 in
set_option maxHeartbeats 4000000 in
theorem refput_1 (v : Value) (base : Nat) (f : FrM) (xs : List By) (w : World) (hk : f.kind = 1) (hown : RowK base xs w v) (hbase : base ≤ w.heap.size) (hl : xs.length ≤ 3000000) (hli : f.limit ≤ 65536) :
    Calls Tryz.prog 27 #[v, .agg f.cells] w fun e w' => ∃ v', e = .returned v' ∧ RowK base (xs ++ Fr.putF f.fr) w' v' ∧ Keep base w w' := by
  obtain ⟨k, st, of, li, co, fi, da, ra⟩ := f
  simp only at hk hli
  subst hk
  have r0 : Row (w.alloc (.cells (FrM.mk 1 st of li co fi da ra).cells 37)) w.heap.size 37 (FrM.mk 1 st of li co fi da ra).cells := Row.new _ _ _
  have b0 : Below w.heap.size w (w.alloc (.cells (FrM.mk 1 st of li co fi da ra).cells 37)) := (Below.refl _ w).alloc (Nat.le_refl _) _
  have c0 := (fr_cells r0).1
  simp only [show ((1 : Nat) : Int) = 1 from rfl] at c0
  have c3 := (fr_cells r0).2.2.2.1
  simp only at c3
  have HB0 := veil b0
  have HOWN := veil hown
  clear hown b0 r0
  go_enter Tryz.func27, Tryz.ntmps27
  obtain ⟨i0, hi, hz0, hz1, hz2⟩ := info_parts Tryz.infoByteV
  obtain ⟨v3, w3, hr3, hown3, hgrow3⟩ := run_append_zeros8 (P := Tryz.prog) (w.alloc (.cells (FrM.mk 1 st of li co fi da ra).cells 37)) base 26 34 26 5 i0 .u64 .u64 Tryz.underlying26 Tryz.underlying34 hi hz0 hz1 hz2 _ _ _ (own_below HOWN.out HB0.out) li (by omega) (by have := HB0.out.size; omega)
  have HR3 := veil hr3
  have HO := veil hown3
  have HK := veil ((Keep.of_below HB0.out hbase).trans (Keep.of_grown (own_below HOWN.out HB0.out) hgrow3 (by have := HB0.out.size; omega)))
  clear hr3 hown3 hgrow3
  go_wp2_with (with_reducible (show wpList _ _ _ (⟨some 13, Op.call _, _, _, _, _⟩ :: _) _ _)
               refine Lib.wpList_append_run _ rfl _ _ 26 34 rfl _ _ rfl rfl _ _ HR3.out ?_)
  go_wp2_with fail
  go_ret
  refine ⟨v3, rfl, ?_, HK.out⟩
  unfold RowK
  rw [List.length_append, show (Fr.putF (FrM.mk 1 st of li co fi da ra).fr).length = li from List.length_replicate]
  exact HO.out

set_option maxRecDepth 20000 in
set_option maxHeartbeats 4000000 in
theorem refput_2 (v : Value) (base : Nat) (f : FrM) (xs : List By) (w : World) (hk : f.kind = 2) (hown : RowK base xs w v) (hbase : base ≤ w.heap.size) (hl : xs.length ≤ 3000000) :
    Calls Tryz.prog 27 #[v, .agg f.cells] w fun e w' => ∃ v', e = .returned v' ∧ RowK base (xs ++ Fr.putF f.fr) w' v' ∧ Keep base w w' := by
  obtain ⟨k, st, of, li, co, fi, da, ra⟩ := f
  simp only at hk
  subst hk
  have r0 : Row (w.alloc (.cells (FrM.mk 2 st of li co fi da ra).cells 37)) w.heap.size 37 (FrM.mk 2 st of li co fi da ra).cells := Row.new _ _ _
  have b0 : Below w.heap.size w (w.alloc (.cells (FrM.mk 2 st of li co fi da ra).cells 37)) := (Below.refl _ w).alloc (Nat.le_refl _) _
  have c0 := (fr_cells r0).1
  simp only [show ((2 : Nat) : Int) = 2 from rfl] at c0
  have HB0 := veil b0
  have HOWN := veil hown
  clear hown b0 r0
  go_enter Tryz.func27, Tryz.ntmps27
  go_wp2_with fail
  clear c0
  refine (ref_numberK v base 1 xs _ (by decide) (own_below HOWN.out HB0.out) (by have := HB0.out.size; omega) (by omega)).mono ?_
  rintro e1 w1 ⟨v1, rfl, ho1, hk1⟩
  have HO := veil ho1
  have HK := veil ((Keep.of_below HB0.out hbase).trans hk1)
  clear ho1 hk1
  go_wp2_with fail
  go_ret
  exact ⟨v1, rfl, HO.out, HK.out⟩

set_option maxRecDepth 20000 in
set_option maxHeartbeats 4000000 in
theorem refput_14 (v : Value) (base : Nat) (f : FrM) (xs : List By) (w : World) (hk : f.kind = 14) (hown : RowK base xs w v) (hbase : base ≤ w.heap.size) (hl : xs.length ≤ 3000000) :
    Calls Tryz.prog 27 #[v, .agg f.cells] w fun e w' => ∃ v', e = .returned v' ∧ RowK base (xs ++ Fr.putF f.fr) w' v' ∧ Keep base w w' := by
  obtain ⟨k, st, of, li, co, fi, da, ra⟩ := f
  simp only at hk
  subst hk
  have r0 : Row (w.alloc (.cells (FrM.mk 14 st of li co fi da ra).cells 37)) w.heap.size 37 (FrM.mk 14 st of li co fi da ra).cells := Row.new _ _ _
  have b0 : Below w.heap.size w (w.alloc (.cells (FrM.mk 14 st of li co fi da ra).cells 37)) := (Below.refl _ w).alloc (Nat.le_refl _) _
  have c0 := (fr_cells r0).1
  simp only [show ((14 : Nat) : Int) = 14 from rfl] at c0
  have HB0 := veil b0
  have HOWN := veil hown
  clear hown b0 r0
  go_enter Tryz.func27, Tryz.ntmps27
  go_wp2_with fail
  clear c0
  refine (ref_numberK v base 30 xs _ (by decide) (own_below HOWN.out HB0.out) (by have := HB0.out.size; omega) (by omega)).mono ?_
  rintro e1 w1 ⟨v1, rfl, ho1, hk1⟩
  have HO := veil ho1
  have HK := veil ((Keep.of_below HB0.out hbase).trans hk1)
  clear ho1 hk1
  go_wp2_with fail
  go_ret
  exact ⟨v1, rfl, HO.out, HK.out⟩

end Go.Proofs.YtaighdppemnglaaGreatDoor

/-! The document's put: FrStream, FrClose. Written by mkrefputc.py. -/
namespace Go.Proofs.YtaighdppemnglaaGreatDoor
open Go Go.RowKit

def dep7z : Nat → List Nat
  | 3 => [2]
  | 4 => [0, 1, 3]
  | 6 => [5]
  | 7 => [4, 6]
  | 8 => [0, 1, 2, 3, 4, 5, 6, 7]
  | _ => []
def val7z (f : FrM) (g : Nat) : Nat → Value
  | 1 => .int .u64 (10 : Int)
  | 2 => .pointer (some ⟨g, 5, none⟩)
  | 3 => .bool f.fin
  | 5 => .pointer (some ⟨g, 1, none⟩)
  | 6 => .int .u64 (f.stream : Int)
  | _ => undef
def lst7z (f : FrM) (xs : List By) : Nat → List By
  | 0 => xs
  | 1 => xs
  | 2 => xs ++ Fr.numL (10 + if f.fin then 1 else 0)
  | _ => xs ++ Fr.numL (10 + if f.fin then 1 else 0) ++ Fr.numL f.stream

set_option maxRecDepth 20000 in
set_option maxHeartbeats 4000000 in
theorem refput_7z (v : Value) (base : Nat) (f : FrM) (xs : List By) (w : World) (hk : f.kind = 7) (hof : f.offset = 0) (hown : RowK base xs w v) (hbase : base ≤ w.heap.size) (hl : xs.length ≤ 3000000) (hn : Fr.numsF f.fr) (hf : f.Ok w) (hdl : f.data.len ≤ 4000000) (hdb : 0 < f.data.len → f.data.g < base) :
    Calls Tryz.prog 27 #[v, .agg f.cells] w fun e w' => ∃ v', e = .returned v' ∧ RowK base (xs ++ Fr.putF f.fr) w' v' ∧ Keep base w w' := by
  obtain ⟨k, st, of, li, co, fi, da, ra⟩ := f
  simp only at hk hdl hdb hof
  subst hk
  subst hof
  have r0 : Row (w.alloc (.cells (FrM.mk 7 st 0 li co fi da ra).cells 37)) w.heap.size 37 (FrM.mk 7 st 0 li co fi da ra).cells := Row.new _ _ _
  have b0 : Below w.heap.size w (w.alloc (.cells (FrM.mk 7 st 0 li co fi da ra).cells 37)) := (Below.refl _ w).alloc (Nat.le_refl _) _
  have c0 := (fr_cells r0).1
  simp only [show ((7 : Nat) : Int) = 7 from rfl] at c0
  have c2 := (fr_cells r0).2.2.1
  simp only [show ((0 : Nat) : Int) = 0 from rfl] at c2
  have HR0 := veil r0
  have HB0 := veil b0
  have HOWN := veil hown
  have HN := veil hn
  have HF := veil hf
  have HDB := veil hdb
  clear hown hn r0 b0 hf hdb
  refine (callsIn_wide (n := 4)).1 ?_
  refine callsIn_of_wp Tryz.func27 rfl trivial ?_ rfl
  simp only [Tryz.ntmps27, List.size_toArray, List.length_cons, List.length_nil, Nat.reduceAdd, Nat.reduceSub, Array.replicate_succ, Array.replicate_zero, List.push_toArray, List.append_toArray, List.nil_append, List.cons_append]
  gi_wp2_with fail
  clear c0 c2
  refine wpIn_region_any (by kernel_rfl) ?_
  refine anyIn_chain (w0 := (w.alloc (.cells (FrM.mk 7 st 0 li co fi da ra).cells 37))) (Keep base) (fun _ _ _ h1 h2 => h1.trans h2) (val7z (FrM.mk 7 st 0 li co fi da ra) w.heap.size) (fun k W u => RowK base (lst7z (FrM.mk 7 st 0 li co fi da ra) xs k) W u) v [0, 4, 7, 8] [62, 63, 64, 65, 66, 67, 68, 69, 0] dep7z (by kernel_rfl) rfl (by decide) (by decide) ?ord (own_below HOWN.out HB0.out.drew) (Keep.of_below ((Below.refl _ _).drew) (by have := HB0.out.size; omega)) ?fix ?cal ?done (by decide)
  case ord =>
    intro k i j hj hi
    match k with
    | 0 => obtain rfl := Option.some.inj hj; obtain rfl := Option.some.inj hi; decide
    | 1 => obtain rfl := Option.some.inj hj; obtain rfl := Option.some.inj hi; decide
    | 2 => obtain rfl := Option.some.inj hj; obtain rfl := Option.some.inj hi; decide
    | _ + 3 => simp at hi
  case fix =>
    intro x W i d hW hdi hni hfx _
    have rW := fr_cells (hW.row (by decide) HR0.out)
    match i, hdi, hni, hfx with
    | 0, hdi, hni, hfx => exact absurd (by decide) hni
    | 1, hdi, hni, hfx =>
      obtain rfl := Option.some.inj hdi
      exact OI_value rfl rfl (about_none (by intro c h; cases h)) (by intro c h; cases h) (.int .u64 (10 : Int)) W (by kernel_rfl) ⟨rfl, rfl⟩
    | 2, hdi, hni, hfx =>
      obtain rfl := Option.some.inj hdi
      exact OI_value rfl rfl (about_none (by intro c h; cases h)) (by intro c h; cases h) (.pointer (some ⟨w.heap.size, 5, none⟩)) W (by kernel_rfl) ⟨rfl, rfl⟩
    | 3, hdi, hni, hfx =>
      obtain rfl := Option.some.inj hdi
      rw [updV_self (hfx 2 (by decide) (by decide))]
      exact OI_value rfl rfl (about_none (by intro c h; cases h)) (by intro c h; cases h) _ W (run_cellF 4 _ ⟨w.heap.size, 5, none⟩ _ _ rfl (by kernel_rfl) Tryz.underlying4 rfl W (rW.2.2.2.2.2.1)) ⟨rfl, rfl⟩
    | 4, hdi, hni, hfx => exact absurd (by decide) hni
    | 5, hdi, hni, hfx =>
      obtain rfl := Option.some.inj hdi
      exact OI_value rfl rfl (about_none (by intro c h; cases h)) (by intro c h; cases h) (.pointer (some ⟨w.heap.size, 1, none⟩)) W (by kernel_rfl) ⟨rfl, rfl⟩
    | 6, hdi, hni, hfx =>
      obtain rfl := Option.some.inj hdi
      rw [updV_self (hfx 5 (by decide) (by decide))]
      exact OI_value rfl rfl (about_none (by intro c h; cases h)) (by intro c h; cases h) _ W (run_cellF 34 _ ⟨w.heap.size, 1, none⟩ _ _ rfl (by kernel_rfl) Tryz.underlying34 rfl W (rW.2.1)) ⟨rfl, rfl⟩
    | 7, hdi, hni, hfx => exact absurd (by decide) hni
    | 8, hdi, hni, hfx => exact absurd (by decide) hni
    | _ + 9, hdi, _, _ => simp at hdi
  case cal =>
    intro x W k i d u hW hck hdi hfx hsl hu0 hup hR
    have hWs := hW.size
    have hbW : base ≤ W.heap.size := by have := HB0.out.size; omega
    match k, hck, hu0, hup, hR with
    | 0, hck, hu0, hup, hR =>
      obtain rfl := Option.some.inj hck
      obtain rfl := Option.some.inj hdi
      obtain rfl := hu0 rfl
      rw [updV_self (show x 8 = u from hsl 8 (by decide))]
      exact OI_value rfl rfl (about_none (by intro c h; cases h)) (by intro c h; cases h) u W (by kernel_rfl) ⟨u, rfl, Keep.refl _ _, hR⟩
    | 1, hck, hu0, hup, hR =>
      obtain rfl := Option.some.inj hck
      obtain rfl := Option.some.inj hdi
      obtain rfl := hup 0 0 rfl rfl
      refine OI_call rfl rfl (by intro c h; cases h) 87 #[x 0, x 1, x 3] (fun _ _ => trivial) (by kernel_rfl) (by decide) ?_
      rw [show x 1 = .int .u64 (10 : Int) from hfx 1 (by decide) (by decide), show x 3 = .bool fi from hfx 3 (by decide) (by decide)]
      refine (callsIn_wide.2 (ref_kindK (x 0) base 10 fi (lst7z (FrM.mk 7 st 0 li co fi da ra) xs 1) W (by decide) hR hbW (Nat.le_trans hl (by decide)))).mono ?_
      rintro e W' ⟨v', rfl, ho, hk⟩
      exact ⟨_, rfl, v', rfl, hk, ho⟩
    | 2, hck, hu0, hup, hR =>
      obtain rfl := Option.some.inj hck
      obtain rfl := Option.some.inj hdi
      obtain rfl := hup 1 4 rfl rfl
      refine OI_call rfl rfl (by intro c h; cases h) 84 #[x 4, x 6] (fun _ _ => trivial) (by kernel_rfl) (by decide) ?_
      rw [show x 6 = .int .u64 (st : Int) from hfx 6 (by decide) (by decide)]
      refine (callsIn_wide.2 (ref_numberK (x 4) base st (lst7z (FrM.mk 7 st 0 li co fi da ra) xs 2) W HN.out.1 hR hbW (Nat.le_trans (len_num hl) (by decide)))).mono ?_
      rintro e W' ⟨v', rfl, ho, hk⟩
      exact ⟨_, rfl, v', rfl, hk, ho⟩
    | 3, hck, hu0, hup, hR =>
      obtain rfl := Option.some.inj hck
      obtain rfl := Option.some.inj hdi
      obtain rfl := hup 2 7 rfl rfl
      exact OI_value rfl rfl (about_none (by intro c h; cases h)) (by intro c h; cases h) (x 7) W (by kernel_rfl) ⟨_, rfl, Keep.refl _ _, hR⟩
    | _ + 4, hck, _, _, _ => simp at hck
  case done =>
    intro x W u hW hfx hup hR
    obtain rfl := hup 3 8 rfl rfl
    have rW := fr_cells (hW.row (by decide) HR0.out)
    have HRO := veil (hW.row (by decide) HR0.out)
    have c2 := rW.2.2.1
    simp only [show ((0 : Nat) : Int) = 0 from rfl] at c2
    have HKW := veil ((Keep.of_below HB0.out hbase).trans hW)
    have HRW := veil hR
    have HBW := veil (Nat.le_trans hbase HKW.out.size)
    clear hR hup HOWN HR0 HB0 hW
    have hfx' := veil hfx
    clear hfx
    simp only [putsV, Act.put, List.setIfInBounds_toArray, List.set_cons_succ, List.set_cons_zero, Nat.reduceAdd]
    have HO2 := HRW
    have HK2 := HKW
    have HOKD := veil (HF.out.data.below' HK2.out.bel HDB.out)
    have HB2 := HBW
    have c6 := rW.2.2.2.2.2.2.1
    simp only at c6
    clear HRW HKW HBW HRO rW
    gi_wp2_with fail
    refine ⟨trivial, (callsIn_wide.2 (ref_sizedK (x 8) base da _ W HO2.out HB2.out (Nat.le_trans (len_num (len_num hl)) (by decide)) HOKD.out hdl HDB.out)).mono ?_⟩
    rintro e3 W3 ⟨v3, rfl, ho3, hk3⟩
    have HK3 := veil (HK2.out.trans hk3)
    have HO3 := veil ho3
    clear ho3 hk3 HO2 HK2 HOKD HB2 c6 HN HF HDB
    gi_wp2_with fail
    go_ret
    refine ⟨_, rfl, ?_, HK3.out⟩
    have e : lst7z (FrM.mk 7 st 0 li co fi da ra) xs 4 ++ Fr.sizedL da.b = xs ++ Fr.putF (FrM.mk 7 st 0 li co fi da ra).fr := by
      show _ = xs ++ (Fr.numL ((if 0 < 0 then 14 else 10) + (if fi then 1 else 0)) ++ (Fr.numL st ++ ((if 0 < 0 then Fr.numL 0 else []) ++ Fr.sizedL da.b)))
      simp [lst7z, List.append_assoc]
    rw [← e]
    exact HO3.out
def dep7p : Nat → List Nat
  | 3 => [2]
  | 4 => [0, 1, 3]
  | 6 => [5]
  | 7 => [4, 6]
  | 8 => [0, 1, 2, 3, 4, 5, 6, 7]
  | _ => []
def val7p (f : FrM) (g : Nat) : Nat → Value
  | 1 => .int .u64 (14 : Int)
  | 2 => .pointer (some ⟨g, 5, none⟩)
  | 3 => .bool f.fin
  | 5 => .pointer (some ⟨g, 1, none⟩)
  | 6 => .int .u64 (f.stream : Int)
  | _ => undef
def lst7p (f : FrM) (xs : List By) : Nat → List By
  | 0 => xs
  | 1 => xs
  | 2 => xs ++ Fr.numL (14 + if f.fin then 1 else 0)
  | _ => xs ++ Fr.numL (14 + if f.fin then 1 else 0) ++ Fr.numL f.stream

set_option maxRecDepth 20000 in
set_option maxHeartbeats 4000000 in
theorem refput_7p (v : Value) (base : Nat) (f : FrM) (xs : List By) (w : World) (hk : f.kind = 7) (hof : 0 < f.offset) (hown : RowK base xs w v) (hbase : base ≤ w.heap.size) (hl : xs.length ≤ 3000000) (hn : Fr.numsF f.fr) (hf : f.Ok w) (hdl : f.data.len ≤ 4000000) (hdb : 0 < f.data.len → f.data.g < base) :
    Calls Tryz.prog 27 #[v, .agg f.cells] w fun e w' => ∃ v', e = .returned v' ∧ RowK base (xs ++ Fr.putF f.fr) w' v' ∧ Keep base w w' := by
  obtain ⟨k, st, of, li, co, fi, da, ra⟩ := f
  simp only at hk hdl hdb hof
  subst hk
  have HPO := veil hof
  have hd0 : decide ((0 : Int) < (of : Int)) = true := by simp; omega
  clear hof
  have r0 : Row (w.alloc (.cells (FrM.mk 7 st of li co fi da ra).cells 37)) w.heap.size 37 (FrM.mk 7 st of li co fi da ra).cells := Row.new _ _ _
  have b0 : Below w.heap.size w (w.alloc (.cells (FrM.mk 7 st of li co fi da ra).cells 37)) := (Below.refl _ w).alloc (Nat.le_refl _) _
  have c0 := (fr_cells r0).1
  simp only [show ((7 : Nat) : Int) = 7 from rfl] at c0
  have c2 := (fr_cells r0).2.2.1
  simp only at c2
  have HR0 := veil r0
  have HB0 := veil b0
  have HOWN := veil hown
  have HN := veil hn
  have HF := veil hf
  have HDB := veil hdb
  clear hown hn r0 b0 hf hdb
  refine (callsIn_wide (n := 4)).1 ?_
  refine callsIn_of_wp Tryz.func27 rfl trivial ?_ rfl
  simp only [Tryz.ntmps27, List.size_toArray, List.length_cons, List.length_nil, Nat.reduceAdd, Nat.reduceSub, Array.replicate_succ, Array.replicate_zero, List.push_toArray, List.append_toArray, List.nil_append, List.cons_append]
  gi_wp2_with fail
  clear c0 c2
  refine wpIn_region_any (by kernel_rfl) ?_
  refine anyIn_chain (w0 := (w.alloc (.cells (FrM.mk 7 st of li co fi da ra).cells 37))) (Keep base) (fun _ _ _ h1 h2 => h1.trans h2) (val7p (FrM.mk 7 st of li co fi da ra) w.heap.size) (fun k W u => RowK base (lst7p (FrM.mk 7 st of li co fi da ra) xs k) W u) v [0, 4, 7, 8] [62, 63, 64, 65, 66, 67, 68, 69, 0] dep7p (by kernel_rfl) rfl (by decide) (by decide) ?ord (own_below HOWN.out HB0.out.drew) (Keep.of_below ((Below.refl _ _).drew) (by have := HB0.out.size; omega)) ?fix ?cal ?done (by decide)
  case ord =>
    intro k i j hj hi
    match k with
    | 0 => obtain rfl := Option.some.inj hj; obtain rfl := Option.some.inj hi; decide
    | 1 => obtain rfl := Option.some.inj hj; obtain rfl := Option.some.inj hi; decide
    | 2 => obtain rfl := Option.some.inj hj; obtain rfl := Option.some.inj hi; decide
    | _ + 3 => simp at hi
  case fix =>
    intro x W i d hW hdi hni hfx _
    have rW := fr_cells (hW.row (by decide) HR0.out)
    match i, hdi, hni, hfx with
    | 0, hdi, hni, hfx => exact absurd (by decide) hni
    | 1, hdi, hni, hfx =>
      obtain rfl := Option.some.inj hdi
      exact OI_value rfl rfl (about_none (by intro c h; cases h)) (by intro c h; cases h) (.int .u64 (14 : Int)) W (by kernel_rfl) ⟨rfl, rfl⟩
    | 2, hdi, hni, hfx =>
      obtain rfl := Option.some.inj hdi
      exact OI_value rfl rfl (about_none (by intro c h; cases h)) (by intro c h; cases h) (.pointer (some ⟨w.heap.size, 5, none⟩)) W (by kernel_rfl) ⟨rfl, rfl⟩
    | 3, hdi, hni, hfx =>
      obtain rfl := Option.some.inj hdi
      rw [updV_self (hfx 2 (by decide) (by decide))]
      exact OI_value rfl rfl (about_none (by intro c h; cases h)) (by intro c h; cases h) _ W (run_cellF 4 _ ⟨w.heap.size, 5, none⟩ _ _ rfl (by kernel_rfl) Tryz.underlying4 rfl W (rW.2.2.2.2.2.1)) ⟨rfl, rfl⟩
    | 4, hdi, hni, hfx => exact absurd (by decide) hni
    | 5, hdi, hni, hfx =>
      obtain rfl := Option.some.inj hdi
      exact OI_value rfl rfl (about_none (by intro c h; cases h)) (by intro c h; cases h) (.pointer (some ⟨w.heap.size, 1, none⟩)) W (by kernel_rfl) ⟨rfl, rfl⟩
    | 6, hdi, hni, hfx =>
      obtain rfl := Option.some.inj hdi
      rw [updV_self (hfx 5 (by decide) (by decide))]
      exact OI_value rfl rfl (about_none (by intro c h; cases h)) (by intro c h; cases h) _ W (run_cellF 34 _ ⟨w.heap.size, 1, none⟩ _ _ rfl (by kernel_rfl) Tryz.underlying34 rfl W (rW.2.1)) ⟨rfl, rfl⟩
    | 7, hdi, hni, hfx => exact absurd (by decide) hni
    | 8, hdi, hni, hfx => exact absurd (by decide) hni
    | _ + 9, hdi, _, _ => simp at hdi
  case cal =>
    intro x W k i d u hW hck hdi hfx hsl hu0 hup hR
    have hWs := hW.size
    have hbW : base ≤ W.heap.size := by have := HB0.out.size; omega
    match k, hck, hu0, hup, hR with
    | 0, hck, hu0, hup, hR =>
      obtain rfl := Option.some.inj hck
      obtain rfl := Option.some.inj hdi
      obtain rfl := hu0 rfl
      rw [updV_self (show x 8 = u from hsl 8 (by decide))]
      exact OI_value rfl rfl (about_none (by intro c h; cases h)) (by intro c h; cases h) u W (by kernel_rfl) ⟨u, rfl, Keep.refl _ _, hR⟩
    | 1, hck, hu0, hup, hR =>
      obtain rfl := Option.some.inj hck
      obtain rfl := Option.some.inj hdi
      obtain rfl := hup 0 0 rfl rfl
      refine OI_call rfl rfl (by intro c h; cases h) 87 #[x 0, x 1, x 3] (fun _ _ => trivial) (by kernel_rfl) (by decide) ?_
      rw [show x 1 = .int .u64 (14 : Int) from hfx 1 (by decide) (by decide), show x 3 = .bool fi from hfx 3 (by decide) (by decide)]
      refine (callsIn_wide.2 (ref_kindK (x 0) base 14 fi (lst7p (FrM.mk 7 st of li co fi da ra) xs 1) W (by decide) hR hbW (Nat.le_trans hl (by decide)))).mono ?_
      rintro e W' ⟨v', rfl, ho, hk⟩
      exact ⟨_, rfl, v', rfl, hk, ho⟩
    | 2, hck, hu0, hup, hR =>
      obtain rfl := Option.some.inj hck
      obtain rfl := Option.some.inj hdi
      obtain rfl := hup 1 4 rfl rfl
      refine OI_call rfl rfl (by intro c h; cases h) 84 #[x 4, x 6] (fun _ _ => trivial) (by kernel_rfl) (by decide) ?_
      rw [show x 6 = .int .u64 (st : Int) from hfx 6 (by decide) (by decide)]
      refine (callsIn_wide.2 (ref_numberK (x 4) base st (lst7p (FrM.mk 7 st of li co fi da ra) xs 2) W HN.out.1 hR hbW (Nat.le_trans (len_num hl) (by decide)))).mono ?_
      rintro e W' ⟨v', rfl, ho, hk⟩
      exact ⟨_, rfl, v', rfl, hk, ho⟩
    | 3, hck, hu0, hup, hR =>
      obtain rfl := Option.some.inj hck
      obtain rfl := Option.some.inj hdi
      obtain rfl := hup 2 7 rfl rfl
      exact OI_value rfl rfl (about_none (by intro c h; cases h)) (by intro c h; cases h) (x 7) W (by kernel_rfl) ⟨_, rfl, Keep.refl _ _, hR⟩
    | _ + 4, hck, _, _, _ => simp at hck
  case done =>
    intro x W u hW hfx hup hR
    obtain rfl := hup 3 8 rfl rfl
    have rW := fr_cells (hW.row (by decide) HR0.out)
    have HRO := veil (hW.row (by decide) HR0.out)
    have c2 := rW.2.2.1
    simp only at c2
    have HKW := veil ((Keep.of_below HB0.out hbase).trans hW)
    have HRW := veil hR
    have HBW := veil (Nat.le_trans hbase HKW.out.size)
    clear hR hup HOWN HR0 HB0 hW rW
    have hfx' := veil hfx
    clear hfx
    simp only [putsV, Act.put, List.setIfInBounds_toArray, List.set_cons_succ, List.set_cons_zero, Nat.reduceAdd]
    gi_wp2_with fail
    clear c2
    refine ⟨trivial, (callsIn_wide.2 (ref_numberK (x 8) base of _ W HN.out.2.1 HRW.out HBW.out (Nat.le_trans (len_num (len_num hl)) (by decide)))).mono ?_⟩
    rintro e2 W2 ⟨v2, rfl, ho2, hk2⟩
    have HO2 := veil ho2
    have HK2 := veil (HKW.out.trans hk2)
    have HOKD := veil (HF.out.data.below' HK2.out.bel HDB.out)
    have HB2 := veil (Nat.le_trans HBW.out hk2.size)
    have c6 := (fr_cells (hk2.row (by decide) HRO.out)).2.2.2.2.2.2.1
    simp only at c6
    clear ho2 hk2 HRW HKW HBW HRO
    gi_wp2_with fail
    refine ⟨trivial, (callsIn_wide.2 (ref_sizedK (v2) base da _ W2 HO2.out HB2.out (Nat.le_trans (len_num (len_num (len_num hl))) (by decide)) HOKD.out hdl HDB.out)).mono ?_⟩
    rintro e3 W3 ⟨v3, rfl, ho3, hk3⟩
    have HK3 := veil (HK2.out.trans hk3)
    have HO3 := veil ho3
    clear ho3 hk3 HO2 HK2 HOKD HB2 c6 HN HF HDB
    gi_wp2_with fail
    go_ret
    refine ⟨_, rfl, ?_, HK3.out⟩
    have e : lst7p (FrM.mk 7 st of li co fi da ra) xs 4 ++ Fr.numL of ++ Fr.sizedL da.b = xs ++ Fr.putF (FrM.mk 7 st of li co fi da ra).fr := by
      show _ = xs ++ (Fr.numL ((if 0 < of then 14 else 10) + (if fi then 1 else 0)) ++ (Fr.numL st ++ ((if 0 < of then Fr.numL of else []) ++ Fr.sizedL da.b)))
      rw [if_pos HPO.out, if_pos HPO.out]
      simp only [lst7p, List.append_assoc]
    rw [← e]
    exact HO3.out
def dep13f : Nat → List Nat
  | 2 => [1]
  | 3 => [0, 2]
  | 5 => [4]
  | 6 => [3, 5]
  | 7 => [0, 1, 2, 3, 4, 5, 6]
  | _ => []
def val13f (f : FrM) (g : Nat) : Nat → Value
  | 1 => .pointer (some ⟨g, 5, none⟩)
  | 2 => .bool f.fin
  | 4 => .pointer (some ⟨g, 4, none⟩)
  | 5 => .int .u64 (f.code : Int)
  | _ => undef
def lst13f (f : FrM) (xs : List By) : Nat → List By
  | 0 => xs
  | 1 => xs
  | 2 => xs ++ Fr.numL (28 + if f.fin then 1 else 0)
  | _ => xs ++ Fr.numL (28 + if f.fin then 1 else 0) ++ Fr.numL f.code

set_option maxRecDepth 20000 in
set_option maxHeartbeats 4000000 in
theorem refput_13f (v : Value) (base : Nat) (f : FrM) (xs : List By) (w : World) (hk : f.kind = 13) (hfi : f.fin = true) (hown : RowK base xs w v) (hbase : base ≤ w.heap.size) (hl : xs.length ≤ 3000000) (hn : Fr.numsF f.fr) (hf : f.Ok w) (hdl : f.data.len ≤ 4000000) (hdb : 0 < f.data.len → f.data.g < base) :
    Calls Tryz.prog 27 #[v, .agg f.cells] w fun e w' => ∃ v', e = .returned v' ∧ RowK base (xs ++ Fr.putF f.fr) w' v' ∧ Keep base w w' := by
  obtain ⟨k, st, of, li, co, fi, da, ra⟩ := f
  simp only at hk hdl hdb hfi
  subst hk
  subst hfi
  have r0 : Row (w.alloc (.cells (FrM.mk 13 st of li co true da ra).cells 37)) w.heap.size 37 (FrM.mk 13 st of li co true da ra).cells := Row.new _ _ _
  have b0 : Below w.heap.size w (w.alloc (.cells (FrM.mk 13 st of li co true da ra).cells 37)) := (Below.refl _ w).alloc (Nat.le_refl _) _
  have c0 := (fr_cells r0).1
  simp only [show ((13 : Nat) : Int) = 13 from rfl] at c0
  have HR0 := veil r0
  have HB0 := veil b0
  have HOWN := veil hown
  have HN := veil hn
  have HF := veil hf
  have HDB := veil hdb
  clear hown hn r0 b0 hf hdb
  refine (callsIn_wide (n := 4)).1 ?_
  refine callsIn_of_wp Tryz.func27 rfl trivial ?_ rfl
  simp only [Tryz.ntmps27, List.size_toArray, List.length_cons, List.length_nil, Nat.reduceAdd, Nat.reduceSub, Array.replicate_succ, Array.replicate_zero, List.push_toArray, List.append_toArray, List.nil_append, List.cons_append]
  gi_wp2_with fail
  clear c0
  refine wpIn_region_any (by kernel_rfl) ?_
  refine anyIn_chain (w0 := (w.alloc (.cells (FrM.mk 13 st of li co true da ra).cells 37))) (Keep base) (fun _ _ _ h1 h2 => h1.trans h2) (val13f (FrM.mk 13 st of li co true da ra) w.heap.size) (fun k W u => RowK base (lst13f (FrM.mk 13 st of li co true da ra) xs k) W u) v [0, 3, 6, 7] [126, 127, 128, 129, 130, 131, 132, 0] dep13f (by kernel_rfl) rfl (by decide) (by decide) ?ord (own_below HOWN.out HB0.out.drew) (Keep.of_below ((Below.refl _ _).drew) (by have := HB0.out.size; omega)) ?fix ?cal ?done (by decide)
  case ord =>
    intro k i j hj hi
    match k with
    | 0 => obtain rfl := Option.some.inj hj; obtain rfl := Option.some.inj hi; decide
    | 1 => obtain rfl := Option.some.inj hj; obtain rfl := Option.some.inj hi; decide
    | 2 => obtain rfl := Option.some.inj hj; obtain rfl := Option.some.inj hi; decide
    | _ + 3 => simp at hi
  case fix =>
    intro x W i d hW hdi hni hfx _
    have rW := fr_cells (hW.row (by decide) HR0.out)
    match i, hdi, hni, hfx with
    | 0, hdi, hni, hfx => exact absurd (by decide) hni
    | 1, hdi, hni, hfx =>
      obtain rfl := Option.some.inj hdi
      exact OI_value rfl rfl (about_none (by intro c h; cases h)) (by intro c h; cases h) (.pointer (some ⟨w.heap.size, 5, none⟩)) W (by kernel_rfl) ⟨rfl, rfl⟩
    | 2, hdi, hni, hfx =>
      obtain rfl := Option.some.inj hdi
      rw [updV_self (hfx 1 (by decide) (by decide))]
      exact OI_value rfl rfl (about_none (by intro c h; cases h)) (by intro c h; cases h) _ W (run_cellF 4 _ ⟨w.heap.size, 5, none⟩ _ _ rfl (by kernel_rfl) Tryz.underlying4 rfl W (rW.2.2.2.2.2.1)) ⟨rfl, rfl⟩
    | 3, hdi, hni, hfx => exact absurd (by decide) hni
    | 4, hdi, hni, hfx =>
      obtain rfl := Option.some.inj hdi
      exact OI_value rfl rfl (about_none (by intro c h; cases h)) (by intro c h; cases h) (.pointer (some ⟨w.heap.size, 4, none⟩)) W (by kernel_rfl) ⟨rfl, rfl⟩
    | 5, hdi, hni, hfx =>
      obtain rfl := Option.some.inj hdi
      rw [updV_self (hfx 4 (by decide) (by decide))]
      exact OI_value rfl rfl (about_none (by intro c h; cases h)) (by intro c h; cases h) _ W (run_cellF 34 _ ⟨w.heap.size, 4, none⟩ _ _ rfl (by kernel_rfl) Tryz.underlying34 rfl W (rW.2.2.2.2.1)) ⟨rfl, rfl⟩
    | 6, hdi, hni, hfx => exact absurd (by decide) hni
    | 7, hdi, hni, hfx => exact absurd (by decide) hni
    | _ + 8, hdi, _, _ => simp at hdi
  case cal =>
    intro x W k i d u hW hck hdi hfx hsl hu0 hup hR
    have hWs := hW.size
    have hbW : base ≤ W.heap.size := by have := HB0.out.size; omega
    match k, hck, hu0, hup, hR with
    | 0, hck, hu0, hup, hR =>
      obtain rfl := Option.some.inj hck
      obtain rfl := Option.some.inj hdi
      obtain rfl := hu0 rfl
      rw [updV_self (show x 7 = u from hsl 7 (by decide))]
      exact OI_value rfl rfl (about_none (by intro c h; cases h)) (by intro c h; cases h) u W (by kernel_rfl) ⟨u, rfl, Keep.refl _ _, hR⟩
    | 1, hck, hu0, hup, hR =>
      obtain rfl := Option.some.inj hck
      obtain rfl := Option.some.inj hdi
      obtain rfl := hup 0 0 rfl rfl
      refine OI_call rfl rfl (by intro c h; cases h) 87 #[x 0, .int .u64 (28 : Int), x 2] (fun _ _ => trivial) (by kernel_rfl) (by decide) ?_
      rw [show x 2 = .bool true from hfx 2 (by decide) (by decide)]
      refine (callsIn_wide.2 (ref_kindK (x 0) base 28 true (lst13f (FrM.mk 13 st of li co true da ra) xs 1) W (by decide) hR hbW (Nat.le_trans hl (by decide)))).mono ?_
      rintro e W' ⟨v', rfl, ho, hk⟩
      exact ⟨_, rfl, v', rfl, hk, ho⟩
    | 2, hck, hu0, hup, hR =>
      obtain rfl := Option.some.inj hck
      obtain rfl := Option.some.inj hdi
      obtain rfl := hup 1 3 rfl rfl
      refine OI_call rfl rfl (by intro c h; cases h) 84 #[x 3, x 5] (fun _ _ => trivial) (by kernel_rfl) (by decide) ?_
      rw [show x 5 = .int .u64 (co : Int) from hfx 5 (by decide) (by decide)]
      refine (callsIn_wide.2 (ref_numberK (x 3) base co (lst13f (FrM.mk 13 st of li co true da ra) xs 2) W HN.out.2.2.2.1 hR hbW (Nat.le_trans (len_num hl) (by decide)))).mono ?_
      rintro e W' ⟨v', rfl, ho, hk⟩
      exact ⟨_, rfl, v', rfl, hk, ho⟩
    | 3, hck, hu0, hup, hR =>
      obtain rfl := Option.some.inj hck
      obtain rfl := Option.some.inj hdi
      obtain rfl := hup 2 6 rfl rfl
      exact OI_value rfl rfl (about_none (by intro c h; cases h)) (by intro c h; cases h) (x 6) W (by kernel_rfl) ⟨_, rfl, Keep.refl _ _, hR⟩
    | _ + 4, hck, _, _, _ => simp at hck
  case done =>
    intro x W u hW hfx hup hR
    obtain rfl := hup 3 7 rfl rfl
    have rW := fr_cells (hW.row (by decide) HR0.out)
    have HRO := veil (hW.row (by decide) HR0.out)
    have c5 := rW.2.2.2.2.2.1
    simp only at c5
    have HKW := veil ((Keep.of_below HB0.out hbase).trans hW)
    have HRW := veil hR
    have HBW := veil (Nat.le_trans hbase HKW.out.size)
    clear hR hup HOWN HR0 HB0 hW
    have hfx' := veil hfx
    clear hfx
    simp only [putsV, Act.put, List.setIfInBounds_toArray, List.set_cons_succ, List.set_cons_zero, Nat.reduceAdd]
    have HO2 := HRW
    have HK2 := HKW
    have HOKD := veil (HF.out.data.below' HK2.out.bel HDB.out)
    have HB2 := HBW
    have c6 := rW.2.2.2.2.2.2.1
    simp only at c6
    clear HRW HKW HBW HRO rW
    gi_wp2_with fail
    refine ⟨trivial, (callsIn_wide.2 (ref_sizedK (x 7) base da _ W HO2.out HB2.out (Nat.le_trans (len_num (len_num hl)) (by decide)) HOKD.out hdl HDB.out)).mono ?_⟩
    rintro e3 W3 ⟨v3, rfl, ho3, hk3⟩
    have HK3 := veil (HK2.out.trans hk3)
    have HO3 := veil ho3
    clear ho3 hk3 HO2 HK2 HOKD HB2 c6 HN HF HDB
    gi_wp2_with fail
    go_ret
    refine ⟨_, rfl, ?_, HK3.out⟩
    have e : lst13f (FrM.mk 13 st of li co true da ra) xs 4 ++ Fr.sizedL da.b = xs ++ Fr.putF (FrM.mk 13 st of li co true da ra).fr := by
      show _ = xs ++ (Fr.numL (28 + (if true then 1 else 0)) ++ (Fr.numL co ++ ((if true then [] else Fr.numL 0) ++ Fr.sizedL da.b)))
      simp [lst13f, List.append_assoc]
    rw [← e]
    exact HO3.out
def dep13n : Nat → List Nat
  | 2 => [1]
  | 3 => [0, 2]
  | 5 => [4]
  | 6 => [3, 5]
  | 7 => [0, 1, 2, 3, 4, 5, 6]
  | _ => []
def val13n (f : FrM) (g : Nat) : Nat → Value
  | 1 => .pointer (some ⟨g, 5, none⟩)
  | 2 => .bool f.fin
  | 4 => .pointer (some ⟨g, 4, none⟩)
  | 5 => .int .u64 (f.code : Int)
  | _ => undef
def lst13n (f : FrM) (xs : List By) : Nat → List By
  | 0 => xs
  | 1 => xs
  | 2 => xs ++ Fr.numL (28 + if f.fin then 1 else 0)
  | _ => xs ++ Fr.numL (28 + if f.fin then 1 else 0) ++ Fr.numL f.code

set_option maxRecDepth 20000 in
set_option maxHeartbeats 4000000 in
theorem refput_13n (v : Value) (base : Nat) (f : FrM) (xs : List By) (w : World) (hk : f.kind = 13) (hfi : f.fin = false) (hown : RowK base xs w v) (hbase : base ≤ w.heap.size) (hl : xs.length ≤ 3000000) (hn : Fr.numsF f.fr) (hf : f.Ok w) (hdl : f.data.len ≤ 4000000) (hdb : 0 < f.data.len → f.data.g < base) :
    Calls Tryz.prog 27 #[v, .agg f.cells] w fun e w' => ∃ v', e = .returned v' ∧ RowK base (xs ++ Fr.putF f.fr) w' v' ∧ Keep base w w' := by
  obtain ⟨k, st, of, li, co, fi, da, ra⟩ := f
  simp only at hk hdl hdb hfi
  subst hk
  subst hfi
  have r0 : Row (w.alloc (.cells (FrM.mk 13 st of li co false da ra).cells 37)) w.heap.size 37 (FrM.mk 13 st of li co false da ra).cells := Row.new _ _ _
  have b0 : Below w.heap.size w (w.alloc (.cells (FrM.mk 13 st of li co false da ra).cells 37)) := (Below.refl _ w).alloc (Nat.le_refl _) _
  have c0 := (fr_cells r0).1
  simp only [show ((13 : Nat) : Int) = 13 from rfl] at c0
  have HR0 := veil r0
  have HB0 := veil b0
  have HOWN := veil hown
  have HN := veil hn
  have HF := veil hf
  have HDB := veil hdb
  clear hown hn r0 b0 hf hdb
  refine (callsIn_wide (n := 4)).1 ?_
  refine callsIn_of_wp Tryz.func27 rfl trivial ?_ rfl
  simp only [Tryz.ntmps27, List.size_toArray, List.length_cons, List.length_nil, Nat.reduceAdd, Nat.reduceSub, Array.replicate_succ, Array.replicate_zero, List.push_toArray, List.append_toArray, List.nil_append, List.cons_append]
  gi_wp2_with fail
  clear c0
  refine wpIn_region_any (by kernel_rfl) ?_
  refine anyIn_chain (w0 := (w.alloc (.cells (FrM.mk 13 st of li co false da ra).cells 37))) (Keep base) (fun _ _ _ h1 h2 => h1.trans h2) (val13n (FrM.mk 13 st of li co false da ra) w.heap.size) (fun k W u => RowK base (lst13n (FrM.mk 13 st of li co false da ra) xs k) W u) v [0, 3, 6, 7] [126, 127, 128, 129, 130, 131, 132, 0] dep13n (by kernel_rfl) rfl (by decide) (by decide) ?ord (own_below HOWN.out HB0.out.drew) (Keep.of_below ((Below.refl _ _).drew) (by have := HB0.out.size; omega)) ?fix ?cal ?done (by decide)
  case ord =>
    intro k i j hj hi
    match k with
    | 0 => obtain rfl := Option.some.inj hj; obtain rfl := Option.some.inj hi; decide
    | 1 => obtain rfl := Option.some.inj hj; obtain rfl := Option.some.inj hi; decide
    | 2 => obtain rfl := Option.some.inj hj; obtain rfl := Option.some.inj hi; decide
    | _ + 3 => simp at hi
  case fix =>
    intro x W i d hW hdi hni hfx _
    have rW := fr_cells (hW.row (by decide) HR0.out)
    match i, hdi, hni, hfx with
    | 0, hdi, hni, hfx => exact absurd (by decide) hni
    | 1, hdi, hni, hfx =>
      obtain rfl := Option.some.inj hdi
      exact OI_value rfl rfl (about_none (by intro c h; cases h)) (by intro c h; cases h) (.pointer (some ⟨w.heap.size, 5, none⟩)) W (by kernel_rfl) ⟨rfl, rfl⟩
    | 2, hdi, hni, hfx =>
      obtain rfl := Option.some.inj hdi
      rw [updV_self (hfx 1 (by decide) (by decide))]
      exact OI_value rfl rfl (about_none (by intro c h; cases h)) (by intro c h; cases h) _ W (run_cellF 4 _ ⟨w.heap.size, 5, none⟩ _ _ rfl (by kernel_rfl) Tryz.underlying4 rfl W (rW.2.2.2.2.2.1)) ⟨rfl, rfl⟩
    | 3, hdi, hni, hfx => exact absurd (by decide) hni
    | 4, hdi, hni, hfx =>
      obtain rfl := Option.some.inj hdi
      exact OI_value rfl rfl (about_none (by intro c h; cases h)) (by intro c h; cases h) (.pointer (some ⟨w.heap.size, 4, none⟩)) W (by kernel_rfl) ⟨rfl, rfl⟩
    | 5, hdi, hni, hfx =>
      obtain rfl := Option.some.inj hdi
      rw [updV_self (hfx 4 (by decide) (by decide))]
      exact OI_value rfl rfl (about_none (by intro c h; cases h)) (by intro c h; cases h) _ W (run_cellF 34 _ ⟨w.heap.size, 4, none⟩ _ _ rfl (by kernel_rfl) Tryz.underlying34 rfl W (rW.2.2.2.2.1)) ⟨rfl, rfl⟩
    | 6, hdi, hni, hfx => exact absurd (by decide) hni
    | 7, hdi, hni, hfx => exact absurd (by decide) hni
    | _ + 8, hdi, _, _ => simp at hdi
  case cal =>
    intro x W k i d u hW hck hdi hfx hsl hu0 hup hR
    have hWs := hW.size
    have hbW : base ≤ W.heap.size := by have := HB0.out.size; omega
    match k, hck, hu0, hup, hR with
    | 0, hck, hu0, hup, hR =>
      obtain rfl := Option.some.inj hck
      obtain rfl := Option.some.inj hdi
      obtain rfl := hu0 rfl
      rw [updV_self (show x 7 = u from hsl 7 (by decide))]
      exact OI_value rfl rfl (about_none (by intro c h; cases h)) (by intro c h; cases h) u W (by kernel_rfl) ⟨u, rfl, Keep.refl _ _, hR⟩
    | 1, hck, hu0, hup, hR =>
      obtain rfl := Option.some.inj hck
      obtain rfl := Option.some.inj hdi
      obtain rfl := hup 0 0 rfl rfl
      refine OI_call rfl rfl (by intro c h; cases h) 87 #[x 0, .int .u64 (28 : Int), x 2] (fun _ _ => trivial) (by kernel_rfl) (by decide) ?_
      rw [show x 2 = .bool false from hfx 2 (by decide) (by decide)]
      refine (callsIn_wide.2 (ref_kindK (x 0) base 28 false (lst13n (FrM.mk 13 st of li co false da ra) xs 1) W (by decide) hR hbW (Nat.le_trans hl (by decide)))).mono ?_
      rintro e W' ⟨v', rfl, ho, hk⟩
      exact ⟨_, rfl, v', rfl, hk, ho⟩
    | 2, hck, hu0, hup, hR =>
      obtain rfl := Option.some.inj hck
      obtain rfl := Option.some.inj hdi
      obtain rfl := hup 1 3 rfl rfl
      refine OI_call rfl rfl (by intro c h; cases h) 84 #[x 3, x 5] (fun _ _ => trivial) (by kernel_rfl) (by decide) ?_
      rw [show x 5 = .int .u64 (co : Int) from hfx 5 (by decide) (by decide)]
      refine (callsIn_wide.2 (ref_numberK (x 3) base co (lst13n (FrM.mk 13 st of li co false da ra) xs 2) W HN.out.2.2.2.1 hR hbW (Nat.le_trans (len_num hl) (by decide)))).mono ?_
      rintro e W' ⟨v', rfl, ho, hk⟩
      exact ⟨_, rfl, v', rfl, hk, ho⟩
    | 3, hck, hu0, hup, hR =>
      obtain rfl := Option.some.inj hck
      obtain rfl := Option.some.inj hdi
      obtain rfl := hup 2 6 rfl rfl
      exact OI_value rfl rfl (about_none (by intro c h; cases h)) (by intro c h; cases h) (x 6) W (by kernel_rfl) ⟨_, rfl, Keep.refl _ _, hR⟩
    | _ + 4, hck, _, _, _ => simp at hck
  case done =>
    intro x W u hW hfx hup hR
    obtain rfl := hup 3 7 rfl rfl
    have rW := fr_cells (hW.row (by decide) HR0.out)
    have HRO := veil (hW.row (by decide) HR0.out)
    have c5 := rW.2.2.2.2.2.1
    simp only at c5
    have HKW := veil ((Keep.of_below HB0.out hbase).trans hW)
    have HRW := veil hR
    have HBW := veil (Nat.le_trans hbase HKW.out.size)
    clear hR hup HOWN HR0 HB0 hW rW
    have hfx' := veil hfx
    clear hfx
    simp only [putsV, Act.put, List.setIfInBounds_toArray, List.set_cons_succ, List.set_cons_zero, Nat.reduceAdd]
    gi_wp2_with fail
    clear c5
    refine ⟨trivial, (callsIn_wide.2 (ref_numberK (x 7) base 0 _ W (by decide) HRW.out HBW.out (Nat.le_trans (len_num (len_num hl)) (by decide)))).mono ?_⟩
    rintro e2 W2 ⟨v2, rfl, ho2, hk2⟩
    have HO2 := veil ho2
    have HK2 := veil (HKW.out.trans hk2)
    have HOKD := veil (HF.out.data.below' HK2.out.bel HDB.out)
    have HB2 := veil (Nat.le_trans HBW.out hk2.size)
    have c6 := (fr_cells (hk2.row (by decide) HRO.out)).2.2.2.2.2.2.1
    simp only at c6
    clear ho2 hk2 HRW HKW HBW HRO
    gi_wp2_with fail
    refine ⟨trivial, (callsIn_wide.2 (ref_sizedK (v2) base da _ W2 HO2.out HB2.out (Nat.le_trans (len_num (len_num (len_num hl))) (by decide)) HOKD.out hdl HDB.out)).mono ?_⟩
    rintro e3 W3 ⟨v3, rfl, ho3, hk3⟩
    have HK3 := veil (HK2.out.trans hk3)
    have HO3 := veil ho3
    clear ho3 hk3 HO2 HK2 HOKD HB2 c6 HN HF HDB
    gi_wp2_with fail
    go_ret
    refine ⟨_, rfl, ?_, HK3.out⟩
    have e : lst13n (FrM.mk 13 st of li co false da ra) xs 4 ++ Fr.numL 0 ++ Fr.sizedL da.b = xs ++ Fr.putF (FrM.mk 13 st of li co false da ra).fr := by
      show _ = xs ++ (Fr.numL (28 + (if false then 1 else 0)) ++ (Fr.numL co ++ ((if false then [] else Fr.numL 0) ++ Fr.sizedL da.b)))
      simp [lst13n, List.append_assoc]
    rw [← e]
    exact HO3.out
end Go.Proofs.YtaighdppemnglaaGreatDoor

/-! The document's put: FrAck; and any frame that may be. -/
namespace Go.Proofs.YtaighdppemnglaaGreatDoor
open Go Go.RowKit

def dep3 : Nat → List Nat
  | 1 => [0]
  | 3 => [1, 2]
  | 4 => [0, 1, 2, 3]
  | _ => []
def val3 (f : FrM) : Nat → Value
  | 2 => .agg f.cells
  | _ => undef
def lst3 (f : FrM) (xs : List By) : Nat → List By
  | 0 => xs
  | 1 => xs
  | 2 => xs ++ Fr.numL 2
  | _ => xs ++ Fr.numL 2 ++ Fr.ackB f.limit f.ranges.l.reverse

set_option maxRecDepth 20000 in
set_option maxHeartbeats 4000000 in
theorem refput_3 (v : Value) (base : Nat) (f : FrM) (xs : List By) (w : World) (hk : f.kind = 3) (hne : f.ranges.l ≠ []) (hset : Fr.setL f.ranges.l) (hown : RowK base xs w v) (hbase : base ≤ w.heap.size) (hl : xs.length ≤ 3000000) (hn : Fr.numsF f.fr) (hf : f.Ok w) (hrl : f.ranges.len ≤ 64) (hdb : 0 < f.data.len → f.data.g < base) (hrb : 0 < f.ranges.len → f.ranges.g < base) :
    Calls Tryz.prog 27 #[v, .agg f.cells] w fun e w' => ∃ v', e = .returned v' ∧ RowK base (xs ++ Fr.putF f.fr) w' v' ∧ Keep base w w' := by
  obtain ⟨k, st, of, li, co, fi, da, ra⟩ := f
  simp only at hk hne hset hrl hrb hdb
  subst hk
  have r0 : Row (w.alloc (.cells (FrM.mk 3 st of li co fi da ra).cells 37)) w.heap.size 37 (FrM.mk 3 st of li co fi da ra).cells := Row.new _ _ _
  have b0 : Below w.heap.size w (w.alloc (.cells (FrM.mk 3 st of li co fi da ra).cells 37)) := (Below.refl _ w).alloc (Nat.le_refl _) _
  have c0 := (fr_cells r0).1
  simp only [show ((3 : Nat) : Int) = 3 from rfl] at c0
  have HR0 := veil r0
  have HB0 := veil b0
  have HOWN := veil hown
  have HN := veil hn
  have HF := veil hf
  have HDB := veil hdb
  have HRB := veil hrb
  have HS := veil hset
  clear hown hn r0 b0 hf hdb hrb hset
  refine (callsIn_wide (n := 4)).1 ?_
  refine callsIn_of_wp Tryz.func27 rfl trivial ?_ rfl
  simp only [Tryz.ntmps27, List.size_toArray, List.length_cons, List.length_nil, Nat.reduceAdd, Nat.reduceSub, Array.replicate_succ, Array.replicate_zero, List.push_toArray, List.append_toArray, List.nil_append, List.cons_append]
  gi_wp2_with fail
  clear c0
  refine wpIn_region_any (by kernel_rfl) ?_
  refine anyIn_chain (w0 := (w.alloc (.cells (FrM.mk 3 st of li co fi da ra).cells 37))) (Keep base) (fun _ _ _ h1 h2 => h1.trans h2) (val3 (FrM.mk 3 st of li co fi da ra)) (fun k W u => RowK base (lst3 (FrM.mk 3 st of li co fi da ra) xs k) W u) v [0, 1, 3, 4] [20, 21, 22, 23, 4] dep3 (by kernel_rfl) rfl (by decide) (by decide) ?ord (own_below HOWN.out HB0.out.drew) (Keep.of_below ((Below.refl _ _).drew) (by have := HB0.out.size; omega)) ?fix ?cal ?done (by decide)
  case ord =>
    intro k i j hj hi
    match k with
    | 0 => obtain rfl := Option.some.inj hj; obtain rfl := Option.some.inj hi; decide
    | 1 => obtain rfl := Option.some.inj hj; obtain rfl := Option.some.inj hi; decide
    | 2 => obtain rfl := Option.some.inj hj; obtain rfl := Option.some.inj hi; decide
    | _ + 3 => simp at hi
  case fix =>
    intro x W i d hW hdi hni hfx _
    have rW := hW.row (by decide) HR0.out
    match i, hdi, hni, hfx with
    | 0, hdi, hni, hfx => exact absurd (by decide) hni
    | 1, hdi, hni, hfx => exact absurd (by decide) hni
    | 2, hdi, hni, hfx =>
      obtain rfl := Option.some.inj hdi
      exact OI_value rfl rfl (about_none (by intro c h; cases h)) (by intro c h; cases h) _ W (run_midF 37 _ w.heap.size 0 (FrM.mk 3 st of li co fi da ra).cells _ rfl (by kernel_rfl) Tryz.underlying37 rfl (by kernel_rfl) W (range_row rW)) ⟨rfl, rfl⟩
    | 3, hdi, hni, hfx => exact absurd (by decide) hni
    | 4, hdi, hni, hfx => exact absurd (by decide) hni
    | _ + 5, hdi, _, _ => simp at hdi
  case cal =>
    intro x W k i d u hW hck hdi hfx _ hu0 hup hR
    have hWs := hW.size
    have hbW : base ≤ W.heap.size := by have := HB0.out.size; omega
    match k, hck, hu0, hup, hR with
    | 0, hck, hu0, hup, hR =>
      obtain rfl := Option.some.inj hck
      obtain rfl := Option.some.inj hdi
      obtain rfl := hu0 rfl
      exact OI_value rfl rfl (about_none (by intro c h; cases h)) (by intro c h; cases h) u W (by kernel_rfl) ⟨u, rfl, Keep.refl _ _, hR⟩
    | 1, hck, hu0, hup, hR =>
      obtain rfl := Option.some.inj hck
      obtain rfl := Option.some.inj hdi
      obtain rfl := hup 0 0 rfl rfl
      refine OI_call rfl rfl (by intro c h; cases h) 84 #[x 0, .int .u64 (2 : Int)] (fun _ _ => trivial) (by kernel_rfl) (by decide) ?_
      refine (callsIn_wide.2 (ref_numberK (x 0) base 2 (lst3 (FrM.mk 3 st of li co fi da ra) xs 1) W (by decide) hR hbW (Nat.le_trans hl (by decide)))).mono ?_
      rintro e W' ⟨v', rfl, ho, hk⟩
      exact ⟨_, rfl, v', rfl, hk, ho⟩
    | 2, hck, hu0, hup, hR =>
      obtain rfl := Option.some.inj hck
      obtain rfl := Option.some.inj hdi
      obtain rfl := hup 1 1 rfl rfl
      have hKw := (Keep.of_below HB0.out hbase).trans hW
      refine OI_call rfl rfl (by intro c h; cases h) 85 #[x 1, x 2] (fun _ _ => trivial) (by kernel_rfl) (by decide) ?_
      rw [show x 2 = .agg (FrM.mk 3 st of li co fi da ra).cells from hfx 2 (by decide) (by decide)]
      refine (callsIn_wide.2 (ref_ack (x 1) base (FrM.mk 3 st of li co fi da ra) (lst3 (FrM.mk 3 st of li co fi da ra) xs 2) W hne HS.out hR hbW (Nat.le_trans (len_num hl) (by decide)) HN.out.2.2.1 ⟨HF.out.data.below' hKw.bel HDB.out, HF.out.ranges.keep hKw HRB.out, HF.out.k8, HF.out.st, HF.out.of, HF.out.li, HF.out.co⟩ hrl HRB.out)).mono ?_
      rintro e W' ⟨v', rfl, ho, hk⟩
      exact ⟨_, rfl, v', rfl, hk, ho⟩
    | 3, hck, hu0, hup, hR =>
      obtain rfl := Option.some.inj hck
      obtain rfl := Option.some.inj hdi
      obtain rfl := hup 2 3 rfl rfl
      exact OI_value rfl rfl (about_none (by intro c h; cases h)) (by intro c h; cases h) (x 3) W (by kernel_rfl) ⟨_, rfl, Keep.refl _ _, hR⟩
    | _ + 4, hck, _, _, _ => simp at hck
  case done =>
    intro x W u hW hfx hup hR
    obtain rfl := hup 3 4 rfl rfl
    have HKW := veil ((Keep.of_below HB0.out hbase).trans hW)
    have HRW := veil hR
    clear hR hfx hup HOWN HN HF HDB HR0 HB0 hW
    simp only [putsV, Act.put, List.setIfInBounds_toArray, List.set_cons_succ, List.set_cons_zero, Nat.reduceAdd]
    gi_wp2_with fail
    go_ret
    refine ⟨_, rfl, ?_, HKW.out⟩
    have e : lst3 (FrM.mk 3 st of li co fi da ra) xs 4 = xs ++ Fr.putF (FrM.mk 3 st of li co fi da ra).fr := by
      show xs ++ Fr.numL 2 ++ Fr.ackB li ra.l.reverse = xs ++ (Fr.numL 2 ++ Fr.ackB li ra.l.reverse)
      simp only [List.append_assoc]
    rw [← e]
    exact HRW.out

/-- A frame that may be, behind bytes. -/
theorem ref_frame (v : Value) (base : Nat) (f : FrM) (xs : List By) (w : World) (hm : Fr.mayF f.fr) (hown : RowK base xs w v) (hbase : base ≤ w.heap.size) (hl : xs.length ≤ 3000000) (hf : f.Ok w) (hdl : f.data.len ≤ 4000000) (hdb : 0 < f.data.len → f.data.g < base) (hrb : 0 < f.ranges.len → f.ranges.g < base) :
    Calls Tryz.prog 27 #[v, .agg f.cells] w fun e w' => ∃ v', e = .returned v' ∧ RowK base (xs ++ Fr.putF f.fr) w' v' ∧ Keep base w w' := by
  obtain ⟨hn, hm⟩ := hm
  have hk : f.fr.kind = f.kind := rfl
  by_cases h1 : f.kind = 1
  · rw [hk, h1] at hm; exact refput_1 v base f xs w h1 hown hbase hl hm.2.2
  by_cases h2 : f.kind = 2
  · exact refput_2 v base f xs w h2 hown hbase hl
  by_cases h3 : f.kind = 3
  · rw [hk, h3] at hm
    exact refput_3 v base f xs w h3 hm.2.1 hm.2.2.2 hown hbase hl hn hf (by have := hm.2.2.1; have e := hf.ranges.hb; have : f.ranges.l.length ≤ 64 := this; omega) hdb hrb
  by_cases h4 : f.kind = 4
  · exact refput_4 v base f xs w h4 hown hbase hl hn hf hdl hdb
  by_cases h5 : f.kind = 5
  · exact refput_5 v base f xs w h5 hown hbase hl hn hf hdl hdb
  by_cases h6 : f.kind = 6
  · exact refput_6 v base f xs w h6 hown hbase hl hn hf hdl hdb
  by_cases h7 : f.kind = 7
  · rcases Nat.eq_zero_or_pos f.offset with h0 | h0
    · exact refput_7z v base f xs w h7 h0 hown hbase hl hn hf hdl hdb
    · exact refput_7p v base f xs w h7 h0 hown hbase hl hn hf hdl hdb
  by_cases h8 : f.kind = 8
  · exact refput_8 v base f xs w h8 hown hbase hl hn hf hdl hdb
  by_cases h9 : f.kind = 9
  · exact refput_9 v base f xs w h9 hown hbase hl hn hf hdl hdb
  by_cases h10 : f.kind = 10
  · exact refput_10 v base f xs w h10 hown hbase hl hn hf hdl hdb
  by_cases h11 : f.kind = 11
  · exact refput_11 v base f xs w h11 hown hbase hl hn hf hdl hdb
  by_cases h12 : f.kind = 12
  · exact refput_12 v base f xs w h12 hown hbase hl hn hf hdl hdb
  by_cases h13 : f.kind = 13
  · cases hfi : f.fin with
    | true => exact refput_13f v base f xs w h13 hfi hown hbase hl hn hf hdl hdb
    | false => exact refput_13n v base f xs w h13 hfi hown hbase hl hn hf hdl hdb
  by_cases h14 : f.kind = 14
  · exact refput_14 v base f xs w h14 hown hbase hl
  · exfalso
    revert hm
    rw [hk]
    split <;> simp_all
end Go.Proofs.YtaighdppemnglaaGreatDoor

/-! The document's May: trial. -/
namespace Go.Proofs.YtaighdppemnglaaGreatDoor
open Go Go.RowKit

set_option maxRecDepth 20000 in
set_option maxHeartbeats 4000000 in
theorem ref_numbers (f : FrM) (w : World) (hf : f.Ok w) (hdl : f.data.len ≤ 4194304) :
    Calls Tryz.prog 81 #[.agg f.cells] w fun e w' => ∃ b : Bool, e = .returned (.bool b) ∧ (b = true ↔ Fr.numsF f.fr) ∧ Below w.heap.size w w' := by
  obtain ⟨k, st, of, li, co, fi, da, ra⟩ := f
  simp only at hdl
  have r0 : Row (w.alloc (.cells (FrM.mk k st of li co fi da ra).cells 37)) w.heap.size 37 (FrM.mk k st of li co fi da ra).cells := Row.new _ _ _
  have b0 : Below w.heap.size w (w.alloc (.cells (FrM.mk k st of li co fi da ra).cells 37)) := (Below.refl _ w).alloc (Nat.le_refl _) _
  obtain ⟨c0, c1, c2, c3, c4, c5, c6, c7⟩ := fr_cells r0
  simp only at c0 c1 c2 c3 c4 c5 c6 c7
  have HB0 := veil b0
  have hwo := hf.of
  simp only at hwo
  have hdb : da.b.length = da.len := hf.data.hb
  clear r0 b0 hf
  by_cases h1 : st ≤ 4611686018427387903
  · have e1 : decide ((st : Int) ≤ 4611686018427387903) = true := by simp; omega
    by_cases h2 : of ≤ 4611686018427387903
    · have e2 : decide ((of : Int) ≤ 4611686018427387903) = true := by simp; omega
      by_cases h3 : li ≤ 4611686018427387903
      · have e3 : decide ((li : Int) ≤ 4611686018427387903) = true := by simp; omega
        by_cases h4 : co ≤ 4611686018427387903
        · have e4 : decide ((co : Int) ≤ 4611686018427387903) = true := by simp; omega
          have hw1 : IntKind.u64.wrap (da.len : Int) = (da.len : Int) := by rw [IntKind.wrap_u64]; omega
          have hw2 : IntKind.u64.wrap ((of : Int) + (da.len : Int)) = ((of + da.len : Nat) : Int) := by rw [IntKind.wrap_u64]; omega
          have HH := veil (show (decide ((((of + da.len : Nat) : Int)) ≤ 4611686018427387903) = true ↔ Fr.numsF (FrM.mk k st of li co fi da ra).fr) by
            unfold Fr.numsF FrM.fr
            simp only [decide_eq_true_eq, hdb]
            omega)
          clear h1 h2 h3 h4 hwo hdb
          go_enter Tryz.func81, Tryz.ntmps81
          go_wp2_with fail
          go_ret
          exact ⟨_, rfl, HH.out, HB0.out⟩
        · have e4 : decide ((co : Int) ≤ 4611686018427387903) = false := by simp; omega
          have HH := veil (show (false = true ↔ Fr.numsF (FrM.mk k st of li co fi da ra).fr) by
            unfold Fr.numsF FrM.fr
            simp only [Bool.false_eq_true, false_iff]
            omega)
          clear h1 h2 h3 h4 hwo hdb
          go_enter Tryz.func81, Tryz.ntmps81
          go_wp2_with fail
          go_ret
          exact ⟨_, rfl, HH.out, HB0.out⟩
      · have e3 : decide ((li : Int) ≤ 4611686018427387903) = false := by simp; omega
        have HH := veil (show (false = true ↔ Fr.numsF (FrM.mk k st of li co fi da ra).fr) by
          unfold Fr.numsF FrM.fr
          simp only [Bool.false_eq_true, false_iff]
          omega)
        clear h1 h2 h3 hwo hdb
        go_enter Tryz.func81, Tryz.ntmps81
        go_wp2_with fail
        go_ret
        exact ⟨_, rfl, HH.out, HB0.out⟩
    · have e2 : decide ((of : Int) ≤ 4611686018427387903) = false := by simp; omega
      have HH := veil (show (false = true ↔ Fr.numsF (FrM.mk k st of li co fi da ra).fr) by
        unfold Fr.numsF FrM.fr
        simp only [Bool.false_eq_true, false_iff]
        omega)
      clear h1 h2 hwo hdb
      go_enter Tryz.func81, Tryz.ntmps81
      go_wp2_with fail
      go_ret
      exact ⟨_, rfl, HH.out, HB0.out⟩
  · have e1 : decide ((st : Int) ≤ 4611686018427387903) = false := by simp; omega
    have HH := veil (show (false = true ↔ Fr.numsF (FrM.mk k st of li co fi da ra).fr) by
      unfold Fr.numsF FrM.fr
      simp only [Bool.false_eq_true, false_iff]
      omega)
    clear h1 hwo hdb
    go_enter Tryz.func81, Tryz.ntmps81
    go_wp2_with fail
    go_ret
    exact ⟨_, rfl, HH.out, HB0.out⟩
end Go.Proofs.YtaighdppemnglaaGreatDoor
