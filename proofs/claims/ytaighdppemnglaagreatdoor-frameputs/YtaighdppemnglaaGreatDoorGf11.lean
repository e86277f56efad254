/-
  The document's put: a frame behind bytes. Written by mkrefput.py.
-/
import Derived.Test.YtaighdppemnglaaGreatDoorGf9
namespace Go.Proofs.YtaighdppemnglaaGreatDoor
open Go Go.RowKit

def dep4 : Nat → List Nat
  | 1 => [0]
  | 3 => [2]
  | 4 => [1, 3]
  | 6 => [5]
  | 7 => [4, 6]
  | 9 => [8]
  | 10 => [7, 9]
  | 11 => [0, 1, 2, 3, 4, 5, 6, 7, 8, 9, 10]
  | _ => []
def val4 (f : FrM) (g : Nat) : Nat → Value
  | 2 => .pointer (some ⟨g, 1, none⟩)
  | 3 => .int .u64 (f.stream : Int)
  | 5 => .pointer (some ⟨g, 4, none⟩)
  | 6 => .int .u64 (f.code : Int)
  | 8 => .pointer (some ⟨g, 3, none⟩)
  | 9 => .int .u64 (f.limit : Int)
  | _ => undef
def lst4 (f : FrM) (xs : List By) : Nat → List By
  | 0 => xs
  | 1 => xs
  | 2 => xs ++ Fr.numL 4
  | 3 => xs ++ Fr.numL 4 ++ Fr.numL f.stream
  | 4 => xs ++ Fr.numL 4 ++ Fr.numL f.stream ++ Fr.numL f.code
  | 5 => xs ++ Fr.numL 4 ++ Fr.numL f.stream ++ Fr.numL f.code ++ Fr.numL f.limit
  | _ => xs ++ Fr.numL 4 ++ Fr.numL f.stream ++ Fr.numL f.code ++ Fr.numL f.limit

set_option maxRecDepth 20000 in
set_option maxHeartbeats 4000000 in
theorem refput_4 (v : Value) (base : Nat) (f : FrM) (xs : List By) (w : World) (hk : f.kind = 4) (hown : RowK base xs w v) (hbase : base ≤ w.heap.size) (hl : xs.length ≤ 3000000) (hn : Fr.numsF f.fr) (hf : f.Ok w) (hdl : f.data.len ≤ 4000000) (hdb : 0 < f.data.len → f.data.g < base) :
    Calls Tryz.prog 27 #[v, .agg f.cells] w fun e w' => ∃ v', e = .returned v' ∧ RowK base (xs ++ Fr.putF f.fr) w' v' ∧ Keep base w w' := by
  obtain ⟨k, st, of, li, co, fi, da, ra⟩ := f
  simp only at hk hdl hdb
  subst hk
  have r0 : Row (w.alloc (.cells (FrM.mk 4 st of li co fi da ra).cells 37)) w.heap.size 37 (FrM.mk 4 st of li co fi da ra).cells := Row.new _ _ _
  have b0 : Below w.heap.size w (w.alloc (.cells (FrM.mk 4 st of li co fi da ra).cells 37)) := (Below.refl _ w).alloc (Nat.le_refl _) _
  have c0 := (fr_cells r0).1
  simp only [show ((4 : Nat) : Int) = 4 from rfl] at c0
  have HR0 := veil r0
  have HB0 := veil b0
  have HOWN := veil hown
  have HN := veil hn
  have HF := veil hf
  have HDB := veil hdb
  clear hown hn r0 b0 hf hdb
  refine (callsIn_wide (n := 4)).1 ?_
  refine callsIn_of_wp Tryz.func27 rfl trivial ?_ rfl
  simp only [Tryz.ntmps27, List.size_toArray, List.length_cons, List.length_nil, Nat.reduceAdd, Nat.reduceSub, Array.replicate_succ, Array.replicate_zero, List.push_toArray, List.append_toArray, List.nil_append, List.cons_append]
  gi_wp2_with fail
  clear c0
  refine wpIn_region_any (by kernel_rfl) ?_
  refine anyIn_chain (w0 := (w.alloc (.cells (FrM.mk 4 st of li co fi da ra).cells 37))) (Keep base) (fun _ _ _ h1 h2 => h1.trans h2) (val4 (FrM.mk 4 st of li co fi da ra) w.heap.size) (fun k W u => RowK base (lst4 (FrM.mk 4 st of li co fi da ra) xs k) W u) v [0, 1, 4, 7, 10, 11] [26, 27, 28, 29, 30, 31, 32, 33, 34, 35, 36, 4] dep4 (by kernel_rfl) rfl (by decide) (by decide) ?ord (own_below HOWN.out HB0.out.drew) (Keep.of_below ((Below.refl _ _).drew) (by have := HB0.out.size; omega)) ?fix ?cal ?done (by decide)
  case ord =>
    intro k i j hj hi
    match k with
    | 0 => obtain rfl := Option.some.inj hj; obtain rfl := Option.some.inj hi; decide
    | 1 => obtain rfl := Option.some.inj hj; obtain rfl := Option.some.inj hi; decide
    | 2 => obtain rfl := Option.some.inj hj; obtain rfl := Option.some.inj hi; decide
    | 3 => obtain rfl := Option.some.inj hj; obtain rfl := Option.some.inj hi; decide
    | 4 => obtain rfl := Option.some.inj hj; obtain rfl := Option.some.inj hi; decide
    | _ + 5 => simp at hi
  case fix =>
    intro x W i d hW hdi hni hfx _
    have rW := fr_cells (hW.row (by decide) HR0.out)
    match i, hdi, hni, hfx with
    | 0, hdi, hni, hfx => exact absurd (by decide) hni
    | 1, hdi, hni, hfx => exact absurd (by decide) hni
    | 2, hdi, hni, hfx =>
      obtain rfl := Option.some.inj hdi
      exact OI_value rfl rfl (about_none (by intro c h; cases h)) (by intro c h; cases h) (.pointer (some ⟨w.heap.size, 1, none⟩)) W (by kernel_rfl) ⟨rfl, rfl⟩
    | 3, hdi, hni, hfx =>
      obtain rfl := Option.some.inj hdi
      rw [updV_self (hfx 2 (by decide) (by decide))]
      exact OI_value rfl rfl (about_none (by intro c h; cases h)) (by intro c h; cases h) _ W (run_cellF 34 _ ⟨w.heap.size, 1, none⟩ _ _ rfl (by kernel_rfl) Tryz.underlying34 rfl W (rW.2.1)) ⟨rfl, rfl⟩
    | 4, hdi, hni, hfx => exact absurd (by decide) hni
    | 5, hdi, hni, hfx =>
      obtain rfl := Option.some.inj hdi
      exact OI_value rfl rfl (about_none (by intro c h; cases h)) (by intro c h; cases h) (.pointer (some ⟨w.heap.size, 4, none⟩)) W (by kernel_rfl) ⟨rfl, rfl⟩
    | 6, hdi, hni, hfx =>
      obtain rfl := Option.some.inj hdi
      rw [updV_self (hfx 5 (by decide) (by decide))]
      exact OI_value rfl rfl (about_none (by intro c h; cases h)) (by intro c h; cases h) _ W (run_cellF 34 _ ⟨w.heap.size, 4, none⟩ _ _ rfl (by kernel_rfl) Tryz.underlying34 rfl W (rW.2.2.2.2.1)) ⟨rfl, rfl⟩
    | 7, hdi, hni, hfx => exact absurd (by decide) hni
    | 8, hdi, hni, hfx =>
      obtain rfl := Option.some.inj hdi
      exact OI_value rfl rfl (about_none (by intro c h; cases h)) (by intro c h; cases h) (.pointer (some ⟨w.heap.size, 3, none⟩)) W (by kernel_rfl) ⟨rfl, rfl⟩
    | 9, hdi, hni, hfx =>
      obtain rfl := Option.some.inj hdi
      rw [updV_self (hfx 8 (by decide) (by decide))]
      exact OI_value rfl rfl (about_none (by intro c h; cases h)) (by intro c h; cases h) _ W (run_cellF 34 _ ⟨w.heap.size, 3, none⟩ _ _ rfl (by kernel_rfl) Tryz.underlying34 rfl W (rW.2.2.2.1)) ⟨rfl, rfl⟩
    | 10, hdi, hni, hfx => exact absurd (by decide) hni
    | 11, hdi, hni, hfx => exact absurd (by decide) hni
    | _ + 12, hdi, _, _ => simp at hdi
  case cal =>
    intro x W k i d u hW hck hdi hfx _ hu0 hup hR
    have hWs := hW.size
    have hbW : base ≤ W.heap.size := by have := HB0.out.size; omega
    match k, hck, hu0, hup, hR with
    | 0, hck, hu0, hup, hR =>
      obtain rfl := Option.some.inj hck
      obtain rfl := Option.some.inj hdi
      obtain rfl := hu0 rfl
      exact OI_value rfl rfl (about_none (by intro c h; cases h)) (by intro c h; cases h) u W (by kernel_rfl) ⟨u, rfl, Keep.refl _ _, hR⟩
    | 1, hck, hu0, hup, hR =>
      obtain rfl := Option.some.inj hck
      obtain rfl := Option.some.inj hdi
      obtain rfl := hup 0 0 rfl rfl
      refine OI_call rfl rfl (by intro c h; cases h) 84 #[x 0, .int .u64 (4 : Int)] (fun _ _ => trivial) (by kernel_rfl) (by decide) ?_
      refine (callsIn_wide.2 (ref_numberK (x 0) base 4 (lst4 (FrM.mk 4 st of li co fi da ra) xs 1) W (by decide) hR hbW (Nat.le_trans (hl) (by decide)))).mono ?_
      rintro e W' ⟨v', rfl, ho, hk⟩
      exact ⟨_, rfl, v', rfl, hk, ho⟩
    | 2, hck, hu0, hup, hR =>
      obtain rfl := Option.some.inj hck
      obtain rfl := Option.some.inj hdi
      obtain rfl := hup 1 1 rfl rfl
      refine OI_call rfl rfl (by intro c h; cases h) 84 #[x 1, x 3] (fun _ _ => trivial) (by kernel_rfl) (by decide) ?_
      rw [show x 3 = .int .u64 (st : Int) from hfx 3 (by decide) (by decide)]
      refine (callsIn_wide.2 (ref_numberK (x 1) base st (lst4 (FrM.mk 4 st of li co fi da ra) xs 2) W HN.out.1 hR hbW (Nat.le_trans (len_num (hl)) (by decide)))).mono ?_
      rintro e W' ⟨v', rfl, ho, hk⟩
      exact ⟨_, rfl, v', rfl, hk, ho⟩
    | 3, hck, hu0, hup, hR =>
      obtain rfl := Option.some.inj hck
      obtain rfl := Option.some.inj hdi
      obtain rfl := hup 2 4 rfl rfl
      refine OI_call rfl rfl (by intro c h; cases h) 84 #[x 4, x 6] (fun _ _ => trivial) (by kernel_rfl) (by decide) ?_
      rw [show x 6 = .int .u64 (co : Int) from hfx 6 (by decide) (by decide)]
      refine (callsIn_wide.2 (ref_numberK (x 4) base co (lst4 (FrM.mk 4 st of li co fi da ra) xs 3) W HN.out.2.2.2.1 hR hbW (Nat.le_trans (len_num (len_num (hl))) (by decide)))).mono ?_
      rintro e W' ⟨v', rfl, ho, hk⟩
      exact ⟨_, rfl, v', rfl, hk, ho⟩
    | 4, hck, hu0, hup, hR =>
      obtain rfl := Option.some.inj hck
      obtain rfl := Option.some.inj hdi
      obtain rfl := hup 3 7 rfl rfl
      refine OI_call rfl rfl (by intro c h; cases h) 84 #[x 7, x 9] (fun _ _ => trivial) (by kernel_rfl) (by decide) ?_
      rw [show x 9 = .int .u64 (li : Int) from hfx 9 (by decide) (by decide)]
      refine (callsIn_wide.2 (ref_numberK (x 7) base li (lst4 (FrM.mk 4 st of li co fi da ra) xs 4) W HN.out.2.2.1 hR hbW (Nat.le_trans (len_num (len_num (len_num (hl)))) (by decide)))).mono ?_
      rintro e W' ⟨v', rfl, ho, hk⟩
      exact ⟨_, rfl, v', rfl, hk, ho⟩
    | 5, hck, hu0, hup, hR =>
      obtain rfl := Option.some.inj hck
      obtain rfl := Option.some.inj hdi
      obtain rfl := hup 4 10 rfl rfl
      exact OI_value rfl rfl (about_none (by intro c h; cases h)) (by intro c h; cases h) (x 10) W (by kernel_rfl) ⟨_, rfl, Keep.refl _ _, hR⟩
    | _ + 6, hck, _, _, _ => simp at hck
  case done =>
    intro x W u hW hfx hup hR
    have hu := hup 5 11 rfl rfl
    obtain rfl := hu
    have HKW := veil ((Keep.of_below HB0.out hbase).trans hW)
    have HRW := veil hR
    clear hR hfx hup HOWN HN HF HDB HR0 HB0 hW
    simp only [putsV, Act.put, List.setIfInBounds_toArray, List.set_cons_succ, List.set_cons_zero, Nat.reduceAdd]
    gi_wp2_with fail
    go_ret
    refine ⟨_, rfl, ?_, HKW.out⟩
    have e : lst4 (FrM.mk 4 st of li co fi da ra) xs 6 = xs ++ Fr.putF (FrM.mk 4 st of li co fi da ra).fr := by
      show xs ++ Fr.numL 4 ++ Fr.numL st ++ Fr.numL co ++ Fr.numL li = xs ++ (Fr.numL 4 ++ (Fr.numL st ++ (Fr.numL co ++ Fr.numL li)))
      simp only [List.append_assoc]
    rw [← e]
    exact HRW.out

def dep5 : Nat → List Nat
  | 1 => [0]
  | 3 => [2]
  | 4 => [1, 3]
  | 6 => [5]
  | 7 => [4, 6]
  | 8 => [0, 1, 2, 3, 4, 5, 6, 7]
  | _ => []
def val5 (f : FrM) (g : Nat) : Nat → Value
  | 2 => .pointer (some ⟨g, 1, none⟩)
  | 3 => .int .u64 (f.stream : Int)
  | 5 => .pointer (some ⟨g, 4, none⟩)
  | 6 => .int .u64 (f.code : Int)
  | _ => undef
def lst5 (f : FrM) (xs : List By) : Nat → List By
  | 0 => xs
  | 1 => xs
  | 2 => xs ++ Fr.numL 5
  | 3 => xs ++ Fr.numL 5 ++ Fr.numL f.stream
  | 4 => xs ++ Fr.numL 5 ++ Fr.numL f.stream ++ Fr.numL f.code
  | _ => xs ++ Fr.numL 5 ++ Fr.numL f.stream ++ Fr.numL f.code

set_option maxRecDepth 20000 in
set_option maxHeartbeats 4000000 in
theorem refput_5 (v : Value) (base : Nat) (f : FrM) (xs : List By) (w : World) (hk : f.kind = 5) (hown : RowK base xs w v) (hbase : base ≤ w.heap.size) (hl : xs.length ≤ 3000000) (hn : Fr.numsF f.fr) (hf : f.Ok w) (hdl : f.data.len ≤ 4000000) (hdb : 0 < f.data.len → f.data.g < base) :
    Calls Tryz.prog 27 #[v, .agg f.cells] w fun e w' => ∃ v', e = .returned v' ∧ RowK base (xs ++ Fr.putF f.fr) w' v' ∧ Keep base w w' := by
  obtain ⟨k, st, of, li, co, fi, da, ra⟩ := f
  simp only at hk hdl hdb
  subst hk
  have r0 : Row (w.alloc (.cells (FrM.mk 5 st of li co fi da ra).cells 37)) w.heap.size 37 (FrM.mk 5 st of li co fi da ra).cells := Row.new _ _ _
  have b0 : Below w.heap.size w (w.alloc (.cells (FrM.mk 5 st of li co fi da ra).cells 37)) := (Below.refl _ w).alloc (Nat.le_refl _) _
  have c0 := (fr_cells r0).1
  simp only [show ((5 : Nat) : Int) = 5 from rfl] at c0
  have HR0 := veil r0
  have HB0 := veil b0
  have HOWN := veil hown
  have HN := veil hn
  have HF := veil hf
  have HDB := veil hdb
  clear hown hn r0 b0 hf hdb
  refine (callsIn_wide (n := 4)).1 ?_
  refine callsIn_of_wp Tryz.func27 rfl trivial ?_ rfl
  simp only [Tryz.ntmps27, List.size_toArray, List.length_cons, List.length_nil, Nat.reduceAdd, Nat.reduceSub, Array.replicate_succ, Array.replicate_zero, List.push_toArray, List.append_toArray, List.nil_append, List.cons_append]
  gi_wp2_with fail
  clear c0
  refine wpIn_region_any (by kernel_rfl) ?_
  refine anyIn_chain (w0 := (w.alloc (.cells (FrM.mk 5 st of li co fi da ra).cells 37))) (Keep base) (fun _ _ _ h1 h2 => h1.trans h2) (val5 (FrM.mk 5 st of li co fi da ra) w.heap.size) (fun k W u => RowK base (lst5 (FrM.mk 5 st of li co fi da ra) xs k) W u) v [0, 1, 4, 7, 8] [39, 40, 41, 42, 43, 44, 45, 46, 4] dep5 (by kernel_rfl) rfl (by decide) (by decide) ?ord (own_below HOWN.out HB0.out.drew) (Keep.of_below ((Below.refl _ _).drew) (by have := HB0.out.size; omega)) ?fix ?cal ?done (by decide)
  case ord =>
    intro k i j hj hi
    match k with
    | 0 => obtain rfl := Option.some.inj hj; obtain rfl := Option.some.inj hi; decide
    | 1 => obtain rfl := Option.some.inj hj; obtain rfl := Option.some.inj hi; decide
    | 2 => obtain rfl := Option.some.inj hj; obtain rfl := Option.some.inj hi; decide
    | 3 => obtain rfl := Option.some.inj hj; obtain rfl := Option.some.inj hi; decide
    | _ + 4 => simp at hi
  case fix =>
    intro x W i d hW hdi hni hfx _
    have rW := fr_cells (hW.row (by decide) HR0.out)
    match i, hdi, hni, hfx with
    | 0, hdi, hni, hfx => exact absurd (by decide) hni
    | 1, hdi, hni, hfx => exact absurd (by decide) hni
    | 2, hdi, hni, hfx =>
      obtain rfl := Option.some.inj hdi
      exact OI_value rfl rfl (about_none (by intro c h; cases h)) (by intro c h; cases h) (.pointer (some ⟨w.heap.size, 1, none⟩)) W (by kernel_rfl) ⟨rfl, rfl⟩
    | 3, hdi, hni, hfx =>
      obtain rfl := Option.some.inj hdi
      rw [updV_self (hfx 2 (by decide) (by decide))]
      exact OI_value rfl rfl (about_none (by intro c h; cases h)) (by intro c h; cases h) _ W (run_cellF 34 _ ⟨w.heap.size, 1, none⟩ _ _ rfl (by kernel_rfl) Tryz.underlying34 rfl W (rW.2.1)) ⟨rfl, rfl⟩
    | 4, hdi, hni, hfx => exact absurd (by decide) hni
    | 5, hdi, hni, hfx =>
      obtain rfl := Option.some.inj hdi
      exact OI_value rfl rfl (about_none (by intro c h; cases h)) (by intro c h; cases h) (.pointer (some ⟨w.heap.size, 4, none⟩)) W (by kernel_rfl) ⟨rfl, rfl⟩
    | 6, hdi, hni, hfx =>
      obtain rfl := Option.some.inj hdi
      rw [updV_self (hfx 5 (by decide) (by decide))]
      exact OI_value rfl rfl (about_none (by intro c h; cases h)) (by intro c h; cases h) _ W (run_cellF 34 _ ⟨w.heap.size, 4, none⟩ _ _ rfl (by kernel_rfl) Tryz.underlying34 rfl W (rW.2.2.2.2.1)) ⟨rfl, rfl⟩
    | 7, hdi, hni, hfx => exact absurd (by decide) hni
    | 8, hdi, hni, hfx => exact absurd (by decide) hni
    | _ + 9, hdi, _, _ => simp at hdi
  case cal =>
    intro x W k i d u hW hck hdi hfx _ hu0 hup hR
    have hWs := hW.size
    have hbW : base ≤ W.heap.size := by have := HB0.out.size; omega
    match k, hck, hu0, hup, hR with
    | 0, hck, hu0, hup, hR =>
      obtain rfl := Option.some.inj hck
      obtain rfl := Option.some.inj hdi
      obtain rfl := hu0 rfl
      exact OI_value rfl rfl (about_none (by intro c h; cases h)) (by intro c h; cases h) u W (by kernel_rfl) ⟨u, rfl, Keep.refl _ _, hR⟩
    | 1, hck, hu0, hup, hR =>
      obtain rfl := Option.some.inj hck
      obtain rfl := Option.some.inj hdi
      obtain rfl := hup 0 0 rfl rfl
      refine OI_call rfl rfl (by intro c h; cases h) 84 #[x 0, .int .u64 (5 : Int)] (fun _ _ => trivial) (by kernel_rfl) (by decide) ?_
      refine (callsIn_wide.2 (ref_numberK (x 0) base 5 (lst5 (FrM.mk 5 st of li co fi da ra) xs 1) W (by decide) hR hbW (Nat.le_trans (hl) (by decide)))).mono ?_
      rintro e W' ⟨v', rfl, ho, hk⟩
      exact ⟨_, rfl, v', rfl, hk, ho⟩
    | 2, hck, hu0, hup, hR =>
      obtain rfl := Option.some.inj hck
      obtain rfl := Option.some.inj hdi
      obtain rfl := hup 1 1 rfl rfl
      refine OI_call rfl rfl (by intro c h; cases h) 84 #[x 1, x 3] (fun _ _ => trivial) (by kernel_rfl) (by decide) ?_
      rw [show x 3 = .int .u64 (st : Int) from hfx 3 (by decide) (by decide)]
      refine (callsIn_wide.2 (ref_numberK (x 1) base st (lst5 (FrM.mk 5 st of li co fi da ra) xs 2) W HN.out.1 hR hbW (Nat.le_trans (len_num (hl)) (by decide)))).mono ?_
      rintro e W' ⟨v', rfl, ho, hk⟩
      exact ⟨_, rfl, v', rfl, hk, ho⟩
    | 3, hck, hu0, hup, hR =>
      obtain rfl := Option.some.inj hck
      obtain rfl := Option.some.inj hdi
      obtain rfl := hup 2 4 rfl rfl
      refine OI_call rfl rfl (by intro c h; cases h) 84 #[x 4, x 6] (fun _ _ => trivial) (by kernel_rfl) (by decide) ?_
      rw [show x 6 = .int .u64 (co : Int) from hfx 6 (by decide) (by decide)]
      refine (callsIn_wide.2 (ref_numberK (x 4) base co (lst5 (FrM.mk 5 st of li co fi da ra) xs 3) W HN.out.2.2.2.1 hR hbW (Nat.le_trans (len_num (len_num (hl))) (by decide)))).mono ?_
      rintro e W' ⟨v', rfl, ho, hk⟩
      exact ⟨_, rfl, v', rfl, hk, ho⟩
    | 4, hck, hu0, hup, hR =>
      obtain rfl := Option.some.inj hck
      obtain rfl := Option.some.inj hdi
      obtain rfl := hup 3 7 rfl rfl
      exact OI_value rfl rfl (about_none (by intro c h; cases h)) (by intro c h; cases h) (x 7) W (by kernel_rfl) ⟨_, rfl, Keep.refl _ _, hR⟩
    | _ + 5, hck, _, _, _ => simp at hck
  case done =>
    intro x W u hW hfx hup hR
    have hu := hup 4 8 rfl rfl
    obtain rfl := hu
    have HKW := veil ((Keep.of_below HB0.out hbase).trans hW)
    have HRW := veil hR
    clear hR hfx hup HOWN HN HF HDB HR0 HB0 hW
    simp only [putsV, Act.put, List.setIfInBounds_toArray, List.set_cons_succ, List.set_cons_zero, Nat.reduceAdd]
    gi_wp2_with fail
    go_ret
    refine ⟨_, rfl, ?_, HKW.out⟩
    have e : lst5 (FrM.mk 5 st of li co fi da ra) xs 5 = xs ++ Fr.putF (FrM.mk 5 st of li co fi da ra).fr := by
      show xs ++ Fr.numL 5 ++ Fr.numL st ++ Fr.numL co = xs ++ (Fr.numL 5 ++ (Fr.numL st ++ Fr.numL co))
      simp only [List.append_assoc]
    rw [← e]
    exact HRW.out

def dep6 : Nat → List Nat
  | 1 => [0]
  | 3 => [2]
  | 4 => [1, 3]
  | 6 => [5]
  | 7 => [4, 6]
  | 8 => [0, 1, 2, 3, 4, 5, 6, 7]
  | _ => []
def val6 (f : FrM) (g : Nat) : Nat → Value
  | 2 => .pointer (some ⟨g, 2, none⟩)
  | 3 => .int .u64 (f.offset : Int)
  | 5 => .pointer (some ⟨g, 6, none⟩)
  | 6 => .slice f.data.a f.data.len f.data.cap
  | _ => undef
def lst6 (f : FrM) (xs : List By) : Nat → List By
  | 0 => xs
  | 1 => xs
  | 2 => xs ++ Fr.numL 6
  | 3 => xs ++ Fr.numL 6 ++ Fr.numL f.offset
  | 4 => xs ++ Fr.numL 6 ++ Fr.numL f.offset ++ Fr.sizedL f.data.b
  | _ => xs ++ Fr.numL 6 ++ Fr.numL f.offset ++ Fr.sizedL f.data.b

set_option maxRecDepth 20000 in
set_option maxHeartbeats 4000000 in
theorem refput_6 (v : Value) (base : Nat) (f : FrM) (xs : List By) (w : World) (hk : f.kind = 6) (hown : RowK base xs w v) (hbase : base ≤ w.heap.size) (hl : xs.length ≤ 3000000) (hn : Fr.numsF f.fr) (hf : f.Ok w) (hdl : f.data.len ≤ 4000000) (hdb : 0 < f.data.len → f.data.g < base) :
    Calls Tryz.prog 27 #[v, .agg f.cells] w fun e w' => ∃ v', e = .returned v' ∧ RowK base (xs ++ Fr.putF f.fr) w' v' ∧ Keep base w w' := by
  obtain ⟨k, st, of, li, co, fi, da, ra⟩ := f
  simp only at hk hdl hdb
  subst hk
  have r0 : Row (w.alloc (.cells (FrM.mk 6 st of li co fi da ra).cells 37)) w.heap.size 37 (FrM.mk 6 st of li co fi da ra).cells := Row.new _ _ _
  have b0 : Below w.heap.size w (w.alloc (.cells (FrM.mk 6 st of li co fi da ra).cells 37)) := (Below.refl _ w).alloc (Nat.le_refl _) _
  have c0 := (fr_cells r0).1
  simp only [show ((6 : Nat) : Int) = 6 from rfl] at c0
  have HR0 := veil r0
  have HB0 := veil b0
  have HOWN := veil hown
  have HN := veil hn
  have HF := veil hf
  have HDB := veil hdb
  clear hown hn r0 b0 hf hdb
  refine (callsIn_wide (n := 4)).1 ?_
  refine callsIn_of_wp Tryz.func27 rfl trivial ?_ rfl
  simp only [Tryz.ntmps27, List.size_toArray, List.length_cons, List.length_nil, Nat.reduceAdd, Nat.reduceSub, Array.replicate_succ, Array.replicate_zero, List.push_toArray, List.append_toArray, List.nil_append, List.cons_append]
  gi_wp2_with fail
  clear c0
  refine wpIn_region_any (by kernel_rfl) ?_
  refine anyIn_chain (w0 := (w.alloc (.cells (FrM.mk 6 st of li co fi da ra).cells 37))) (Keep base) (fun _ _ _ h1 h2 => h1.trans h2) (val6 (FrM.mk 6 st of li co fi da ra) w.heap.size) (fun k W u => RowK base (lst6 (FrM.mk 6 st of li co fi da ra) xs k) W u) v [0, 1, 4, 7, 8] [49, 50, 51, 52, 53, 54, 55, 56, 4] dep6 (by kernel_rfl) rfl (by decide) (by decide) ?ord (own_below HOWN.out HB0.out.drew) (Keep.of_below ((Below.refl _ _).drew) (by have := HB0.out.size; omega)) ?fix ?cal ?done (by decide)
  case ord =>
    intro k i j hj hi
    match k with
    | 0 => obtain rfl := Option.some.inj hj; obtain rfl := Option.some.inj hi; decide
    | 1 => obtain rfl := Option.some.inj hj; obtain rfl := Option.some.inj hi; decide
    | 2 => obtain rfl := Option.some.inj hj; obtain rfl := Option.some.inj hi; decide
    | 3 => obtain rfl := Option.some.inj hj; obtain rfl := Option.some.inj hi; decide
    | _ + 4 => simp at hi
  case fix =>
    intro x W i d hW hdi hni hfx _
    have rW := fr_cells (hW.row (by decide) HR0.out)
    match i, hdi, hni, hfx with
    | 0, hdi, hni, hfx => exact absurd (by decide) hni
    | 1, hdi, hni, hfx => exact absurd (by decide) hni
    | 2, hdi, hni, hfx =>
      obtain rfl := Option.some.inj hdi
      exact OI_value rfl rfl (about_none (by intro c h; cases h)) (by intro c h; cases h) (.pointer (some ⟨w.heap.size, 2, none⟩)) W (by kernel_rfl) ⟨rfl, rfl⟩
    | 3, hdi, hni, hfx =>
      obtain rfl := Option.some.inj hdi
      rw [updV_self (hfx 2 (by decide) (by decide))]
      exact OI_value rfl rfl (about_none (by intro c h; cases h)) (by intro c h; cases h) _ W (run_cellF 34 _ ⟨w.heap.size, 2, none⟩ _ _ rfl (by kernel_rfl) Tryz.underlying34 rfl W (rW.2.2.1)) ⟨rfl, rfl⟩
    | 4, hdi, hni, hfx => exact absurd (by decide) hni
    | 5, hdi, hni, hfx =>
      obtain rfl := Option.some.inj hdi
      exact OI_value rfl rfl (about_none (by intro c h; cases h)) (by intro c h; cases h) (.pointer (some ⟨w.heap.size, 6, none⟩)) W (by kernel_rfl) ⟨rfl, rfl⟩
    | 6, hdi, hni, hfx =>
      obtain rfl := Option.some.inj hdi
      rw [updV_self (hfx 5 (by decide) (by decide))]
      exact OI_value rfl rfl (about_none (by intro c h; cases h)) (by intro c h; cases h) _ W (run_cellF 26 _ ⟨w.heap.size, 6, none⟩ _ _ rfl (by kernel_rfl) Tryz.underlying26 rfl W (rW.2.2.2.2.2.2.1)) ⟨rfl, rfl⟩
    | 7, hdi, hni, hfx => exact absurd (by decide) hni
    | 8, hdi, hni, hfx => exact absurd (by decide) hni
    | _ + 9, hdi, _, _ => simp at hdi
  case cal =>
    intro x W k i d u hW hck hdi hfx _ hu0 hup hR
    have hWs := hW.size
    have hbW : base ≤ W.heap.size := by have := HB0.out.size; omega
    match k, hck, hu0, hup, hR with
    | 0, hck, hu0, hup, hR =>
      obtain rfl := Option.some.inj hck
      obtain rfl := Option.some.inj hdi
      obtain rfl := hu0 rfl
      exact OI_value rfl rfl (about_none (by intro c h; cases h)) (by intro c h; cases h) u W (by kernel_rfl) ⟨u, rfl, Keep.refl _ _, hR⟩
    | 1, hck, hu0, hup, hR =>
      obtain rfl := Option.some.inj hck
      obtain rfl := Option.some.inj hdi
      obtain rfl := hup 0 0 rfl rfl
      refine OI_call rfl rfl (by intro c h; cases h) 84 #[x 0, .int .u64 (6 : Int)] (fun _ _ => trivial) (by kernel_rfl) (by decide) ?_
      refine (callsIn_wide.2 (ref_numberK (x 0) base 6 (lst6 (FrM.mk 6 st of li co fi da ra) xs 1) W (by decide) hR hbW (Nat.le_trans (hl) (by decide)))).mono ?_
      rintro e W' ⟨v', rfl, ho, hk⟩
      exact ⟨_, rfl, v', rfl, hk, ho⟩
    | 2, hck, hu0, hup, hR =>
      obtain rfl := Option.some.inj hck
      obtain rfl := Option.some.inj hdi
      obtain rfl := hup 1 1 rfl rfl
      refine OI_call rfl rfl (by intro c h; cases h) 84 #[x 1, x 3] (fun _ _ => trivial) (by kernel_rfl) (by decide) ?_
      rw [show x 3 = .int .u64 (of : Int) from hfx 3 (by decide) (by decide)]
      refine (callsIn_wide.2 (ref_numberK (x 1) base of (lst6 (FrM.mk 6 st of li co fi da ra) xs 2) W HN.out.2.1 hR hbW (Nat.le_trans (len_num (hl)) (by decide)))).mono ?_
      rintro e W' ⟨v', rfl, ho, hk⟩
      exact ⟨_, rfl, v', rfl, hk, ho⟩
    | 3, hck, hu0, hup, hR =>
      obtain rfl := Option.some.inj hck
      obtain rfl := Option.some.inj hdi
      obtain rfl := hup 2 4 rfl rfl
      refine OI_call rfl rfl (by intro c h; cases h) 86 #[x 4, x 6] (fun _ _ => trivial) (by kernel_rfl) (by decide) ?_
      rw [show x 6 = .slice da.a da.len da.cap from hfx 6 (by decide) (by decide)]
      refine (callsIn_wide.2 (ref_sizedK (x 4) base da (lst6 (FrM.mk 6 st of li co fi da ra) xs 3) W hR hbW (Nat.le_trans (len_num (len_num (hl))) (by decide)) (HF.out.data.below' ((Keep.of_below HB0.out hbase).trans hW).bel HDB.out) hdl HDB.out)).mono ?_
      rintro e W' ⟨v', rfl, ho, hk⟩
      exact ⟨_, rfl, v', rfl, hk, ho⟩
    | 4, hck, hu0, hup, hR =>
      obtain rfl := Option.some.inj hck
      obtain rfl := Option.some.inj hdi
      obtain rfl := hup 3 7 rfl rfl
      exact OI_value rfl rfl (about_none (by intro c h; cases h)) (by intro c h; cases h) (x 7) W (by kernel_rfl) ⟨_, rfl, Keep.refl _ _, hR⟩
    | _ + 5, hck, _, _, _ => simp at hck
  case done =>
    intro x W u hW hfx hup hR
    have hu := hup 4 8 rfl rfl
    obtain rfl := hu
    have HKW := veil ((Keep.of_below HB0.out hbase).trans hW)
    have HRW := veil hR
    clear hR hfx hup HOWN HN HF HDB HR0 HB0 hW
    simp only [putsV, Act.put, List.setIfInBounds_toArray, List.set_cons_succ, List.set_cons_zero, Nat.reduceAdd]
    gi_wp2_with fail
    go_ret
    refine ⟨_, rfl, ?_, HKW.out⟩
    have e : lst6 (FrM.mk 6 st of li co fi da ra) xs 5 = xs ++ Fr.putF (FrM.mk 6 st of li co fi da ra).fr := by
      show xs ++ Fr.numL 6 ++ Fr.numL of ++ Fr.sizedL da.b = xs ++ (Fr.numL 6 ++ (Fr.numL of ++ Fr.sizedL da.b))
      simp only [List.append_assoc]
    rw [← e]
    exact HRW.out

def dep8 : Nat → List Nat
  | 1 => [0]
  | 3 => [2]
  | 4 => [1, 3]
  | 5 => [0, 1, 2, 3, 4]
  | _ => []
def val8 (f : FrM) (g : Nat) : Nat → Value
  | 2 => .pointer (some ⟨g, 3, none⟩)
  | 3 => .int .u64 (f.limit : Int)
  | _ => undef
def lst8 (f : FrM) (xs : List By) : Nat → List By
  | 0 => xs
  | 1 => xs
  | 2 => xs ++ Fr.numL 16
  | 3 => xs ++ Fr.numL 16 ++ Fr.numL f.limit
  | _ => xs ++ Fr.numL 16 ++ Fr.numL f.limit

set_option maxRecDepth 20000 in
set_option maxHeartbeats 4000000 in
theorem refput_8 (v : Value) (base : Nat) (f : FrM) (xs : List By) (w : World) (hk : f.kind = 8) (hown : RowK base xs w v) (hbase : base ≤ w.heap.size) (hl : xs.length ≤ 3000000) (hn : Fr.numsF f.fr) (hf : f.Ok w) (hdl : f.data.len ≤ 4000000) (hdb : 0 < f.data.len → f.data.g < base) :
    Calls Tryz.prog 27 #[v, .agg f.cells] w fun e w' => ∃ v', e = .returned v' ∧ RowK base (xs ++ Fr.putF f.fr) w' v' ∧ Keep base w w' := by
  obtain ⟨k, st, of, li, co, fi, da, ra⟩ := f
  simp only at hk hdl hdb
  subst hk
  have r0 : Row (w.alloc (.cells (FrM.mk 8 st of li co fi da ra).cells 37)) w.heap.size 37 (FrM.mk 8 st of li co fi da ra).cells := Row.new _ _ _
  have b0 : Below w.heap.size w (w.alloc (.cells (FrM.mk 8 st of li co fi da ra).cells 37)) := (Below.refl _ w).alloc (Nat.le_refl _) _
  have c0 := (fr_cells r0).1
  simp only [show ((8 : Nat) : Int) = 8 from rfl] at c0
  have HR0 := veil r0
  have HB0 := veil b0
  have HOWN := veil hown
  have HN := veil hn
  have HF := veil hf
  have HDB := veil hdb
  clear hown hn r0 b0 hf hdb
  refine (callsIn_wide (n := 4)).1 ?_
  refine callsIn_of_wp Tryz.func27 rfl trivial ?_ rfl
  simp only [Tryz.ntmps27, List.size_toArray, List.length_cons, List.length_nil, Nat.reduceAdd, Nat.reduceSub, Array.replicate_succ, Array.replicate_zero, List.push_toArray, List.append_toArray, List.nil_append, List.cons_append]
  gi_wp2_with fail
  clear c0
  refine wpIn_region_any (by kernel_rfl) ?_
  refine anyIn_chain (w0 := (w.alloc (.cells (FrM.mk 8 st of li co fi da ra).cells 37))) (Keep base) (fun _ _ _ h1 h2 => h1.trans h2) (val8 (FrM.mk 8 st of li co fi da ra) w.heap.size) (fun k W u => RowK base (lst8 (FrM.mk 8 st of li co fi da ra) xs k) W u) v [0, 1, 4, 5] [83, 84, 85, 86, 87, 4] dep8 (by kernel_rfl) rfl (by decide) (by decide) ?ord (own_below HOWN.out HB0.out.drew) (Keep.of_below ((Below.refl _ _).drew) (by have := HB0.out.size; omega)) ?fix ?cal ?done (by decide)
  case ord =>
    intro k i j hj hi
    match k with
    | 0 => obtain rfl := Option.some.inj hj; obtain rfl := Option.some.inj hi; decide
    | 1 => obtain rfl := Option.some.inj hj; obtain rfl := Option.some.inj hi; decide
    | 2 => obtain rfl := Option.some.inj hj; obtain rfl := Option.some.inj hi; decide
    | _ + 3 => simp at hi
  case fix =>
    intro x W i d hW hdi hni hfx _
    have rW := fr_cells (hW.row (by decide) HR0.out)
    match i, hdi, hni, hfx with
    | 0, hdi, hni, hfx => exact absurd (by decide) hni
    | 1, hdi, hni, hfx => exact absurd (by decide) hni
    | 2, hdi, hni, hfx =>
      obtain rfl := Option.some.inj hdi
      exact OI_value rfl rfl (about_none (by intro c h; cases h)) (by intro c h; cases h) (.pointer (some ⟨w.heap.size, 3, none⟩)) W (by kernel_rfl) ⟨rfl, rfl⟩
    | 3, hdi, hni, hfx =>
      obtain rfl := Option.some.inj hdi
      rw [updV_self (hfx 2 (by decide) (by decide))]
      exact OI_value rfl rfl (about_none (by intro c h; cases h)) (by intro c h; cases h) _ W (run_cellF 34 _ ⟨w.heap.size, 3, none⟩ _ _ rfl (by kernel_rfl) Tryz.underlying34 rfl W (rW.2.2.2.1)) ⟨rfl, rfl⟩
    | 4, hdi, hni, hfx => exact absurd (by decide) hni
    | 5, hdi, hni, hfx => exact absurd (by decide) hni
    | _ + 6, hdi, _, _ => simp at hdi
  case cal =>
    intro x W k i d u hW hck hdi hfx _ hu0 hup hR
    have hWs := hW.size
    have hbW : base ≤ W.heap.size := by have := HB0.out.size; omega
    match k, hck, hu0, hup, hR with
    | 0, hck, hu0, hup, hR =>
      obtain rfl := Option.some.inj hck
      obtain rfl := Option.some.inj hdi
      obtain rfl := hu0 rfl
      exact OI_value rfl rfl (about_none (by intro c h; cases h)) (by intro c h; cases h) u W (by kernel_rfl) ⟨u, rfl, Keep.refl _ _, hR⟩
    | 1, hck, hu0, hup, hR =>
      obtain rfl := Option.some.inj hck
      obtain rfl := Option.some.inj hdi
      obtain rfl := hup 0 0 rfl rfl
      refine OI_call rfl rfl (by intro c h; cases h) 84 #[x 0, .int .u64 (16 : Int)] (fun _ _ => trivial) (by kernel_rfl) (by decide) ?_
      refine (callsIn_wide.2 (ref_numberK (x 0) base 16 (lst8 (FrM.mk 8 st of li co fi da ra) xs 1) W (by decide) hR hbW (Nat.le_trans (hl) (by decide)))).mono ?_
      rintro e W' ⟨v', rfl, ho, hk⟩
      exact ⟨_, rfl, v', rfl, hk, ho⟩
    | 2, hck, hu0, hup, hR =>
      obtain rfl := Option.some.inj hck
      obtain rfl := Option.some.inj hdi
      obtain rfl := hup 1 1 rfl rfl
      refine OI_call rfl rfl (by intro c h; cases h) 84 #[x 1, x 3] (fun _ _ => trivial) (by kernel_rfl) (by decide) ?_
      rw [show x 3 = .int .u64 (li : Int) from hfx 3 (by decide) (by decide)]
      refine (callsIn_wide.2 (ref_numberK (x 1) base li (lst8 (FrM.mk 8 st of li co fi da ra) xs 2) W HN.out.2.2.1 hR hbW (Nat.le_trans (len_num (hl)) (by decide)))).mono ?_
      rintro e W' ⟨v', rfl, ho, hk⟩
      exact ⟨_, rfl, v', rfl, hk, ho⟩
    | 3, hck, hu0, hup, hR =>
      obtain rfl := Option.some.inj hck
      obtain rfl := Option.some.inj hdi
      obtain rfl := hup 2 4 rfl rfl
      exact OI_value rfl rfl (about_none (by intro c h; cases h)) (by intro c h; cases h) (x 4) W (by kernel_rfl) ⟨_, rfl, Keep.refl _ _, hR⟩
    | _ + 4, hck, _, _, _ => simp at hck
  case done =>
    intro x W u hW hfx hup hR
    have hu := hup 3 5 rfl rfl
    obtain rfl := hu
    have HKW := veil ((Keep.of_below HB0.out hbase).trans hW)
    have HRW := veil hR
    clear hR hfx hup HOWN HN HF HDB HR0 HB0 hW
    simp only [putsV, Act.put, List.setIfInBounds_toArray, List.set_cons_succ, List.set_cons_zero, Nat.reduceAdd]
    gi_wp2_with fail
    go_ret
    refine ⟨_, rfl, ?_, HKW.out⟩
    have e : lst8 (FrM.mk 8 st of li co fi da ra) xs 4 = xs ++ Fr.putF (FrM.mk 8 st of li co fi da ra).fr := by
      show xs ++ Fr.numL 16 ++ Fr.numL li = xs ++ (Fr.numL 16 ++ Fr.numL li)
      simp only [List.append_assoc]
    rw [← e]
    exact HRW.out

def dep9 : Nat → List Nat
  | 1 => [0]
  | 3 => [2]
  | 4 => [1, 3]
  | 6 => [5]
  | 7 => [4, 6]
  | 8 => [0, 1, 2, 3, 4, 5, 6, 7]
  | _ => []
def val9 (f : FrM) (g : Nat) : Nat → Value
  | 2 => .pointer (some ⟨g, 1, none⟩)
  | 3 => .int .u64 (f.stream : Int)
  | 5 => .pointer (some ⟨g, 3, none⟩)
  | 6 => .int .u64 (f.limit : Int)
  | _ => undef
def lst9 (f : FrM) (xs : List By) : Nat → List By
  | 0 => xs
  | 1 => xs
  | 2 => xs ++ Fr.numL 17
  | 3 => xs ++ Fr.numL 17 ++ Fr.numL f.stream
  | 4 => xs ++ Fr.numL 17 ++ Fr.numL f.stream ++ Fr.numL f.limit
  | _ => xs ++ Fr.numL 17 ++ Fr.numL f.stream ++ Fr.numL f.limit

set_option maxRecDepth 20000 in
set_option maxHeartbeats 4000000 in
theorem refput_9 (v : Value) (base : Nat) (f : FrM) (xs : List By) (w : World) (hk : f.kind = 9) (hown : RowK base xs w v) (hbase : base ≤ w.heap.size) (hl : xs.length ≤ 3000000) (hn : Fr.numsF f.fr) (hf : f.Ok w) (hdl : f.data.len ≤ 4000000) (hdb : 0 < f.data.len → f.data.g < base) :
    Calls Tryz.prog 27 #[v, .agg f.cells] w fun e w' => ∃ v', e = .returned v' ∧ RowK base (xs ++ Fr.putF f.fr) w' v' ∧ Keep base w w' := by
  obtain ⟨k, st, of, li, co, fi, da, ra⟩ := f
  simp only at hk hdl hdb
  subst hk
  have r0 : Row (w.alloc (.cells (FrM.mk 9 st of li co fi da ra).cells 37)) w.heap.size 37 (FrM.mk 9 st of li co fi da ra).cells := Row.new _ _ _
  have b0 : Below w.heap.size w (w.alloc (.cells (FrM.mk 9 st of li co fi da ra).cells 37)) := (Below.refl _ w).alloc (Nat.le_refl _) _
  have c0 := (fr_cells r0).1
  simp only [show ((9 : Nat) : Int) = 9 from rfl] at c0
  have HR0 := veil r0
  have HB0 := veil b0
  have HOWN := veil hown
  have HN := veil hn
  have HF := veil hf
  have HDB := veil hdb
  clear hown hn r0 b0 hf hdb
  refine (callsIn_wide (n := 4)).1 ?_
  refine callsIn_of_wp Tryz.func27 rfl trivial ?_ rfl
  simp only [Tryz.ntmps27, List.size_toArray, List.length_cons, List.length_nil, Nat.reduceAdd, Nat.reduceSub, Array.replicate_succ, Array.replicate_zero, List.push_toArray, List.append_toArray, List.nil_append, List.cons_append]
  gi_wp2_with fail
  clear c0
  refine wpIn_region_any (by kernel_rfl) ?_
  refine anyIn_chain (w0 := (w.alloc (.cells (FrM.mk 9 st of li co fi da ra).cells 37))) (Keep base) (fun _ _ _ h1 h2 => h1.trans h2) (val9 (FrM.mk 9 st of li co fi da ra) w.heap.size) (fun k W u => RowK base (lst9 (FrM.mk 9 st of li co fi da ra) xs k) W u) v [0, 1, 4, 7, 8] [90, 91, 92, 93, 94, 95, 96, 97, 4] dep9 (by kernel_rfl) rfl (by decide) (by decide) ?ord (own_below HOWN.out HB0.out.drew) (Keep.of_below ((Below.refl _ _).drew) (by have := HB0.out.size; omega)) ?fix ?cal ?done (by decide)
  case ord =>
    intro k i j hj hi
    match k with
    | 0 => obtain rfl := Option.some.inj hj; obtain rfl := Option.some.inj hi; decide
    | 1 => obtain rfl := Option.some.inj hj; obtain rfl := Option.some.inj hi; decide
    | 2 => obtain rfl := Option.some.inj hj; obtain rfl := Option.some.inj hi; decide
    | 3 => obtain rfl := Option.some.inj hj; obtain rfl := Option.some.inj hi; decide
    | _ + 4 => simp at hi
  case fix =>
    intro x W i d hW hdi hni hfx _
    have rW := fr_cells (hW.row (by decide) HR0.out)
    match i, hdi, hni, hfx with
    | 0, hdi, hni, hfx => exact absurd (by decide) hni
    | 1, hdi, hni, hfx => exact absurd (by decide) hni
    | 2, hdi, hni, hfx =>
      obtain rfl := Option.some.inj hdi
      exact OI_value rfl rfl (about_none (by intro c h; cases h)) (by intro c h; cases h) (.pointer (some ⟨w.heap.size, 1, none⟩)) W (by kernel_rfl) ⟨rfl, rfl⟩
    | 3, hdi, hni, hfx =>
      obtain rfl := Option.some.inj hdi
      rw [updV_self (hfx 2 (by decide) (by decide))]
      exact OI_value rfl rfl (about_none (by intro c h; cases h)) (by intro c h; cases h) _ W (run_cellF 34 _ ⟨w.heap.size, 1, none⟩ _ _ rfl (by kernel_rfl) Tryz.underlying34 rfl W (rW.2.1)) ⟨rfl, rfl⟩
    | 4, hdi, hni, hfx => exact absurd (by decide) hni
    | 5, hdi, hni, hfx =>
      obtain rfl := Option.some.inj hdi
      exact OI_value rfl rfl (about_none (by intro c h; cases h)) (by intro c h; cases h) (.pointer (some ⟨w.heap.size, 3, none⟩)) W (by kernel_rfl) ⟨rfl, rfl⟩
    | 6, hdi, hni, hfx =>
      obtain rfl := Option.some.inj hdi
      rw [updV_self (hfx 5 (by decide) (by decide))]
      exact OI_value rfl rfl (about_none (by intro c h; cases h)) (by intro c h; cases h) _ W (run_cellF 34 _ ⟨w.heap.size, 3, none⟩ _ _ rfl (by kernel_rfl) Tryz.underlying34 rfl W (rW.2.2.2.1)) ⟨rfl, rfl⟩
    | 7, hdi, hni, hfx => exact absurd (by decide) hni
    | 8, hdi, hni, hfx => exact absurd (by decide) hni
    | _ + 9, hdi, _, _ => simp at hdi
  case cal =>
    intro x W k i d u hW hck hdi hfx _ hu0 hup hR
    have hWs := hW.size
    have hbW : base ≤ W.heap.size := by have := HB0.out.size; omega
    match k, hck, hu0, hup, hR with
    | 0, hck, hu0, hup, hR =>
      obtain rfl := Option.some.inj hck
      obtain rfl := Option.some.inj hdi
      obtain rfl := hu0 rfl
      exact OI_value rfl rfl (about_none (by intro c h; cases h)) (by intro c h; cases h) u W (by kernel_rfl) ⟨u, rfl, Keep.refl _ _, hR⟩
    | 1, hck, hu0, hup, hR =>
      obtain rfl := Option.some.inj hck
      obtain rfl := Option.some.inj hdi
      obtain rfl := hup 0 0 rfl rfl
      refine OI_call rfl rfl (by intro c h; cases h) 84 #[x 0, .int .u64 (17 : Int)] (fun _ _ => trivial) (by kernel_rfl) (by decide) ?_
      refine (callsIn_wide.2 (ref_numberK (x 0) base 17 (lst9 (FrM.mk 9 st of li co fi da ra) xs 1) W (by decide) hR hbW (Nat.le_trans (hl) (by decide)))).mono ?_
      rintro e W' ⟨v', rfl, ho, hk⟩
      exact ⟨_, rfl, v', rfl, hk, ho⟩
    | 2, hck, hu0, hup, hR =>
      obtain rfl := Option.some.inj hck
      obtain rfl := Option.some.inj hdi
      obtain rfl := hup 1 1 rfl rfl
      refine OI_call rfl rfl (by intro c h; cases h) 84 #[x 1, x 3] (fun _ _ => trivial) (by kernel_rfl) (by decide) ?_
      rw [show x 3 = .int .u64 (st : Int) from hfx 3 (by decide) (by decide)]
      refine (callsIn_wide.2 (ref_numberK (x 1) base st (lst9 (FrM.mk 9 st of li co fi da ra) xs 2) W HN.out.1 hR hbW (Nat.le_trans (len_num (hl)) (by decide)))).mono ?_
      rintro e W' ⟨v', rfl, ho, hk⟩
      exact ⟨_, rfl, v', rfl, hk, ho⟩
    | 3, hck, hu0, hup, hR =>
      obtain rfl := Option.some.inj hck
      obtain rfl := Option.some.inj hdi
      obtain rfl := hup 2 4 rfl rfl
      refine OI_call rfl rfl (by intro c h; cases h) 84 #[x 4, x 6] (fun _ _ => trivial) (by kernel_rfl) (by decide) ?_
      rw [show x 6 = .int .u64 (li : Int) from hfx 6 (by decide) (by decide)]
      refine (callsIn_wide.2 (ref_numberK (x 4) base li (lst9 (FrM.mk 9 st of li co fi da ra) xs 3) W HN.out.2.2.1 hR hbW (Nat.le_trans (len_num (len_num (hl))) (by decide)))).mono ?_
      rintro e W' ⟨v', rfl, ho, hk⟩
      exact ⟨_, rfl, v', rfl, hk, ho⟩
    | 4, hck, hu0, hup, hR =>
      obtain rfl := Option.some.inj hck
      obtain rfl := Option.some.inj hdi
      obtain rfl := hup 3 7 rfl rfl
      exact OI_value rfl rfl (about_none (by intro c h; cases h)) (by intro c h; cases h) (x 7) W (by kernel_rfl) ⟨_, rfl, Keep.refl _ _, hR⟩
    | _ + 5, hck, _, _, _ => simp at hck
  case done =>
    intro x W u hW hfx hup hR
    have hu := hup 4 8 rfl rfl
    obtain rfl := hu
    have HKW := veil ((Keep.of_below HB0.out hbase).trans hW)
    have HRW := veil hR
    clear hR hfx hup HOWN HN HF HDB HR0 HB0 hW
    simp only [putsV, Act.put, List.setIfInBounds_toArray, List.set_cons_succ, List.set_cons_zero, Nat.reduceAdd]
    gi_wp2_with fail
    go_ret
    refine ⟨_, rfl, ?_, HKW.out⟩
    have e : lst9 (FrM.mk 9 st of li co fi da ra) xs 5 = xs ++ Fr.putF (FrM.mk 9 st of li co fi da ra).fr := by
      show xs ++ Fr.numL 17 ++ Fr.numL st ++ Fr.numL li = xs ++ (Fr.numL 17 ++ (Fr.numL st ++ Fr.numL li))
      simp only [List.append_assoc]
    rw [← e]
    exact HRW.out

def dep10 : Nat → List Nat
  | 2 => [1]
  | 3 => [0, 2]
  | 5 => [4]
  | 6 => [3, 5]
  | 7 => [0, 1, 2, 3, 4, 5, 6]
  | _ => []
def val10 (f : FrM) (g : Nat) : Nat → Value
  | 1 => .pointer (some ⟨g, 5, none⟩)
  | 2 => .bool f.fin
  | 4 => .pointer (some ⟨g, 3, none⟩)
  | 5 => .int .u64 (f.limit : Int)
  | _ => undef
def lst10 (f : FrM) (xs : List By) : Nat → List By
  | 0 => xs
  | 1 => xs
  | 2 => xs ++ Fr.numL (18 + if f.fin then 1 else 0)
  | 3 => xs ++ Fr.numL (18 + if f.fin then 1 else 0) ++ Fr.numL f.limit
  | _ => xs ++ Fr.numL (18 + if f.fin then 1 else 0) ++ Fr.numL f.limit

set_option maxRecDepth 20000 in
set_option maxHeartbeats 4000000 in
theorem refput_10 (v : Value) (base : Nat) (f : FrM) (xs : List By) (w : World) (hk : f.kind = 10) (hown : RowK base xs w v) (hbase : base ≤ w.heap.size) (hl : xs.length ≤ 3000000) (hn : Fr.numsF f.fr) (hf : f.Ok w) (hdl : f.data.len ≤ 4000000) (hdb : 0 < f.data.len → f.data.g < base) :
    Calls Tryz.prog 27 #[v, .agg f.cells] w fun e w' => ∃ v', e = .returned v' ∧ RowK base (xs ++ Fr.putF f.fr) w' v' ∧ Keep base w w' := by
  obtain ⟨k, st, of, li, co, fi, da, ra⟩ := f
  simp only at hk hdl hdb
  subst hk
  have r0 : Row (w.alloc (.cells (FrM.mk 10 st of li co fi da ra).cells 37)) w.heap.size 37 (FrM.mk 10 st of li co fi da ra).cells := Row.new _ _ _
  have b0 : Below w.heap.size w (w.alloc (.cells (FrM.mk 10 st of li co fi da ra).cells 37)) := (Below.refl _ w).alloc (Nat.le_refl _) _
  have c0 := (fr_cells r0).1
  simp only [show ((10 : Nat) : Int) = 10 from rfl] at c0
  have HR0 := veil r0
  have HB0 := veil b0
  have HOWN := veil hown
  have HN := veil hn
  have HF := veil hf
  have HDB := veil hdb
  clear hown hn r0 b0 hf hdb
  refine (callsIn_wide (n := 4)).1 ?_
  refine callsIn_of_wp Tryz.func27 rfl trivial ?_ rfl
  simp only [Tryz.ntmps27, List.size_toArray, List.length_cons, List.length_nil, Nat.reduceAdd, Nat.reduceSub, Array.replicate_succ, Array.replicate_zero, List.push_toArray, List.append_toArray, List.nil_append, List.cons_append]
  gi_wp2_with fail
  clear c0
  refine wpIn_region_any (by kernel_rfl) ?_
  refine anyIn_chain (w0 := (w.alloc (.cells (FrM.mk 10 st of li co fi da ra).cells 37))) (Keep base) (fun _ _ _ h1 h2 => h1.trans h2) (val10 (FrM.mk 10 st of li co fi da ra) w.heap.size) (fun k W u => RowK base (lst10 (FrM.mk 10 st of li co fi da ra) xs k) W u) v [0, 3, 6, 7] [100, 101, 102, 103, 104, 105, 106, 4] dep10 (by kernel_rfl) rfl (by decide) (by decide) ?ord (own_below HOWN.out HB0.out.drew) (Keep.of_below ((Below.refl _ _).drew) (by have := HB0.out.size; omega)) ?fix ?cal ?done (by decide)
  case ord =>
    intro k i j hj hi
    match k with
    | 0 => obtain rfl := Option.some.inj hj; obtain rfl := Option.some.inj hi; decide
    | 1 => obtain rfl := Option.some.inj hj; obtain rfl := Option.some.inj hi; decide
    | 2 => obtain rfl := Option.some.inj hj; obtain rfl := Option.some.inj hi; decide
    | _ + 3 => simp at hi
  case fix =>
    intro x W i d hW hdi hni hfx _
    have rW := fr_cells (hW.row (by decide) HR0.out)
    match i, hdi, hni, hfx with
    | 0, hdi, hni, hfx => exact absurd (by decide) hni
    | 1, hdi, hni, hfx =>
      obtain rfl := Option.some.inj hdi
      exact OI_value rfl rfl (about_none (by intro c h; cases h)) (by intro c h; cases h) (.pointer (some ⟨w.heap.size, 5, none⟩)) W (by kernel_rfl) ⟨rfl, rfl⟩
    | 2, hdi, hni, hfx =>
      obtain rfl := Option.some.inj hdi
      rw [updV_self (hfx 1 (by decide) (by decide))]
      exact OI_value rfl rfl (about_none (by intro c h; cases h)) (by intro c h; cases h) _ W (run_cellF 4 _ ⟨w.heap.size, 5, none⟩ _ _ rfl (by kernel_rfl) Tryz.underlying4 rfl W (rW.2.2.2.2.2.1)) ⟨rfl, rfl⟩
    | 3, hdi, hni, hfx => exact absurd (by decide) hni
    | 4, hdi, hni, hfx =>
      obtain rfl := Option.some.inj hdi
      exact OI_value rfl rfl (about_none (by intro c h; cases h)) (by intro c h; cases h) (.pointer (some ⟨w.heap.size, 3, none⟩)) W (by kernel_rfl) ⟨rfl, rfl⟩
    | 5, hdi, hni, hfx =>
      obtain rfl := Option.some.inj hdi
      rw [updV_self (hfx 4 (by decide) (by decide))]
      exact OI_value rfl rfl (about_none (by intro c h; cases h)) (by intro c h; cases h) _ W (run_cellF 34 _ ⟨w.heap.size, 3, none⟩ _ _ rfl (by kernel_rfl) Tryz.underlying34 rfl W (rW.2.2.2.1)) ⟨rfl, rfl⟩
    | 6, hdi, hni, hfx => exact absurd (by decide) hni
    | 7, hdi, hni, hfx => exact absurd (by decide) hni
    | _ + 8, hdi, _, _ => simp at hdi
  case cal =>
    intro x W k i d u hW hck hdi hfx _ hu0 hup hR
    have hWs := hW.size
    have hbW : base ≤ W.heap.size := by have := HB0.out.size; omega
    match k, hck, hu0, hup, hR with
    | 0, hck, hu0, hup, hR =>
      obtain rfl := Option.some.inj hck
      obtain rfl := Option.some.inj hdi
      obtain rfl := hu0 rfl
      exact OI_value rfl rfl (about_none (by intro c h; cases h)) (by intro c h; cases h) u W (by kernel_rfl) ⟨u, rfl, Keep.refl _ _, hR⟩
    | 1, hck, hu0, hup, hR =>
      obtain rfl := Option.some.inj hck
      obtain rfl := Option.some.inj hdi
      obtain rfl := hup 0 0 rfl rfl
      refine OI_call rfl rfl (by intro c h; cases h) 87 #[x 0, .int .u64 (18 : Int), x 2] (fun _ _ => trivial) (by kernel_rfl) (by decide) ?_
      rw [show x 2 = .bool fi from hfx 2 (by decide) (by decide)]
      refine (callsIn_wide.2 (ref_kindK (x 0) base 18 fi (lst10 (FrM.mk 10 st of li co fi da ra) xs 1) W (by decide) hR hbW (Nat.le_trans (hl) (by decide)))).mono ?_
      rintro e W' ⟨v', rfl, ho, hk⟩
      exact ⟨_, rfl, v', rfl, hk, ho⟩
    | 2, hck, hu0, hup, hR =>
      obtain rfl := Option.some.inj hck
      obtain rfl := Option.some.inj hdi
      obtain rfl := hup 1 3 rfl rfl
      refine OI_call rfl rfl (by intro c h; cases h) 84 #[x 3, x 5] (fun _ _ => trivial) (by kernel_rfl) (by decide) ?_
      rw [show x 5 = .int .u64 (li : Int) from hfx 5 (by decide) (by decide)]
      refine (callsIn_wide.2 (ref_numberK (x 3) base li (lst10 (FrM.mk 10 st of li co fi da ra) xs 2) W HN.out.2.2.1 hR hbW (Nat.le_trans (len_num (hl)) (by decide)))).mono ?_
      rintro e W' ⟨v', rfl, ho, hk⟩
      exact ⟨_, rfl, v', rfl, hk, ho⟩
    | 3, hck, hu0, hup, hR =>
      obtain rfl := Option.some.inj hck
      obtain rfl := Option.some.inj hdi
      obtain rfl := hup 2 6 rfl rfl
      exact OI_value rfl rfl (about_none (by intro c h; cases h)) (by intro c h; cases h) (x 6) W (by kernel_rfl) ⟨_, rfl, Keep.refl _ _, hR⟩
    | _ + 4, hck, _, _, _ => simp at hck
  case done =>
    intro x W u hW hfx hup hR
    have hu := hup 3 7 rfl rfl
    obtain rfl := hu
    have HKW := veil ((Keep.of_below HB0.out hbase).trans hW)
    have HRW := veil hR
    clear hR hfx hup HOWN HN HF HDB HR0 HB0 hW
    simp only [putsV, Act.put, List.setIfInBounds_toArray, List.set_cons_succ, List.set_cons_zero, Nat.reduceAdd]
    gi_wp2_with fail
    go_ret
    refine ⟨_, rfl, ?_, HKW.out⟩
    have e : lst10 (FrM.mk 10 st of li co fi da ra) xs 4 = xs ++ Fr.putF (FrM.mk 10 st of li co fi da ra).fr := by
      show xs ++ Fr.numL (18 + if fi then 1 else 0) ++ Fr.numL li = xs ++ (Fr.numL (18 + (if fi then 1 else 0)) ++ Fr.numL li)
      simp only [List.append_assoc]
    rw [← e]
    exact HRW.out

def dep11 : Nat → List Nat
  | 1 => [0]
  | 3 => [2]
  | 4 => [1, 3]
  | 5 => [0, 1, 2, 3, 4]
  | _ => []
def val11 (f : FrM) (g : Nat) : Nat → Value
  | 2 => .pointer (some ⟨g, 3, none⟩)
  | 3 => .int .u64 (f.limit : Int)
  | _ => undef
def lst11 (f : FrM) (xs : List By) : Nat → List By
  | 0 => xs
  | 1 => xs
  | 2 => xs ++ Fr.numL 20
  | 3 => xs ++ Fr.numL 20 ++ Fr.numL f.limit
  | _ => xs ++ Fr.numL 20 ++ Fr.numL f.limit

set_option maxRecDepth 20000 in
set_option maxHeartbeats 4000000 in
theorem refput_11 (v : Value) (base : Nat) (f : FrM) (xs : List By) (w : World) (hk : f.kind = 11) (hown : RowK base xs w v) (hbase : base ≤ w.heap.size) (hl : xs.length ≤ 3000000) (hn : Fr.numsF f.fr) (hf : f.Ok w) (hdl : f.data.len ≤ 4000000) (hdb : 0 < f.data.len → f.data.g < base) :
    Calls Tryz.prog 27 #[v, .agg f.cells] w fun e w' => ∃ v', e = .returned v' ∧ RowK base (xs ++ Fr.putF f.fr) w' v' ∧ Keep base w w' := by
  obtain ⟨k, st, of, li, co, fi, da, ra⟩ := f
  simp only at hk hdl hdb
  subst hk
  have r0 : Row (w.alloc (.cells (FrM.mk 11 st of li co fi da ra).cells 37)) w.heap.size 37 (FrM.mk 11 st of li co fi da ra).cells := Row.new _ _ _
  have b0 : Below w.heap.size w (w.alloc (.cells (FrM.mk 11 st of li co fi da ra).cells 37)) := (Below.refl _ w).alloc (Nat.le_refl _) _
  have c0 := (fr_cells r0).1
  simp only [show ((11 : Nat) : Int) = 11 from rfl] at c0
  have HR0 := veil r0
  have HB0 := veil b0
  have HOWN := veil hown
  have HN := veil hn
  have HF := veil hf
  have HDB := veil hdb
  clear hown hn r0 b0 hf hdb
  refine (callsIn_wide (n := 4)).1 ?_
  refine callsIn_of_wp Tryz.func27 rfl trivial ?_ rfl
  simp only [Tryz.ntmps27, List.size_toArray, List.length_cons, List.length_nil, Nat.reduceAdd, Nat.reduceSub, Array.replicate_succ, Array.replicate_zero, List.push_toArray, List.append_toArray, List.nil_append, List.cons_append]
  gi_wp2_with fail
  clear c0
  refine wpIn_region_any (by kernel_rfl) ?_
  refine anyIn_chain (w0 := (w.alloc (.cells (FrM.mk 11 st of li co fi da ra).cells 37))) (Keep base) (fun _ _ _ h1 h2 => h1.trans h2) (val11 (FrM.mk 11 st of li co fi da ra) w.heap.size) (fun k W u => RowK base (lst11 (FrM.mk 11 st of li co fi da ra) xs k) W u) v [0, 1, 4, 5] [109, 110, 111, 112, 113, 4] dep11 (by kernel_rfl) rfl (by decide) (by decide) ?ord (own_below HOWN.out HB0.out.drew) (Keep.of_below ((Below.refl _ _).drew) (by have := HB0.out.size; omega)) ?fix ?cal ?done (by decide)
  case ord =>
    intro k i j hj hi
    match k with
    | 0 => obtain rfl := Option.some.inj hj; obtain rfl := Option.some.inj hi; decide
    | 1 => obtain rfl := Option.some.inj hj; obtain rfl := Option.some.inj hi; decide
    | 2 => obtain rfl := Option.some.inj hj; obtain rfl := Option.some.inj hi; decide
    | _ + 3 => simp at hi
  case fix =>
    intro x W i d hW hdi hni hfx _
    have rW := fr_cells (hW.row (by decide) HR0.out)
    match i, hdi, hni, hfx with
    | 0, hdi, hni, hfx => exact absurd (by decide) hni
    | 1, hdi, hni, hfx => exact absurd (by decide) hni
    | 2, hdi, hni, hfx =>
      obtain rfl := Option.some.inj hdi
      exact OI_value rfl rfl (about_none (by intro c h; cases h)) (by intro c h; cases h) (.pointer (some ⟨w.heap.size, 3, none⟩)) W (by kernel_rfl) ⟨rfl, rfl⟩
    | 3, hdi, hni, hfx =>
      obtain rfl := Option.some.inj hdi
      rw [updV_self (hfx 2 (by decide) (by decide))]
      exact OI_value rfl rfl (about_none (by intro c h; cases h)) (by intro c h; cases h) _ W (run_cellF 34 _ ⟨w.heap.size, 3, none⟩ _ _ rfl (by kernel_rfl) Tryz.underlying34 rfl W (rW.2.2.2.1)) ⟨rfl, rfl⟩
    | 4, hdi, hni, hfx => exact absurd (by decide) hni
    | 5, hdi, hni, hfx => exact absurd (by decide) hni
    | _ + 6, hdi, _, _ => simp at hdi
  case cal =>
    intro x W k i d u hW hck hdi hfx _ hu0 hup hR
    have hWs := hW.size
    have hbW : base ≤ W.heap.size := by have := HB0.out.size; omega
    match k, hck, hu0, hup, hR with
    | 0, hck, hu0, hup, hR =>
      obtain rfl := Option.some.inj hck
      obtain rfl := Option.some.inj hdi
      obtain rfl := hu0 rfl
      exact OI_value rfl rfl (about_none (by intro c h; cases h)) (by intro c h; cases h) u W (by kernel_rfl) ⟨u, rfl, Keep.refl _ _, hR⟩
    | 1, hck, hu0, hup, hR =>
      obtain rfl := Option.some.inj hck
      obtain rfl := Option.some.inj hdi
      obtain rfl := hup 0 0 rfl rfl
      refine OI_call rfl rfl (by intro c h; cases h) 84 #[x 0, .int .u64 (20 : Int)] (fun _ _ => trivial) (by kernel_rfl) (by decide) ?_
      refine (callsIn_wide.2 (ref_numberK (x 0) base 20 (lst11 (FrM.mk 11 st of li co fi da ra) xs 1) W (by decide) hR hbW (Nat.le_trans (hl) (by decide)))).mono ?_
      rintro e W' ⟨v', rfl, ho, hk⟩
      exact ⟨_, rfl, v', rfl, hk, ho⟩
    | 2, hck, hu0, hup, hR =>
      obtain rfl := Option.some.inj hck
      obtain rfl := Option.some.inj hdi
      obtain rfl := hup 1 1 rfl rfl
      refine OI_call rfl rfl (by intro c h; cases h) 84 #[x 1, x 3] (fun _ _ => trivial) (by kernel_rfl) (by decide) ?_
      rw [show x 3 = .int .u64 (li : Int) from hfx 3 (by decide) (by decide)]
      refine (callsIn_wide.2 (ref_numberK (x 1) base li (lst11 (FrM.mk 11 st of li co fi da ra) xs 2) W HN.out.2.2.1 hR hbW (Nat.le_trans (len_num (hl)) (by decide)))).mono ?_
      rintro e W' ⟨v', rfl, ho, hk⟩
      exact ⟨_, rfl, v', rfl, hk, ho⟩
    | 3, hck, hu0, hup, hR =>
      obtain rfl := Option.some.inj hck
      obtain rfl := Option.some.inj hdi
      obtain rfl := hup 2 4 rfl rfl
      exact OI_value rfl rfl (about_none (by intro c h; cases h)) (by intro c h; cases h) (x 4) W (by kernel_rfl) ⟨_, rfl, Keep.refl _ _, hR⟩
    | _ + 4, hck, _, _, _ => simp at hck
  case done =>
    intro x W u hW hfx hup hR
    have hu := hup 3 5 rfl rfl
    obtain rfl := hu
    have HKW := veil ((Keep.of_below HB0.out hbase).trans hW)
    have HRW := veil hR
    clear hR hfx hup HOWN HN HF HDB HR0 HB0 hW
    simp only [putsV, Act.put, List.setIfInBounds_toArray, List.set_cons_succ, List.set_cons_zero, Nat.reduceAdd]
    gi_wp2_with fail
    go_ret
    refine ⟨_, rfl, ?_, HKW.out⟩
    have e : lst11 (FrM.mk 11 st of li co fi da ra) xs 4 = xs ++ Fr.putF (FrM.mk 11 st of li co fi da ra).fr := by
      show xs ++ Fr.numL 20 ++ Fr.numL li = xs ++ (Fr.numL 20 ++ Fr.numL li)
      simp only [List.append_assoc]
    rw [← e]
    exact HRW.out

def dep12 : Nat → List Nat
  | 1 => [0]
  | 3 => [2]
  | 4 => [1, 3]
  | 6 => [5]
  | 7 => [4, 6]
  | 8 => [0, 1, 2, 3, 4, 5, 6, 7]
  | _ => []
def val12 (f : FrM) (g : Nat) : Nat → Value
  | 2 => .pointer (some ⟨g, 1, none⟩)
  | 3 => .int .u64 (f.stream : Int)
  | 5 => .pointer (some ⟨g, 3, none⟩)
  | 6 => .int .u64 (f.limit : Int)
  | _ => undef
def lst12 (f : FrM) (xs : List By) : Nat → List By
  | 0 => xs
  | 1 => xs
  | 2 => xs ++ Fr.numL 21
  | 3 => xs ++ Fr.numL 21 ++ Fr.numL f.stream
  | 4 => xs ++ Fr.numL 21 ++ Fr.numL f.stream ++ Fr.numL f.limit
  | _ => xs ++ Fr.numL 21 ++ Fr.numL f.stream ++ Fr.numL f.limit

set_option maxRecDepth 20000 in
set_option maxHeartbeats 4000000 in
theorem refput_12 (v : Value) (base : Nat) (f : FrM) (xs : List By) (w : World) (hk : f.kind = 12) (hown : RowK base xs w v) (hbase : base ≤ w.heap.size) (hl : xs.length ≤ 3000000) (hn : Fr.numsF f.fr) (hf : f.Ok w) (hdl : f.data.len ≤ 4000000) (hdb : 0 < f.data.len → f.data.g < base) :
    Calls Tryz.prog 27 #[v, .agg f.cells] w fun e w' => ∃ v', e = .returned v' ∧ RowK base (xs ++ Fr.putF f.fr) w' v' ∧ Keep base w w' := by
  obtain ⟨k, st, of, li, co, fi, da, ra⟩ := f
  simp only at hk hdl hdb
  subst hk
  have r0 : Row (w.alloc (.cells (FrM.mk 12 st of li co fi da ra).cells 37)) w.heap.size 37 (FrM.mk 12 st of li co fi da ra).cells := Row.new _ _ _
  have b0 : Below w.heap.size w (w.alloc (.cells (FrM.mk 12 st of li co fi da ra).cells 37)) := (Below.refl _ w).alloc (Nat.le_refl _) _
  have c0 := (fr_cells r0).1
  simp only [show ((12 : Nat) : Int) = 12 from rfl] at c0
  have HR0 := veil r0
  have HB0 := veil b0
  have HOWN := veil hown
  have HN := veil hn
  have HF := veil hf
  have HDB := veil hdb
  clear hown hn r0 b0 hf hdb
  refine (callsIn_wide (n := 4)).1 ?_
  refine callsIn_of_wp Tryz.func27 rfl trivial ?_ rfl
  simp only [Tryz.ntmps27, List.size_toArray, List.length_cons, List.length_nil, Nat.reduceAdd, Nat.reduceSub, Array.replicate_succ, Array.replicate_zero, List.push_toArray, List.append_toArray, List.nil_append, List.cons_append]
  gi_wp2_with fail
  clear c0
  refine wpIn_region_any (by kernel_rfl) ?_
  refine anyIn_chain (w0 := (w.alloc (.cells (FrM.mk 12 st of li co fi da ra).cells 37))) (Keep base) (fun _ _ _ h1 h2 => h1.trans h2) (val12 (FrM.mk 12 st of li co fi da ra) w.heap.size) (fun k W u => RowK base (lst12 (FrM.mk 12 st of li co fi da ra) xs k) W u) v [0, 1, 4, 7, 8] [116, 117, 118, 119, 120, 121, 122, 123, 4] dep12 (by kernel_rfl) rfl (by decide) (by decide) ?ord (own_below HOWN.out HB0.out.drew) (Keep.of_below ((Below.refl _ _).drew) (by have := HB0.out.size; omega)) ?fix ?cal ?done (by decide)
  case ord =>
    intro k i j hj hi
    match k with
    | 0 => obtain rfl := Option.some.inj hj; obtain rfl := Option.some.inj hi; decide
    | 1 => obtain rfl := Option.some.inj hj; obtain rfl := Option.some.inj hi; decide
    | 2 => obtain rfl := Option.some.inj hj; obtain rfl := Option.some.inj hi; decide
    | 3 => obtain rfl := Option.some.inj hj; obtain rfl := Option.some.inj hi; decide
    | _ + 4 => simp at hi
  case fix =>
    intro x W i d hW hdi hni hfx _
    have rW := fr_cells (hW.row (by decide) HR0.out)
    match i, hdi, hni, hfx with
    | 0, hdi, hni, hfx => exact absurd (by decide) hni
    | 1, hdi, hni, hfx => exact absurd (by decide) hni
    | 2, hdi, hni, hfx =>
      obtain rfl := Option.some.inj hdi
      exact OI_value rfl rfl (about_none (by intro c h; cases h)) (by intro c h; cases h) (.pointer (some ⟨w.heap.size, 1, none⟩)) W (by kernel_rfl) ⟨rfl, rfl⟩
    | 3, hdi, hni, hfx =>
      obtain rfl := Option.some.inj hdi
      rw [updV_self (hfx 2 (by decide) (by decide))]
      exact OI_value rfl rfl (about_none (by intro c h; cases h)) (by intro c h; cases h) _ W (run_cellF 34 _ ⟨w.heap.size, 1, none⟩ _ _ rfl (by kernel_rfl) Tryz.underlying34 rfl W (rW.2.1)) ⟨rfl, rfl⟩
    | 4, hdi, hni, hfx => exact absurd (by decide) hni
    | 5, hdi, hni, hfx =>
      obtain rfl := Option.some.inj hdi
      exact OI_value rfl rfl (about_none (by intro c h; cases h)) (by intro c h; cases h) (.pointer (some ⟨w.heap.size, 3, none⟩)) W (by kernel_rfl) ⟨rfl, rfl⟩
    | 6, hdi, hni, hfx =>
      obtain rfl := Option.some.inj hdi
      rw [updV_self (hfx 5 (by decide) (by decide))]
      exact OI_value rfl rfl (about_none (by intro c h; cases h)) (by intro c h; cases h) _ W (run_cellF 34 _ ⟨w.heap.size, 3, none⟩ _ _ rfl (by kernel_rfl) Tryz.underlying34 rfl W (rW.2.2.2.1)) ⟨rfl, rfl⟩
    | 7, hdi, hni, hfx => exact absurd (by decide) hni
    | 8, hdi, hni, hfx => exact absurd (by decide) hni
    | _ + 9, hdi, _, _ => simp at hdi
  case cal =>
    intro x W k i d u hW hck hdi hfx _ hu0 hup hR
    have hWs := hW.size
    have hbW : base ≤ W.heap.size := by have := HB0.out.size; omega
    match k, hck, hu0, hup, hR with
    | 0, hck, hu0, hup, hR =>
      obtain rfl := Option.some.inj hck
      obtain rfl := Option.some.inj hdi
      obtain rfl := hu0 rfl
      exact OI_value rfl rfl (about_none (by intro c h; cases h)) (by intro c h; cases h) u W (by kernel_rfl) ⟨u, rfl, Keep.refl _ _, hR⟩
    | 1, hck, hu0, hup, hR =>
      obtain rfl := Option.some.inj hck
      obtain rfl := Option.some.inj hdi
      obtain rfl := hup 0 0 rfl rfl
      refine OI_call rfl rfl (by intro c h; cases h) 84 #[x 0, .int .u64 (21 : Int)] (fun _ _ => trivial) (by kernel_rfl) (by decide) ?_
      refine (callsIn_wide.2 (ref_numberK (x 0) base 21 (lst12 (FrM.mk 12 st of li co fi da ra) xs 1) W (by decide) hR hbW (Nat.le_trans (hl) (by decide)))).mono ?_
      rintro e W' ⟨v', rfl, ho, hk⟩
      exact ⟨_, rfl, v', rfl, hk, ho⟩
    | 2, hck, hu0, hup, hR =>
      obtain rfl := Option.some.inj hck
      obtain rfl := Option.some.inj hdi
      obtain rfl := hup 1 1 rfl rfl
      refine OI_call rfl rfl (by intro c h; cases h) 84 #[x 1, x 3] (fun _ _ => trivial) (by kernel_rfl) (by decide) ?_
      rw [show x 3 = .int .u64 (st : Int) from hfx 3 (by decide) (by decide)]
      refine (callsIn_wide.2 (ref_numberK (x 1) base st (lst12 (FrM.mk 12 st of li co fi da ra) xs 2) W HN.out.1 hR hbW (Nat.le_trans (len_num (hl)) (by decide)))).mono ?_
      rintro e W' ⟨v', rfl, ho, hk⟩
      exact ⟨_, rfl, v', rfl, hk, ho⟩
    | 3, hck, hu0, hup, hR =>
      obtain rfl := Option.some.inj hck
      obtain rfl := Option.some.inj hdi
      obtain rfl := hup 2 4 rfl rfl
      refine OI_call rfl rfl (by intro c h; cases h) 84 #[x 4, x 6] (fun _ _ => trivial) (by kernel_rfl) (by decide) ?_
      rw [show x 6 = .int .u64 (li : Int) from hfx 6 (by decide) (by decide)]
      refine (callsIn_wide.2 (ref_numberK (x 4) base li (lst12 (FrM.mk 12 st of li co fi da ra) xs 3) W HN.out.2.2.1 hR hbW (Nat.le_trans (len_num (len_num (hl))) (by decide)))).mono ?_
      rintro e W' ⟨v', rfl, ho, hk⟩
      exact ⟨_, rfl, v', rfl, hk, ho⟩
    | 4, hck, hu0, hup, hR =>
      obtain rfl := Option.some.inj hck
      obtain rfl := Option.some.inj hdi
      obtain rfl := hup 3 7 rfl rfl
      exact OI_value rfl rfl (about_none (by intro c h; cases h)) (by intro c h; cases h) (x 7) W (by kernel_rfl) ⟨_, rfl, Keep.refl _ _, hR⟩
    | _ + 5, hck, _, _, _ => simp at hck
  case done =>
    intro x W u hW hfx hup hR
    have hu := hup 4 8 rfl rfl
    obtain rfl := hu
    have HKW := veil ((Keep.of_below HB0.out hbase).trans hW)
    have HRW := veil hR
    clear hR hfx hup HOWN HN HF HDB HR0 HB0 hW
    simp only [putsV, Act.put, List.setIfInBounds_toArray, List.set_cons_succ, List.set_cons_zero, Nat.reduceAdd]
    gi_wp2_with fail
    go_ret
    refine ⟨_, rfl, ?_, HKW.out⟩
    have e : lst12 (FrM.mk 12 st of li co fi da ra) xs 5 = xs ++ Fr.putF (FrM.mk 12 st of li co fi da ra).fr := by
      show xs ++ Fr.numL 21 ++ Fr.numL st ++ Fr.numL li = xs ++ (Fr.numL 21 ++ (Fr.numL st ++ Fr.numL li))
      simp only [List.append_assoc]
    rw [← e]
    exact HRW.out
end Go.Proofs.YtaighdppemnglaaGreatDoor
