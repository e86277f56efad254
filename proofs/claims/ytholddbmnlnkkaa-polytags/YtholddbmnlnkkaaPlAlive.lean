/-
  The law's alive: answers that the document fixes.
-/
import Derived.Test.YtholddbmnlnkkaaPlVec
import Derived.Test.YtholddbmnlnkkaaShaUndPlain
import Derived.Lib.SlBytesConst
import Derived.Laws.OwnMore
namespace Go.Proofs.Ytholddbmnlnkkaa
open Go Go.RowKit

def z32 : List By := List.replicate 32 0
theorem rowF_ok {w : World} {g n : Nat} {t : TypeId} {b : List By} {fr : Nat × Nat} (h : w.heap[g]? = some (.cells (bs b) t fr)) (hn : b.length = n) : (rowN g n b).Ok w := by
  subst hn
  refine ⟨rfl, Nat.le_refl _, fun e => by simp [rowN] at e, fun _ => rfl, fun _ => (Array.getElem?_eq_some_iff.1 h).1, fun j hj => ?_⟩
  show w.cell? ⟨g, 0 + j, none⟩ = _
  rw [Nat.zero_add, cell_of_row w g j (bs b) t fr h]
  exact bs_get b j hj

theorem repeat_lit (c : By) (z : Int) (hz : v8 c = z) (N : Nat) (y : Int) (hy : (N : Int) = y) (hN : N ≤ 1000) (w : World) :
    Calls Try.prog 27 #[.int .u8 z, .int .i64 y] w fun e w' => ∃ v, e = .returned v ∧ w'.ownsRow w.heap.size 5 1 v N (vb (List.replicate N c)) ∧ Below w.heap.size w w' := by
  subst hz hy
  exact repeat_any c N hN w
theorem build_rowG {P : Program} {ops : Array Oper} {rest : List Oper} {o : Oper} {a : Act} {w : World} {Q : Exit → Act → World → Prop} (hgd : Region.wanted o (yielded ops a.tmps) = true) (t : TypeId) (parts : Array (Nat × Operand)) (ho : o.op = .build t parts)
    (cs : Array Value) (hb : P.built t (parts.map fun (i, x) => (i, a.eval x)).toList = some cs) (h : wpList P ops Q rest (a.put o.dst (.agg cs)) w) : wpList P ops Q (o :: rest) a w :=
  wpList_wanted hgd fun _ hK => wp_build t parts ho (by rw [hb]; rfl) (by rw [hb]; exact hK _ _ h)
theorem own_sl {w : World} {base : Nat} {v : Value} {n : Nat} {xs : List By} (h : w.ownsRow base 5 1 v n (vb xs)) : ∃ s : SL, v = .slice s.a s.len s.cap ∧ s.len = n ∧ s.b = xs ∧ s.Ok w := by
  obtain ⟨s, h1, h2, h3, h4, _⟩ := SL.of_own h
  exact ⟨s, h1.symm, h2, h3, h4⟩

set_option maxRecDepth 20000 in
set_option maxHeartbeats 2000000 in
theorem alive_any (w : World) : Calls Try.prog 11 #[] w fun e w' => e = .returned (.bool true) ∧ Below w.heap.size w w' := by
  obtain ⟨i0, hi, hz0, hz1, hz2⟩ := info_parts (P := Try.prog) (e := 5) (z := .int .u8 0) (size := 1) (bytes := 1) (by kernel_rfl)
  have r2 := row_crypt
  have hc1 := Lib.run_convert_bytes_const (P := Try.prog) (w.alloc (.cells (bs aKey) 22)) 23 5 (bs crypt) 34 34 Try.underlying23 Try.underlying5
  obtain ⟨W2, hW2⟩ : ∃ W2, W2 = (w.alloc (.cells (bs aKey) 22)).alloc (.cells (bs crypt) 5 ((bs crypt).size, (bs crypt).size + 1)) := ⟨_, rfl⟩
  rw [← hW2] at hc1
  simp only [World.size_alloc] at hc1
  have rk : Row (w.alloc (.cells (bs aKey) 22)) w.heap.size 22 (bs aKey) := Row.new _ _ _
  have b2 : Below w.heap.size w W2 := by rw [hW2]; exact ((Below.refl _ w).alloc (Nat.le_refl _) _).alloc (by simp) _
  have qC : (rowN (w.heap.size + 1) 34 crypt).Ok W2 := rowF_ok (t := 5) (by
    rw [hW2]
    have := heap_alloc_new (w.alloc (.cells (bs aKey) 22)) (.cells (bs crypt) 5 ((bs crypt).size, (bs crypt).size + 1))
    rw [World.size_alloc] at this
    exact this) rfl
  have HQ := veil qC
  have HB2 := veil b2
  clear hW2 qC b2
  go_enter Try.func11, Try.ntmps11
  go_wp2_with (first
    | (with_reducible (show wpList _ _ _ (⟨_, Op.build 22 _, _, _, _, _⟩ :: _) _ _)
       refine build_row rfl 22 _ rfl (bs aKey) (by kernel_rfl) ?_)
    | (with_reducible (show wpList _ _ _ (⟨_, Op.alloc 22, _, _, _, _⟩ :: _) _ _)
       refine alloc_row rfl 22 rfl (bs z32) (by kernel_rfl) ?_)
    | (with_reducible (show wpList _ _ _ (⟨_, Op.store 22 _ _, _, _, _, _⟩ :: _) _ _)
       refine store_new (w := w) (by rfl) 22 _ _ (by rfl) w.heap.size (bs aKey) (by rfl) (by rfl) 22 (bs z32) (by rfl) 32 (by kernel_rfl) (by rfl) (by rfl) (bs_one _) ?_)
    | (with_reducible (show wpList _ _ _ (⟨_, Op.load 22 _, _, _, _, _⟩ :: _) _ _)
       refine load_row rfl 22 _ rfl w.heap.size rfl _ _ rk 32 5 Try.underlying22 (by kernel_rfl) (by rfl) ?_))
  refine (tag_any aKey rfl (rowN (w.heap.size + 1) 34 crypt) W2 HQ.out (by show 34 ≤ 4194304; omega)).mono ?_
  rintro e3 w3 ⟨rfl, hb3⟩
  rw [show tagL aKey (rowN (w.heap.size + 1) 34 crypt).b = aTag from vec_a]
  have hb3' := HB2.out.trans (hb3.mono HB2.out.size)
  have hta : (bs aTag).size = 16 := by rw [bs_size]; rfl
  have b4 : Below w.heap.size w (w3.alloc (.cells (bs aTag) 25)) := hb3'.alloc hb3'.size _
  have r4 : Row (w3.alloc (.cells (bs aTag) 25)) w3.heap.size 25 (bs aTag) := Row.new _ _ _
  have h34 := hb3'.size
  clear hb3 hb3' HB2 HQ hc1 r2 rk
  go_wp2_with (first
    | (with_reducible (show wpList _ _ _ (⟨_, Op.alloc 25, _, _, _, _⟩ :: _) _ _)
       refine alloc_row rfl 25 rfl (bs z16) (by kernel_rfl) ?_)
    | (with_reducible (show wpList _ _ _ (⟨_, Op.store 25 _ _, _, _, _, _⟩ :: _) _ _)
       refine store_new (w := w3) (by rfl) 25 _ _ (by rfl) w3.heap.size (bs aTag) (by rfl) (by rfl) 25 (bs z16) (by rfl) 16 (by kernel_rfl) (by rfl) hta (bs_one _) ?_))
  generalize w3.alloc (.cells (bs aTag) 25) = W4 at *
  have HB4 := veil b4
  have HR4 := veil r4
  have hs4 := b4.size
  have hl4 := r4.lt
  clear b4 r4
  refine (repeat_lit 255 255 (by decide) 16 16 rfl (by omega) W4).mono ?_
  rintro e5 w5 ⟨v5, rfl, own5, hb5⟩
  obtain ⟨a5, c5, rfl⟩ := own_shape own5
  have hs5 := hb5.size
  have HO5 := veil own5
  have HK5 := veil hb5
  clear own5 hb5
  go_wp2_with (with_reducible (show wpList _ _ _ (⟨some 15, Op.call _, _, _, _, _⟩ :: _) _ _)
               refine wpList_append_own _ rfl _ _ 23 rfl W4.heap.size 5 i0 (.int .u8 0) 1 1 Try.underlying23 hi hz0 hz1 hz2 rfl (by decide) _ 16 _ rfl (HO5.out.alloc _) ⟨w5.heap.size, 0, none⟩ 1 1 [.int .u8 240] rfl rfl (cell_one_new _ _ _) (by simp [Value.oneCell']) (by unfold maxLen; omega) (by omega) (by simp; omega) ?_
               intro v6 w6 own6 grow6 _
               obtain ⟨a6, c6, rfl⟩ := own_shape own6)
  have HO6 : Hid (w6.ownsRow W4.heap.size 5 1 (.slice a6 17 c6) 17 (vb (List.replicate 16 255 ++ [240]))) := own6
  have hb6 : Below W4.heap.size W4 w6 := (HK5.out.alloc hs5 _).grown grow6 (by simp; omega) (fun q e => ((HO5.out.alloc (.cells #[] 5)).lt q e).1)
  have hs6 := hb6.size
  have HK6 := veil hb6
  clear own6 grow6 hb6 HK5 HO5
  refine (repeat_lit 255 255 (by decide) 15 15 rfl (by omega) w6).mono ?_
  rintro e7 w7 ⟨v7, rfl, own7, hb7⟩
  obtain ⟨s7, rfl, hl7, hbb7, hok7⟩ := own_sl own7
  have hs7 := hb7.size
  have HK7 := veil (HK6.out.trans (hb7.mono hs6))
  have HO7 := veil (own_below HO6.out hb7)
  have HS7 := veil hok7
  have HL7 := veil hl7
  have HBB7 := veil hbb7
  clear own7 hb7 HK6 HO6 hok7 hl7 hbb7
  go_wp2_with (with_reducible (show wpList _ _ _ (⟨some 17, Op.call _, _, _, _, _⟩ :: _) _ _)
               refine append_sl rfl _ _ 23 rfl W4.heap.size i0 Try.underlying23 hi hz0 hz1 hz2 _ 17 _ rfl HO7.out s7 HS7.out rfl (by rw [HL7.out]; omega) (by omega) ?_
               intro v8 w8 own8 grow8
               rw [HL7.out, HBB7.out] at own8
               obtain ⟨a8, c8, rfl⟩ := own_shape own8)
  have HO8 : Hid (w8.ownsRow W4.heap.size 5 1 (.slice a8 32 c8) 32 (vb ((List.replicate 16 255 ++ [240]) ++ List.replicate 15 255))) := own8
  have hb8 : Below W4.heap.size W4 w8 := HK7.out.grown grow8 (by omega) (fun q e => (HO7.out.lt q e).1)
  have hs8 := hb8.size
  have HK8 := veil hb8
  have HLt : Hid ((w8.alloc (.cells #[.int .u8 17] 5)).ownsRow w8.heap.size 5 1 (.slice (some ⟨w8.heap.size, 0, none⟩) 1 1) 1 (vb [17])) := World.ownsRow_lit w8 #[.int .u8 17] 1 (Nat.le_refl _) (by unfold maxLen; omega) rfl
  clear own8 grow8 hb8 HK7 HO7 HS7 HL7 HBB7
  refine (repeat_lit 0 0 (by decide) 15 15 rfl (by omega) (w8.alloc (.cells #[.int .u8 17] 5))).mono ?_
  rintro e9 w9 ⟨v9, rfl, own9, hb9⟩
  obtain ⟨s9, rfl, hl9, hbb9, hok9⟩ := own_sl own9
  have hs9 := hb9.size
  rw [World.size_alloc] at hs9
  have hb89 : Below w8.heap.size w8 w9 := ((Below.refl _ w8).alloc (Nat.le_refl _) _).trans (hb9.mono (by simp))
  have HK9 := veil (HK8.out.trans (hb89.mono hs8))
  have HO9 := veil (own_below HO8.out hb89)
  have HT9 := veil (own_below HLt.out hb9)
  have HS9 := veil hok9
  have HL9 := veil hl9
  have HBB9 := veil hbb9
  have HNE : Hid ((Value.slice a8 32 c8).ownBlock = none ∨ (Value.slice a8 32 c8).ownBlock ≠ some w8.heap.size) := show _ ∨ _ by
    cases hq : (Value.slice a8 32 c8).ownBlock with
    | none => exact .inl rfl
    | some q =>
      refine .inr (fun e => ?_)
      have := (HO8.out.lt q hq).2
      injection e with e
      omega
  clear own9 hb9 hb89 HK8 HO8 HLt hok9 hl9 hbb9
  go_wp2_with (first
    | (with_reducible (show wpList _ _ _ (⟨some 20, Op.call _, _, _, _, _⟩ :: _) _ _)
       refine append_sl rfl _ _ 23 rfl w8.heap.size i0 Try.underlying23 hi hz0 hz1 hz2 _ 1 _ rfl HT9.out s9 HS9.out rfl (by rw [HL9.out]; omega) (by omega) ?_
       intro v10 w10 own10 grow10
       rw [HL9.out, HBB9.out] at own10
       have hb10 : Below w8.heap.size w9 w10 := (Below.refl _ w9).grown grow10 (by omega) (fun q e => (HT9.out.lt q e).1)
       have HO10 : Hid (w10.ownsRow W4.heap.size 5 1 (.slice a8 32 c8) 32 (vb ((List.replicate 16 255 ++ [240]) ++ List.replicate 15 255))) := HO9.out.kept grow10 HNE.out
       obtain ⟨s10, rfl, hl10, hbb10, hok10⟩ := own_sl own10
       have HK10 := veil (HK9.out.trans (hb10.mono hs8))
       have hs10 := HK10.out.size
       have HS10 := veil hok10
       have HL10 := veil hl10
       have HBB10 := veil hbb10
       clear own10 grow10 hb10 hok10 hl10 hbb10)
    | (with_reducible (show wpList _ _ _ (⟨some 21, Op.call _, _, _, _, _⟩ :: _) _ _)
       refine append_sl rfl _ _ 23 rfl W4.heap.size i0 Try.underlying23 hi hz0 hz1 hz2 _ 32 _ rfl HO10.out s10 HS10.out rfl (by rw [HL10.out]; omega) (by omega) ?_
       intro v11 w11 own11 grow11
       rw [HL10.out, HBB10.out] at own11
       obtain ⟨s11, rfl, hl11, hbb11, hok11⟩ := own_sl own11
       have HK11 := veil (HK10.out.grown grow11 (by omega) (fun q e => (HO10.out.lt q e).1))
       have HS11 := veil hok11
       have HL11 := veil hl11
       have HBB11 := veil hbb11
       have HR11 := veil (HR4.out.below HK11.out HR4.out.lt)
       clear own11 grow11 hok11 hl11 hbb11)
    | (with_reducible (show wpList _ _ _ (⟨some 25, Op.load 25 _, _, _, _, _⟩ :: _) _ _)
       refine load_rowG (by rfl) 25 _ rfl w3.heap.size rfl _ _ HR11.out 16 5 Try.underlying25 (by kernel_rfl) hta ?_)
    | (with_reducible (show wpList _ _ _ (⟨some 26, Op.build 25 _, _, _, _, _⟩ :: _) _ _)
       refine build_rowG (by rfl) 25 _ rfl (bs aTag) (by kernel_rfl) ?_)
    | (with_reducible (show wpList _ _ _ (⟨some 27, Op.binOp .eql 25 _ _ _, _, _, _, _⟩ :: _) _ _)
       refine value_G (by rfl) (.bool true) (exec_eql_self _ 25 5 16 .u8 (.tmp 25) (.tmp 26) 25 (bs aTag) rfl rfl rfl Try.underlying25 Try.underlying5 (by kernel_rfl) (by kernel_rfl) (by kernel_rfl) (fun j hj => ⟨_, bs_get aTag j hj⟩)) ?_)
    | (with_reducible (show wpList _ _ _ (⟨some 30, Op.build 22 _, _, _, _, _⟩ :: _) _ _)
       refine build_rowG (by rfl) 22 _ rfl (bs key2) (by kernel_rfl) ?_))
  clear HO9 HT9 HS9 HL9 HBB9 HO10 HS10 HL10 HBB10 HK10 HK9 HR11
  refine (repeat_lit 255 255 (by decide) 16 16 rfl (by omega) w11).mono ?_
  rintro e12 w12 ⟨v12, rfl, own12, hb12⟩
  obtain ⟨s12, rfl, hl12, hbb12, hok12⟩ := own_sl own12
  have hb12' := HK11.out.trans (hb12.mono HK11.out.size)
  have HS11' := veil (HS11.out.below hb12)
  have HK12 := veil hb12'
  clear hb12 hb12' HK11 HS11 own12
  have HOK12 := veil hok12
  have HL12 := veil hl12
  have HBB12 := veil hbb12
  clear hok12 hl12 hbb12
  go_wp2_with fail
  refine (of_any key2 rfl s12 w12 HOK12.out (by rw [HL12.out]; omega)).mono ?_
  rintro e13 w13 ⟨rfl, hb13⟩
  rw [HBB12.out, vec_3]
  have hb13' := HK12.out.trans (hb13.mono HK12.out.size)
  have HS13 := veil (HS11'.out.below hb13)
  have HK13 := veil hb13'
  clear hb13 hb13' HK12 HS11' HOK12 HL12 HBB12
  go_wp2_with (first
    | (with_reducible (show wpList _ _ _ (⟨some 33, Op.build 25 _, _, _, _, _⟩ :: _) _ _)
       refine build_rowG (by rfl) 25 _ rfl (bs tag3) (by kernel_rfl) ?_)
    | (with_reducible (show wpList _ _ _ (⟨some 34, Op.binOp .eql 25 _ _ _, _, _, _, _⟩ :: _) _ _)
       refine value_G (by rfl) (.bool true) (exec_eql_self _ 25 5 16 .u8 (.tmp 32) (.tmp 33) 25 (bs tag3) rfl rfl rfl Try.underlying25 Try.underlying5 (by kernel_rfl) (by kernel_rfl) (by kernel_rfl) (fun j hj => ⟨_, bs_get tag3 j hj⟩)) ?_)
    | (with_reducible (show wpList _ _ _ (⟨some 37, Op.build 22 _, _, _, _, _⟩ :: _) _ _)
       refine build_rowG (by rfl) 22 _ rfl (bs key1) (by kernel_rfl) ?_))
  refine (of_any key1 rfl s11 w13 HS13.out (by rw [HL11.out]; omega)).mono ?_
  rintro e14 w14 ⟨rfl, hb14⟩
  rw [show s11.b = fiveB from HBB11.out, vec_5]
  have hb14' := HB4.out.trans ((HK13.out.trans (hb14.mono HK13.out.size)).mono hs4)
  go_wp2_with (first
    | (with_reducible (show wpList _ _ _ (⟨some 40, Op.build 25 _, _, _, _, _⟩ :: _) _ _)
       refine build_rowG (by rfl) 25 _ rfl (bs tag5) (by kernel_rfl) ?_)
    | (with_reducible (show wpList _ _ _ (⟨some 41, Op.binOp .eql 25 _ _ _, _, _, _, _⟩ :: _) _ _)
       refine value_G (by rfl) (.bool true) (exec_eql_self _ 25 5 16 .u8 (.tmp 39) (.tmp 40) 25 (bs tag5) rfl rfl rfl Try.underlying25 Try.underlying5 (by kernel_rfl) (by kernel_rfl) (by kernel_rfl) (fun j hj => ⟨_, bs_get tag5 j hj⟩)) ?_))
  go_ret
  exact ⟨rfl, hb14'⟩
end Go.Proofs.Ytholddbmnlnkkaa
