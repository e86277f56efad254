/-
  What Put answers.
-/
import Derived.Test.YtiecpkkklefjdaaGreatDoorGuHfPutP
import Derived.Test.YtiecpkkklefjdaaGreatDoorGuHfLen
namespace Go.Proofs.YtiecpkkklefjdaaGreatDoor
open Go Go.RowKit Go.Shelf
attribute [local go_sem] Oper.semAt_some

set_option maxHeartbeats 400000 in
theorem put_limit (s : ByteArray) (hs : 65536 < s.size) (hl : s.size ≤ 9223372036854775807) (w : World) : Calls Tryz.prog 16 #[.string s] w fun e w' => e = .returned (.tuple #[.slice none 0 0, .int .i64 3]) ∧ w' = w := by
  have h : (s.size : Int) > 65536 := by omega
  go_enter Tryz.func16, Tryz.ntmps16
  go_wp2
  go_ret2
  exact ⟨rfl, rfl⟩
set_option maxHeartbeats 400000 in
theorem inCode_in (n : Nat) (s : ByteArray) (w : World) :
    CallsIn Fence.wide n Tryz.prog 63 #[.string s] w fun e w' => e = .returned (.func (.func 97) #[] #[.pointer (some ⟨w.heap.size, 0, none⟩)]) ∧ w' = w.alloc (.cells #[.string s] 9) := by
  refine callsIn_of_wp Tryz.func63 rfl trivial ?_ rfl
  simp only [Tryz.ntmps63, List.size_toArray, List.length_cons, List.length_nil, Nat.reduceAdd, Nat.reduceSub, Array.replicate_succ, Array.replicate_zero, List.push_toArray, List.append_toArray, List.nil_append, List.cons_append]
  gi_wp2
  go_ret
  exact ⟨rfl, rfl⟩
set_option maxHeartbeats 400000 in
theorem bits_in (n : Nat) (gf : Nat) (lb : Array Value) (w : World) :
    CallsIn Fence.wide n Tryz.prog 62 #[.func (.func gf) #[] lb] w fun e w' => e = .returned (.func (.func 96) #[] #[.pointer (some ⟨w.heap.size, 0, none⟩)]) ∧ w' = w.alloc (.cells #[.func (.func gf) #[] lb] 63) := by
  refine callsIn_of_wp Tryz.func62 rfl trivial ?_ rfl
  simp only [Tryz.ntmps62, List.size_toArray, List.length_cons, List.length_nil, Nat.reduceAdd, Nat.reduceSub, Array.replicate_succ, Array.replicate_zero, List.push_toArray, List.append_toArray, List.nil_append, List.cons_append]
  gi_wp2
  go_ret
  exact ⟨rfl, rfl⟩

/-- Bytes at the beginning of a block. -/
def Bts (w : World) (G C : Nat) (b : List By) : Prop := ∃ cur : Array Value, w.heap[G]? = some (.cells cur 5 (0, 0)) ∧ cur.size = C ∧ b.length ≤ C ∧ ∀ j, j < b.length → cur[j]? = some (.int .u8 (v8 (gb b j)))
theorem Bts.lt {w : World} {G C : Nat} {b : List By} (h : Bts w G C b) : G < w.heap.size := by
  obtain ⟨cur, h1, _⟩ := h
  exact (Array.getElem?_eq_some_iff.1 h1).1
theorem Bts.same {w w' : World} {G C : Nat} {b : List By} (h : Bts w G C b) (e : w'.heap[G]? = w.heap[G]?) : Bts w' G C b := by
  obtain ⟨cur, h1, h2⟩ := h
  exact ⟨cur, e.trans h1, h2⟩
theorem Bts.cell {w : World} {G C : Nat} {b : List By} (h : Bts w G C b) {j : Nat} (hj : j < b.length) : w.cell? ⟨G, j, none⟩ = some (.int .u8 (v8 (gb b j))) := by
  obtain ⟨cur, h1, _, _, h3⟩ := h
  rw [cell_of_row w G j cur 5 (0, 0) h1]
  exact h3 j hj
theorem Bts.frozen {w : World} {G C : Nat} {b : List By} (h : Bts w G C b) (j : Nat) : w.frozen? ⟨G, j, none⟩ = false := by
  obtain ⟨cur, h1, _⟩ := h
  exact frozen_of_row w G j cur 5 h1
theorem Bts.set {w : World} {G C : Nat} {b : List By} (h : Bts w G C b) {j : Nat} (hj : j < b.length) (x : By) : Bts (w.setCell ⟨G, j, none⟩ (.int .u8 (v8 x))) G C (b.set j x) := by
  obtain ⟨cur, h1, h2, h3, h4⟩ := h
  refine ⟨_, heap_setCell_same w G j cur 5 _ h1, by simpa using h2, by simpa using h3, fun i hi => ?_⟩
  rw [List.length_set] at hi
  rw [Array.getElem?_setIfInBounds]
  unfold gb
  rw [List.getElem?_set]
  by_cases e : j = i
  · subst e
    rw [if_pos rfl, if_pos rfl, if_pos (by omega), if_pos hj]
    rfl
  · rw [if_neg e, if_neg e]
    have := h4 i hi
    unfold gb at this
    exact this
theorem Ffs.bts {w : World} {G N C : Nat} (h : Ffs w G N C) (hc : N ≤ C) : Bts w G C (List.replicate N 255) := by
  obtain ⟨cur, h1, h2, h3⟩ := h
  refine ⟨cur, h1, h2, by rw [List.length_replicate]; exact hc, fun j hj => ?_⟩
  rw [List.length_replicate] at hj
  rw [h3 j hj]
  unfold gb
  rw [List.getElem?_replicate, if_pos hj]
  rfl
/-- What Put has while the bits come. -/
structure PutI (w : World) (Bx G C N L0 : Nat) (B : List Bool) (j : Nat) (M : Nat → Prop) (W : World) : Prop where
  bx : Row W Bx 23 #[.slice (some ⟨G, 0, none⟩) N N]
  bts : Bts W G C (Hf.packTo B j)
  lo : ∀ k, M k → L0 ≤ k
  size : L0 ≤ W.heap.size
  below : Below w.heap.size w W

set_option maxRecDepth 100000 in
set_option maxHeartbeats 2000000 in
theorem put_any (s : ByteArray) (hs : s.size ≤ 65536) (w : World) : Calls Tryz.prog 16 #[.string s] w fun e w' => ∃ G C, e = .returned (.tuple #[.slice (some ⟨G, 0, none⟩) (Hf.packN (Hf.txt (bOf s))) (Hf.packN (Hf.txt (bOf s))), .int .i64 0]) ∧ Bts w' G C (Hf.packL (Hf.txt (bOf s))) ∧ w.heap.size ≤ G ∧ Below w.heap.size w w' := by
  have hlim : ¬ ((s.size : Int) > 65536) := by omega
  have hT := Hf.txt_length_le (bOf s)
  rw [bOf_length] at hT
  have hNle : Hf.packN (Hf.txt (bOf s)) ≤ 262144 := by unfold Hf.packN; omega
  have HT := veil hT
  have HN := veil (show Hf.packN (Hf.txt (bOf s)) = Hf.packN (Hf.txt (bOf s)) from rfl)
  clear hT
  refine (callsIn_wide (n := 9)).1 ?_
  refine callsIn_of_wp_marks Tryz.func16 rfl trivial ?_ rfl
  simp only [Tryz.ntmps16, List.size_toArray, List.length_cons, List.length_nil, Nat.reduceAdd, Nat.reduceSub, Array.replicate_succ, Array.replicate_zero, List.push_toArray, List.append_toArray, List.nil_append, List.cons_append]
  gi_wp2_with fail
  have R0 : Row (w.alloc (.cells #[.int .u8 255] 5)) w.heap.size 5 #[.int .u8 255] := Row.new _ _ _
  have b0 : Below w.heap.size w (w.alloc (.cells #[.int .u8 255] 5)) := (Below.refl _ w).alloc (Nat.le_refl _) _
  generalize w.alloc (.cells #[.int .u8 255] 5) = w0 at *
  refine ⟨trivial, (callsIn_wide.2 (len_any s (by omega) w0)).mono ?_⟩
  rintro e1 w1 ⟨rfl, hb1⟩
  have R1 := R0.below hb1 R0.lt
  have b1 := b0.trans (hb1.mono b0.size)
  clear R0 b0 hb1
  generalize hNN : Hf.packN (Hf.txt (bOf s)) = N at *
  gi_wp2_with fail
  refine ⟨trivial, (callsIn_wide.2 (repeat_ff w.heap.size N (by omega) w1 R1)).mono ?_⟩
  rintro e2 w2 ⟨G, C, rfl, hF, hNC, hG1, hb2⟩
  have b2 := b1.trans (hb2.mono b1.size)
  have s1 := b1.size
  have s2 := b2.size
  have hB0 := hF.bts hNC
  have hGlt := hF.lt
  clear R1 b1 hb2 hF
  gi_wp2_with fail
  have rx : Row (w2.alloc (.cells #[.slice (some ⟨G, 0, none⟩) N N] 23)) w2.heap.size 23 #[.slice (some ⟨G, 0, none⟩) N N] := Row.new _ _ _
  have hB1 := hB0.same (Below.heap_alloc w2 (.cells #[.slice (some ⟨G, 0, none⟩) N N] 23) G hGlt)
  have b3 := b2.alloc s2 (.cells #[.slice (some ⟨G, 0, none⟩) N N] 23)
  generalize w2.alloc (.cells #[.slice (some ⟨G, 0, none⟩) N N] 23) = w3 at *
  refine ⟨trivial, (inCode_in _ s w3).mono ?_⟩
  rintro e4 w4 ⟨rfl, rfl⟩
  gi_wp2_with fail
  refine ⟨trivial, (bits_in _ _ _ _).mono ?_⟩
  rintro e5 w5 ⟨rfl, rfl⟩
  gi_wp2_with fail
  have r1 : Row ((w3.alloc (.cells #[.string s] 9)).alloc (.cells #[.func (.func 97) #[] #[.pointer (some ⟨w3.heap.size, 0, none⟩)]] 63)) w3.heap.size 9 #[.string s] := (Row.new _ _ _).alloc _
  have r2 : Row ((w3.alloc (.cells #[.string s] 9)).alloc (.cells #[.func (.func 97) #[] #[.pointer (some ⟨w3.heap.size, 0, none⟩)]] 63)) (w3.heap.size + 1) 63 #[.func (.func 97) #[] #[.pointer (some ⟨w3.heap.size, 0, none⟩)]] := Row.new1 _ _ _ _
  have rx5 := (rx.alloc (.cells #[.string s] 9)).alloc (.cells #[.func (.func 97) #[] #[.pointer (some ⟨w3.heap.size, 0, none⟩)]] 63)
  have b5 := (b3.alloc b3.size (.cells #[.string s] 9)).alloc (by rw [World.size_alloc]; have := b3.size; omega) (.cells #[.func (.func 97) #[] #[.pointer (some ⟨w3.heap.size, 0, none⟩)]] 63)
  have hB5 := (hB1.same (Below.heap_alloc w3 (.cells #[.string s] 9) G hB1.lt)).same (Below.heap_alloc _ (.cells #[.func (.func 97) #[] #[.pointer (some ⟨w3.heap.size, 0, none⟩)]] 63) G (by rw [World.size_alloc]; have := hB1.lt; omega))
  have z5 : ((w3.alloc (.cells #[.string s] 9)).alloc (.cells #[.func (.func 97) #[] #[.pointer (some ⟨w3.heap.size, 0, none⟩)]] 63)).heap.size = w3.heap.size + 2 := by simp
  have hxl := rx.lt
  have hG3 := hB1.lt
  have hsz4 : (w3.alloc (.cells #[.string s] 9)).heap.size = w3.heap.size + 1 := by simp
  generalize ((w3.alloc (.cells #[.string s] 9)).alloc (.cells #[.func (.func 97) #[] #[.pointer (some ⟨w3.heap.size, 0, none⟩)]] 63)) = w5 at *
  have HZ5 := veil z5
  have hne1 : ¬ w3.heap.size = G := by omega
  have hneX : w2.heap.size ≠ G := by omega
  clear rx hB1 hB0 b3 b2 hsz4 z5
  have hTell : TellsM Tryz.prog 96 #[.pointer (some ⟨w3.heap.size + 1, 0, none⟩)] encB (fun k => k = G) (StepB (Hf.txt (bOf s))) (EndB (Hf.txt (bOf s))) 0 w5 := by
    have := bits1_tells (w3.heap.size + 1) 97 #[.pointer (some ⟨w3.heap.size, 0, none⟩)] (rowT (bOf s)) (fun k => k = G) w5 r2 (enters_of Tryz.func97 (by kernel_rfl) rfl)
      (fun p hp => by
        unfold rowT at hp
        obtain ⟨c, _, rfl⟩ := List.mem_map.1 hp
        have hc : c.toNat < 257 := by have := c.isLt; omega
        have h1 := Hf.word_ok hc
        have h2 := Hf.nextTo_le c.toNat (Hf.sz c.toNat)
        rw [← Hf.val_is hc] at h2
        exact ⟨h1.2.1, by omega⟩)
      (by rw [bitsRow_T]; have := HT.out; omega)
      (fun st' W hb hsub => inCode1_tells w3.heap.size s (by omega) st' W (r1.below hb r1.lt) (fun h => hne1 (hsub _ r1.lt h)))
    rw [bitsRow_T] at this
    exact this
  have HTELL := veil hTell
  have HR0 := veil (show PutI w w2.heap.size G C N w5.heap.size (Hf.txt (bOf s)) 0 (fun _ => False) w5 from ⟨rx5, by rw [Hf.packTo_zero, hNN]; exact hB5, (fun k h => h.elim), Nat.le_refl _, b5⟩)
  clear r1 r2 rx5 hB5 b5 hTell
  refine rangeFunc_tellsM (n := 9) (gf := 96) (lb := #[.pointer (some ⟨w3.heap.size + 1, 0, none⟩)]) rfl (enters_of Tryz.func96 (by kernel_rfl) rfl) (encs := encB) (fun _ => rfl) (fun k => k = G) (fun k hk => by have := HZ5.out; omega) HTELL.out
    (PutI w w2.heap.size G C N w5.heap.size (Hf.txt (bOf s))) (fun _ _ => False) ?hI (fun _ _ _ h _ => h) ?hIm (fun _ _ _ h _ => h) HR0.out
    (fun x _ => { tmps := #[.string s, undef, .slice none 0 0, .int .i64 0, .pointer (some ⟨w2.heap.size, 0, none⟩), .int .i64 (x.1 : Int), .int .u32 (x.2.toNat : Int), .string s, .int .i64 (s.size : Int), .bool false, .slice (some ⟨w.heap.size, 0, none⟩) 1 1, .string s, .int .i64 (N : Int), .slice (some ⟨G, 0, none⟩) N N, .string s, .func (.func 97) #[] #[.pointer (some ⟨w3.heap.size, 0, none⟩)], .func (.func 96) #[] #[.pointer (some ⟨w3.heap.size + 1, 0, none⟩)], .int .i64 (x.1 : Int), .int .u32 (x.2.toNat : Int), undef, undef, undef, undef, undef, undef, undef, undef, undef, undef, undef, undef, undef], defers := [] })
    (fun _ _ _ => True) (fun _ _ _ _ h _ => h) ?assign ?body ?done (fun _ _ _ _ h _ => h.elim)
  case hI =>
    intro j M A B h k
    have hs0 := h.size
    have hz := HZ5.out
    have hks := k.size
    exact ⟨k.row h.bx (by omega), h.bts.same (k.block _ h.bts.lt (by omega)), h.lo, by omega, h.below.trans (k.below (fun q e => by omega) (by have := h.below.size; omega))⟩
  case hIm =>
    intro j M A B h k
    have hs0 := h.size
    have hz := HZ5.out
    have hks := k.size
    have hlo := h.lo
    refine ⟨(k.block _ h.bx.lt (fun e => by have := hlo _ e; omega)).trans h.bx, h.bts.same (k.block _ h.bts.lt (fun e => by have := hlo _ e; omega)), fun q e => e.elim (hlo q) (fun e => by omega), by omega, h.below.trans ⟨k.os, k.tape, k.output, k.size, fun q hq => k.block q (by have := h.below.size; omega) (fun e => by have := hlo _ e; omega)⟩⟩
  case assign =>
    intro l x W K hK
    unfold encB
    gi_wp2_with fail
    exact hK _ (Below.refl _ _) trivial
  case done =>
    rintro D j M X hD hE hI hK
    obtain rfl : j = (Hf.txt (bOf s)).length := hE
    have cX : X.cell? ⟨w2.heap.size, 0, none⟩ = some (.slice (some ⟨G, 0, none⟩) N N) := hI.bx.cell 0
    have HF := veil (show Bts (X.putObj D (.deferred none)) G C (Hf.packL (Hf.txt (bOf s))) from hI.bts.same (World.putObj_heap_other (by have := HZ5.out; omega)))
    have HB := veil (show Below w.heap.size w (X.putObj D (.deferred none)) from hI.below.trans ((keepP_put X D _).below (fun q e => by have := HZ5.out; omega) (by have := hI.below.size; omega)))
    have HK := veil hK
    clear hK hI hD
    gi_wp2_with fail
    refine ⟨by simp, .inl ⟨_, _, rfl, run_takeDeferred HK.out, ?_⟩⟩
    exact ⟨_, results_tmp2 rfl _ _ _, G, C, by rw [hNN]; rfl, HF.out, by omega, HB.out⟩
  case body =>
    rintro l j ⟨i, b⟩ j' M V X ⟨hij, hbit, rfl⟩ hI hk _ hsz hM
    simp only at hij hbit
    subst hij
    have hs0 := hI.size
    have hz := HZ5.out
    have hks := hk.size
    have bx := hk.row hI.bx (by omega)
    have hlo := hI.lo
    have bts := hI.bts.same (hk.block _ hI.bts.lt (by omega))
    have hbl : Below w.heap.size w X := hI.below.trans (hk.below (fun q e => by omega) (by have := hI.below.size; omega))
    have hil : i < (Hf.txt (bOf s)).length := (List.getElem?_eq_some_iff.1 hbit).1
    have hiN := Hf.lt_packN hil
    have HLO := veil hlo
    have HX := veil (show w5.heap.size ≤ X.heap.size by omega)
    cases b with
    | true =>
      have HI := veil (show PutI w w2.heap.size G C N w5.heap.size (Hf.txt (bOf s)) (i + 1) M X from ⟨bx, by rw [Hf.packTo_true hbit]; exact bts, hlo, by omega, hbl⟩)
      clear bx bts hbl hI hk hM hlo hz
      gi_wp2_with fail
      exact ⟨KeepY.refl _ _ _ _, HI.out⟩
    | false =>
      have hiL : i < 100000000 := by have := HT.out; omega
      have hpl := Hf.packTo_length (Hf.txt (bOf s)) i
      have cX : X.cell? ⟨w2.heap.size, 0, none⟩ = some (.slice (some ⟨G, 0, none⟩) N N) := bx.cell 0
      have cG := bts.cell (j := i / 8) (by rw [hpl]; exact hiN)
      have fG := bts.frozen (i / 8)
      rw [hNN] at hiN
      have hlt8 : i % 8 < 8 := by omega
      have hGX : X.drew.heap.size = X.heap.size := rfl
      have cX' : X.drew.cell? ⟨w2.heap.size, 0, none⟩ = some (.slice (some ⟨G, 0, none⟩) N N) := cX
      have cG' : X.drew.cell? ⟨G, i / 8, none⟩ = some (.int .u8 (v8 (gb (Hf.packTo (Hf.txt (bOf s)) i) (i / 8)))) := cG
      have fG' : X.drew.frozen? ⟨G, i / 8, none⟩ = false := fG
      have HBT := veil (show Bts (X.drew.setCell ⟨G, i / 8, none⟩ (.int .u8 (v8 (Hf.clr (gb (Hf.packTo (Hf.txt (bOf s)) i) (i / 8)) (i % 8))))) G C (Hf.packTo (Hf.txt (bOf s)) (i + 1)) from by
        rw [Hf.packTo_false hbit]
        exact (bts.same (w' := X.drew) rfl).set (by rw [hpl, hNN]; exact hiN) _)
      generalize gb (Hf.packTo (Hf.txt (bOf s)) i) (i / 8) = c at *
      have HI := veil (show PutI w w2.heap.size G C N w5.heap.size (Hf.txt (bOf s)) (i + 1) M (X.drew.setCell ⟨G, i / 8, none⟩ (.int .u8 (v8 (Hf.clr c (i % 8))))) from
        ⟨bx.drew.other (a := ⟨G, i / 8, none⟩) hneX _, HBT.out, hlo, by show w5.heap.size ≤ (X.drew.setCell ⟨G, i / 8, none⟩ (.int .u8 (v8 (Hf.clr c (i % 8))))).heap.size; simp [World.setCell]; omega, (hbl.drew).setCell (p := ⟨G, i / 8, none⟩) (by show w.heap.size ≤ G; omega) _⟩)
      have HKY := veil (show KeepY (w5.heap.size + 2) (fun k => k = G) M X (X.drew.setCell ⟨G, i / 8, none⟩ (.int .u8 (v8 (Hf.clr c (i % 8))))) from (KeepY.of_below ((Below.refl _ X).drew)).trans (KeepY.setCell (st := fun k => k = G) (g := G) (.inl rfl) (fun e => by have := HLO.out _ e; omega) _ _ _))
      have HZ := veil hz
      clear bx bts hbl hI hk hM hlo hz cX cG fG hpl hGX
      gi_wp2_with fail
      refine wpIn_region_any (by kernel_rfl) ?_
      refine anyIn_spine (valPt G N i c) (RPt X.drew (X.drew.setCell ⟨G, i / 8, none⟩ (.int .u8 (v8 (Hf.clr c (i % 8)))))) undef [10] [21, 22, 23, 24, 25, 26, 27, 28, 29, 30, 100000] depPt depPt (by kernel_rfl) (by decide) rfl (by decide) (by decide) ?ord (by decide) rfl ?fix ?cal ?don
      case ord =>
        intro k i j h1 h2
        match k, h1, h2 with
        | 0, h1, h2 => simp at h2
        | _ + 1, h1, _ => simp at h1
      case fix =>
        intro x W4 m2 ii d u hRR hdi hni hdep hlo hhi
        have hm : m2 = 0 ∨ 10 < ii := by
          by_cases h8 : 10 < ii
          · exact .inr h8
          · refine .inl (Nat.le_zero.1 (hhi 0 10 rfl ?_))
            have : ii = 0 ∨ ii = 1 ∨ ii = 2 ∨ ii = 3 ∨ ii = 4 ∨ ii = 5 ∨ ii = 6 ∨ ii = 7 ∨ ii = 8 ∨ ii = 9 := by
              have : ii ≠ 10 := fun e => hni (by rw [e]; decide)
              omega
            rcases this with rfl | rfl | rfl | rfl | rfl | rfl | rfl | rfl | rfl | rfl <;> decide
        by_cases h8 : 10 < ii
        · rw [List.getElem?_eq_none (by simp; omega)] at hdi
          cases hdi
        obtain rfl := hm.resolve_right h8
        have hW4 : W4 = X.drew := hRR
        subst hW4
        clear hm h8 hRR
        match ii, hdi, hdep with
        | 0, hdi, _ =>
          obtain rfl := Option.some.inj hdi
          exact OI_value rfl rfl (about_none (by intro c h; cases h)) (by intro c h; cases h) (.slice (some ⟨G, 0, none⟩) N N) X.drew (run_cellH 23 _ ⟨w2.heap.size, 0, none⟩ _ _ rfl (by kernel_rfl) Tryz.underlying23 rfl _ cX') ⟨rfl, rfl⟩
        | 1, hdi, _ =>
          obtain rfl := Option.some.inj hdi
          exact OI_value rfl rfl (about_none (by intro c h; cases h)) (by intro c h; cases h) (.int .i64 (i : Int)) X.drew (by kernel_rfl) ⟨rfl, rfl⟩
        | 2, hdi, hdep =>
          obtain rfl := Option.some.inj hdi
          rw [updV_self (show x 1 = _ from hdep 1 (by simp [depPt]) (by decide))]
          exact OI_value rfl rfl (about_none (by intro c h; cases h)) (by intro c h; cases h) (.int .i64 ((i / 8 : Nat) : Int)) X.drew (run_quo8 _ _ _ _ i rfl (by kernel_rfl) (by kernel_rfl) (by omega) _) ⟨rfl, rfl⟩
        | 3, hdi, hdep =>
          obtain rfl := Option.some.inj hdi
          rw [updV_self (show x 0 = _ from hdep 0 (by simp [depPt]) (by decide)), updV_self (show (updV x 0 _) 2 = _ from hdep 2 (by simp [depPt]) (by decide))]
          refine OI_value rfl rfl (about_none (by intro c h; cases h)) (by intro c h; cases h) (.pointer (some ⟨G, 0 + i / 8 * 1, none⟩)) X.drew (run_atR 23 5 1 _ _ G 0 N N (i / 8) rfl (by kernel_rfl) (by kernel_rfl) Tryz.underlying23 (by kernel_rfl) hiN _) ⟨?_, rfl⟩
          rw [Nat.zero_add, Nat.mul_one]
          rfl
        | 4, hdi, hdep =>
          obtain rfl := Option.some.inj hdi
          rw [updV_self (show x 3 = _ from hdep 3 (by simp [depPt]) (by decide))]
          exact OI_value rfl rfl (about_none (by intro c h; cases h)) (by intro c h; cases h) (.int .u8 (v8 c)) X.drew (run_cellH 5 _ ⟨G, i / 8, none⟩ _ _ rfl (by kernel_rfl) Tryz.underlying5 rfl _ cG') ⟨rfl, rfl⟩
        | 5, hdi, _ =>
          obtain rfl := Option.some.inj hdi
          exact OI_value rfl rfl (about_none (by intro c h; cases h)) (by intro c h; cases h) (.int .i64 (i : Int)) X.drew (by kernel_rfl) ⟨rfl, rfl⟩
        | 6, hdi, hdep =>
          obtain rfl := Option.some.inj hdi
          rw [updV_self (show x 5 = _ from hdep 5 (by simp [depPt]) (by decide))]
          exact OI_value rfl rfl (about_none (by intro c h; cases h)) (by intro c h; cases h) (.int .i64 ((i % 8 : Nat) : Int)) X.drew (run_rem8 _ _ _ _ i rfl (by kernel_rfl) (by kernel_rfl) _) ⟨rfl, rfl⟩
        | 7, hdi, hdep =>
          obtain rfl := Option.some.inj hdi
          rw [updV_self (show x 6 = _ from hdep 6 (by simp [depPt]) (by decide))]
          exact OI_value rfl rfl (about_none (by intro c h; cases h)) (by intro c h; cases h) (.int .u8 ((128 / 2 ^ (i % 8) : Nat) : Int)) X.drew (run_shr128 _ _ _ _ (i % 8) hlt8 rfl (by kernel_rfl) (by kernel_rfl) _) ⟨rfl, rfl⟩
        | 8, hdi, hdep =>
          obtain rfl := Option.some.inj hdi
          rw [updV_self (show x 4 = _ from hdep 4 (by simp [depPt]) (by decide)), updV_self (show (updV x 4 _) 7 = _ from hdep 7 (by simp [depPt]) (by decide))]
          exact OI_value rfl rfl (about_none (by intro c h; cases h)) (by intro c h; cases h) (.int .u8 (v8 (Hf.clr c (i % 8)))) X.drew (run_andNot _ _ _ _ c (i % 8) rfl (by kernel_rfl) (by kernel_rfl) _) ⟨rfl, rfl⟩
        | 9, hdi, hdep =>
          obtain rfl := Option.some.inj hdi
          rw [updV_self (show x 0 = _ from hdep 0 (by simp [depPt]) (by decide)), updV_self (show (updV x 0 _) 2 = _ from hdep 2 (by simp [depPt]) (by decide))]
          refine OI_value rfl rfl (about_none (by intro c h; cases h)) (by intro c h; cases h) (.pointer (some ⟨G, 0 + i / 8 * 1, none⟩)) X.drew (run_atR 23 5 1 _ _ G 0 N N (i / 8) rfl (by kernel_rfl) (by kernel_rfl) Tryz.underlying23 (by kernel_rfl) hiN _) ⟨?_, rfl⟩
          rw [Nat.zero_add, Nat.mul_one]
          rfl
        | 10, _, _ => exact absurd (by decide) hni
      case cal =>
        intro x W4 k2 ii d u hRR hk hdi hdep hu0 hup
        match k2, hk, hRR with
        | 0, hk, hRR =>
          obtain rfl := Option.some.inj hk
          obtain rfl := Option.some.inj hdi
          have hW4 : W4 = X.drew := hRR
          subst hW4
          rw [updV_self (show x 8 = _ from hdep 8 (by simp [depPt]) (by decide)), updV_self (show (updV x 8 _) 9 = _ from hdep 9 (by simp [depPt]) (by decide))]
          refine OI_skip rfl rfl (about_none (by intro c h; cases h)) (by intro c h; cases h) (X.drew.setCell ⟨G, i / 8, none⟩ (.int .u8 (v8 (Hf.clr c (i % 8))))) ?_ ?_
          · exact run_storeH 5 _ _ ⟨G, i / 8, none⟩ .u8 _ _ rfl (by kernel_rfl) (by kernel_rfl) (by kernel_rfl) _ cG' fG'
          · exact ⟨undef, (put_none _ _).trans (put_far _ _ _ (by rw [puts_size]; exact Nat.le_of_ble_eq_true rfl)).symm, rfl⟩
        | _ + 1, hk, _ => simp at hk
      case don =>
        intro x W4 u hRR hx hlast
        have hW4 : W4 = X.drew.setCell ⟨G, i / 8, none⟩ (.int .u8 (v8 (Hf.clr c (i % 8)))) := hRR
        subst hW4
        gi_wp2_with fail
        exact ⟨HKY.out, HI.out⟩
end Go.Proofs.YtiecpkkklefjdaaGreatDoor
