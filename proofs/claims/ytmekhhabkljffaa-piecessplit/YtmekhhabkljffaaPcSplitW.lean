/-
  PiecesSplit: a piece in two parts is as good as the piece in one.
-/
import Derived.Test.YtmekhhabkljffaaPcCut
import Derived.Deep.OwnRows
namespace Go.Proofs.Ytmekhhabkljffaa
open Go Go.RowKit Go.Maps Go.Shelf

theorem make_zeros (w : World) (n : Nat) (hn : n ≤ 1000000) : ∃ W, (Instr.makeSlice 22 (.int .u64 (n : Int)) (.int .u64 (n : Int))).run Try.prog w = .ok (.slice (some ⟨w.heap.size, 0, none⟩) n n) W ∧ Below w.heap.size w W ∧ (SL.mk (some ⟨w.heap.size, 0, none⟩) n n w.heap.size 0 (List.replicate n 0)).Ok W := by
  have h := run_make_row' (P := Try.prog) 22 5 (.int .u8 0) 1 Try.underlying22 (by kernel_rfl) rfl .u64 .u64 n (by omega) (by omega) w
  refine ⟨_, h, (Below.refl _ w).alloc (Nat.le_refl _) _, List.length_replicate .., Nat.le_refl _, (fun e => by cases e), fun _ => rfl, fun _ => by simp, fun j hj => ?_⟩
  have hj' : j < n := hj
  have hc := cell_of_row (w.alloc (.cells (madeCells #[.int .u8 0] n) 5)) w.heap.size j (madeCells #[.int .u8 0] n) 5 (0, 0) (heap_alloc_new w _)
  show World.cell? _ ⟨w.heap.size, 0 + j, none⟩ = some (.int .u8 (v8 (gb (List.replicate n 0) j)))
  rw [Nat.zero_add, hc]
  have e : gb (List.replicate n (0 : By)) j = 0 := by unfold gb; rw [List.getElem?_replicate, if_pos hj']; rfl
  rw [e, ← Array.getElem?_toList, toList_madeCells_one, List.getElem?_replicate, if_pos hj']
  rfl

namespace Pc
/-- How a piece stands, with zeros ahead of it. -/
structure Whole (S : PS) (p : Nat) (b : List By) (last : Bool) : Prop where
  room : S.room = 3000
  read : S.read = 0
  come : S.come = p + b.length
  known : S.known = last
  f : ∀ x, S.f x = if x < p then some 0 else if x < p + b.length then some (gb b (x - p)) else none
/-- How a part of it stands, from one place of it to another. -/
structure Some (S : PS) (p : Nat) (b : List By) (lo hi : Nat) (come : Nat) (known : Bool) : Prop where
  room : S.room = 3000
  read : S.read = 0
  come : S.come = come
  known : S.known = known
  f : ∀ x, S.f x = if p + lo ≤ x ∧ x < p + hi then some (gb b (x - p)) else none
theorem Some.new (p : Nat) (b : List By) (lo : Nat) : Some (newS 3000) p b lo lo 0 false := ⟨rfl, rfl, rfl, rfl, fun x => by rw [if_neg (by omega)]; rfl⟩
theorem Some.E {S : PS} {p : Nat} {b : List By} {lo hi come : Nat} {known : Bool} (h : Some S p b lo hi come known) {q n : Nat} {last : Bool} (h1 : q + n ≤ 3000) (h2 : known = true → q + n ≤ come) (h3 : last = true → come ≤ q + n) : putE S q n last = 0 :=
  putE_easy (by omega) (by rw [h.known, h.come]; exact h2) (by rw [h.come]; exact h3) (by rw [h.read, h.room]; omega)
/-- A part more, behind or ahead. -/
theorem Some.more {S : PS} {p : Nat} {b c : List By} {lo hi come n m lo' hi' : Nat} {known last : Bool} (h : Some S p b lo hi come known) (hn : c.length = m - n) (hnm : n ≤ m) (hc : ∀ j, j < m - n → gb c j = gb b (n + j)) (h1 : p + m ≤ 3000) (h2 : known = true → p + m ≤ come) (h3 : last = true → come ≤ p + m)
    (hx : ∀ x, (lo' ≤ x ∧ x < hi') ↔ (lo ≤ x ∧ x < hi) ∨ (n ≤ x ∧ x < m)) : Some (put S (p + n) c last) p b lo' hi' (max come (p + m)) (known || last) := by
  have e : p + n + c.length = p + m := by omega
  rw [put_eq (by rw [hn]; exact h.E (by omega) (fun q => by have := h2 q; omega) (fun q => by have := h3 q; omega))]
  refine ⟨h.room, h.read, by show max S.come (p + n + c.length) = _; rw [h.come, e], by show (S.known || last) = _; rw [h.known], fun x => ?_⟩
  show holdK S.f (max (p + n) S.read) (p + n + c.length) (p + n) c x = _
  unfold holdK
  rw [h.read, e, h.f]
  have hxx := hx (x - p)
  by_cases c1 : p + lo ≤ x ∧ x < p + hi
  · rw [if_pos c1, if_neg (by simp), if_pos (by omega)]
  · rw [if_neg c1]
    by_cases c2 : p + n ≤ x ∧ x < p + m
    · rw [if_pos ⟨by omega, by omega, rfl⟩, if_pos (by omega), hc (x - (p + n)) (by omega)]
      congr 2
      omega
    · rw [if_neg (by omega), if_neg (by omega)]
/-- Zeros ahead. -/
theorem Some.whole {S : PS} {p : Nat} {b : List By} {known : Bool} (h : Some S p b 0 b.length (p + b.length) known) (hp : p + b.length ≤ 3000) : Whole (put S 0 (List.replicate p 0) false) p b known := by
  have hl : (List.replicate p (0 : By)).length = p := List.length_replicate ..
  rw [put_eq (by rw [hl]; exact h.E (by omega) (fun _ => by omega) (fun q => by cases q))]
  refine ⟨h.room, h.read, by show max S.come (0 + (List.replicate p (0 : By)).length) = _; rw [h.come, hl]; omega, by show (S.known || false) = _; rw [h.known, Bool.or_false], fun x => ?_⟩
  show holdK S.f (max 0 S.read) (0 + (List.replicate p (0 : By)).length) 0 (List.replicate p 0) x = _
  unfold holdK
  rw [h.read, hl, h.f]
  by_cases c1 : x < p
  · rw [if_neg (show ¬ (p + 0 ≤ x ∧ x < p + b.length) by omega), if_pos ⟨by omega, by omega, rfl⟩, if_pos c1]
    unfold gb
    rw [List.getElem?_replicate, if_pos (by omega)]
    rfl
  · rw [if_neg (show ¬ (max 0 0 ≤ x ∧ x < 0 + p ∧ _) by omega), if_neg c1]
    by_cases c2 : x < p + b.length
    · rw [if_pos ⟨by omega, c2⟩, if_pos c2]
    · rw [if_neg (by omega), if_neg c2]
theorem Whole.take {S : PS} {p : Nat} {b : List By} {last : Bool} (h : Whole S p b last) (hp : p + b.length ≤ 3000) : takeL S.f S.read 3000 = List.replicate p 0 ++ b := by
  have hl : (List.replicate p (0 : By) ++ b).length = p + b.length := by rw [List.length_append, List.length_replicate]
  refine take_of (fun j hj => ?_) (by omega) (.inr ?_)
  · rw [hl] at hj
    rw [h.read, h.f, Nat.zero_add]
    unfold gb
    by_cases c1 : j < p
    · rw [if_pos c1, List.getElem?_append_left (by rw [List.length_replicate]; exact c1), List.getElem?_replicate, if_pos c1]; rfl
    · rw [if_neg c1, if_pos hj, List.getElem?_append_right (by rw [List.length_replicate]; omega), List.length_replicate]
  · rw [h.read, h.f, hl, if_neg (by omega), if_neg (by omega)]
theorem Whole.ended {S : PS} {p : Nat} {b : List By} {last : Bool} (h : Whole S p b last) (hp : p + b.length ≤ 3000) : Pc.ended (takeS S 3000) = last := by
  unfold Pc.ended takeS
  rw [h.take hp]
  show (S.known && S.read + (List.replicate p (0 : By) ++ b).length == S.come) = last
  rw [h.known, h.read, h.come, List.length_append, List.length_replicate, Nat.zero_add]
  simp
end Pc
theorem PcOk.keepP {w w' : World} {g m : Nat} {S : PS} {st : Nat → Prop} (h : PcOk w g m S) (k : KeepP st w w') (hg : ¬ st g) (hm : ¬ st m) : PcOk w' g m S := h.same (k.block _ h.row.lt hg) (k.block _ h.map.lt hm)

set_option maxRecDepth 20000 in
set_option maxHeartbeats 1000000 in
theorem split_any (sb : SL) (x y z : Nat) (last : Bool) (w : World) (hb : sb.Ok w) (hy : y < 65536) :
    Calls Try.prog 6 #[.slice sb.a sb.len sb.cap, .agg #[.int .u16 (x : Int), .int .u16 (y : Int), .int .u8 (z : Int)], .bool last] w fun e w' => e = .returned (.bool true) ∧ Below w.heap.size w w' := by
  have HB := veil hb
  have r0 : Row (w.alloc (.cells #[.int .u16 (x : Int), .int .u16 (y : Int), .int .u8 (z : Int)] 32)) w.heap.size 32 #[.int .u16 (x : Int), .int .u16 (y : Int), .int .u8 (z : Int)] := Row.new _ _ _
  have b0 : Below w.heap.size w (w.alloc (.cells #[.int .u16 (x : Int), .int .u16 (y : Int), .int .u8 (z : Int)] 32)) := (Below.refl _ w).alloc (Nat.le_refl _) _
  have HR0 := veil r0
  have HB0 := veil b0
  have HZ0 := veil (show (w.alloc (.cells #[.int .u16 (x : Int), .int .u16 (y : Int), .int .u8 (z : Int)] 32)).heap.size = w.heap.size + 1 by simp)
  clear r0 b0
  by_cases h1 : sb.len > 1000
  · have d1 : (sb.len : Int) > 1000 := by omega
    clear h1 hb hy
    go_enter Try.func6, Try.ntmps6
    go_wp2_with fail
    generalize (w.alloc (.cells #[.int .u16 (x : Int), .int .u16 (y : Int), .int .u8 (z : Int)] 32)) = w0 at *
    refine (alive_any w0).mono ?_
    rintro e1 w1 ⟨rfl, hb1⟩
    have B1 := veil (HB0.out.trans (hb1.mono HB0.out.size))
    clear hb1
    go_wp2_with fail
    refine (alive_any w1).mono ?_
    rintro e2 w2 ⟨rfl, hb2⟩
    have B2 := veil (B1.out.trans (hb2.mono B1.out.size))
    clear hb2
    go_wp2_with fail
    go_ret
    exact ⟨rfl, B2.out⟩
  have d1 : ¬ ((sb.len : Int) > 1000) := by omega
  obtain ⟨p, hp0⟩ : ∃ p, p = x % 1000 := ⟨_, rfl⟩
  have hp1 : p < 1000 := by rw [hp0]; exact Nat.mod_lt _ (by decide)
  have hrem1 : Int.tmod (x : Int) 1000 = (p : Int) := by rw [hp0]; exact (Int.ofNat_tmod x 1000).symm
  have hw1 : IntKind.u64.wrap (p : Int) = (p : Int) := by rw [IntKind.wrap_u64]; omega
  obtain ⟨n1, hn1⟩ : ∃ n1, n1 = sb.len + 1 := ⟨_, rfl⟩
  have hw2 : IntKind.i64.wrap (y : Int) = (y : Int) := by rw [IntKind.wrap_i64]; omega
  have hw3 : IntKind.i64.wrap ((sb.len : Int) + 1) = (n1 : Int) := by rw [IntKind.wrap_i64]; omega
  have hz1 : ¬ n1 = 0 := by omega
  obtain ⟨k, hk0⟩ : ∃ k, k = y % n1 := ⟨_, rfl⟩
  have hkl : k < n1 := by rw [hk0]; exact Nat.mod_lt _ (by omega)
  have hrem2 : Int.tmod (y : Int) (n1 : Int) = (k : Int) := by rw [hk0]; exact (Int.ofNat_tmod _ _).symm
  have hw4 : IntKind.u64.wrap (k : Int) = (k : Int) := by rw [IntKind.wrap_u64]; omega
  obtain ⟨pk, hpk⟩ : ∃ pk, pk = p + k := ⟨_, rfl⟩
  have hw5 : IntKind.u64.wrap ((p : Int) + (k : Int)) = (pk : Int) := by rw [IntKind.wrap_u64]; omega
  have HPK := veil hpk
  have hw6 : IntKind.i64.wrap (p : Int) = (p : Int) := by rw [IntKind.wrap_i64]; omega
  have hw7 : IntKind.i64.wrap ((p : Int) + (sb.len : Int)) = (p : Int) + (sb.len : Int) := by rw [IntKind.wrap_i64]; omega
  have hll : (last == last) = true := by simp
  have HL := veil (show sb.len ≤ 1000 ∧ p < 1000 ∧ k ≤ sb.len from ⟨by omega, hp1, by omega⟩)
  obtain ⟨ch, hch, ech, okh, gch⟩ := cut_hi sb w hb k (by omega)
  obtain ⟨cl, hcl, ecl, okl, gcl⟩ := cut_lo sb w hb k (by omega)
  have HCH := veil (show (ch.len = k ∧ ch.b = sb.b.take k) ∧ (∀ W, sb.Ok W → ch.Ok W) from ⟨ech, okh⟩)
  have HCL := veil (show (cl.len = sb.len - k ∧ cl.b = sb.b.drop k) ∧ (∀ W, sb.Ok W → cl.Ok W) from ⟨ecl, okl⟩)
  have zs := make_zeros
  have HZS := veil (fun w => zs w p (by omega))
  clear h1 hb hy hk0 hp0 hp1 hn1 hkl hpk ech okh gch ecl okl gcl zs
  have c0 := HR0.out.cell 0
  go_enter Try.func6, Try.ntmps6
  go_wp2_with fail
  generalize (w.alloc (.cells #[.int .u16 (x : Int), .int .u16 (y : Int), .int .u8 (z : Int)] 32)) = w0 at *
  refine (alive_any w0).mono ?_
  rintro e1 w1 ⟨rfl, hb1⟩
  have B1 := veil (HB0.out.trans (hb1.mono HB0.out.size))
  have R1 := veil (HR0.out.below hb1 HR0.out.lt)
  clear hb1 c0
  have c0 := R1.out.cell 0
  have c1 := R1.out.cell 1
  go_wp2_with fail
  clear c0 c1
  refine (new_to 3000 w1 (by decide) 3000 rfl).mono ?_
  rintro e2 w2 ⟨g, m, rfl, hp2, hg, hm, hb2⟩
  have HG := veil (show w.heap.size + 1 ≤ g ∧ w.heap.size + 1 ≤ m by have := R1.out.lt; omega)
  have P2 := veil hp2
  have B2 := veil (B1.out.trans (hb2.mono B1.out.size))
  have R2 := veil (R1.out.below hb2 R1.out.lt)
  clear hp2 hb2 hg hm B1 R1
  go_wp2_with fail
  refine (new_to 3000 w2 (by decide) 3000 rfl).mono ?_
  rintro e3 w3 ⟨g', m', rfl, hp3, hg, hm, hb3⟩
  have HG' := veil (show (w.heap.size + 1 ≤ g' ∧ w.heap.size + 1 ≤ m') ∧ (¬ Two g m g' ∧ ¬ Two g m m') ∧ (¬ Two g' m' g ∧ ¬ Two g' m' m) by
    have a1 := P2.out.row.lt
    have a2 := P2.out.map.lt
    have a3 := R2.out.lt
    unfold Two
    omega)
  have P3 := veil (P2.out.below hb3)
  have Q3 := veil hp3
  have B3 := veil (B2.out.trans (hb3.mono B2.out.size))
  have R3 := veil (R2.out.below hb3 R2.out.lt)
  clear hp3 hb3 hg hm B2 R2 P2
  have SP0 := veil (Pc.Some.new p sb.b 0)
  have SP1 := veil (SP0.out.more (c := sb.b) (n := 0) (m := sb.b.length) (lo' := 0) (hi' := sb.b.length) (last := last) rfl (Nat.zero_le _) (fun j _ => by rw [Nat.zero_add]) (by rw [HB.out.hb]; have := HL.out; omega) (fun h => by cases h) (fun _ => Nat.zero_le _) (fun x => by omega))
  go_wp2_with fail
  refine (put_to (Pc.newS 3000) _ g m p sb last w3 0 P3.out (HB.out.below B3.out) (by have := HL.out; omega) (by rw [SP0.out.E (by have := HL.out; omega) (fun h => by cases h) (fun _ => Nat.zero_le _)]; rfl) rfl (p : Int) rfl).mono ?_
  rintro e4 w4 ⟨rfl, hp4, hk4⟩
  have P4 := veil hp4
  have Q4 := veil (Q3.out.keepP hk4 HG'.out.2.1.1 HG'.out.2.1.2)
  have B4 := veil (B3.out.trans (hk4.two_below (B := w.heap.size) (by have := HG.out; omega) (by have := HG.out; omega) B3.out.size))
  have R4 := veil (hk4.row R3.out (by have := HG.out; unfold Two; omega))
  clear hp4 hk4 P3 Q3 B3 R3
  have SQ0 := veil (Pc.Some.new p sb.b 0)
  have SQ0' := veil (Pc.Some.new p sb.b k)
  have c2 := R4.out.cell 2
  rw [Nat.add_zero] at SP1
  rw [show max 0 (p + sb.b.length) = p + sb.b.length by omega, show (false || last) = last by simp] at SP1
  by_cases hz2 : z % 2 = 0
  · have d5 : ((z : Int) % 2 == 0) = true := by rw [show (z : Int) % 2 = ((z % 2 : Nat) : Int) by omega, hz2]; rfl
    clear hz2
    have SQ1 := veil (SQ0.out.more (c := ch.b) (n := 0) (m := k) (lo' := 0) (hi' := k) (last := false) (by rw [HCH.out.1.2, List.length_take, HB.out.hb]; have := HL.out; omega) (Nat.zero_le _) (fun j hj => by rw [HCH.out.1.2, Nat.zero_add]; unfold gb; rw [List.getElem?_take, if_pos (by omega)]) (by have := HL.out; omega) (fun h => by cases h) (fun h => by cases h) (fun x => by omega))
    rw [Nat.add_zero] at SQ1
    have SQ2 := veil (SQ1.out.more (c := cl.b) (n := k) (m := sb.b.length) (lo' := 0) (hi' := sb.b.length) (last := last) (by rw [HCL.out.1.2, List.length_drop]) (by rw [HB.out.hb]; exact HL.out.2.2) (fun j hj => by rw [HCL.out.1.2]; unfold gb; rw [List.getElem?_drop]) (by rw [HB.out.hb]; have := HL.out; omega) (fun h => by cases h) (fun _ => by rw [HB.out.hb]; have := HL.out; omega) (fun x => by rw [HB.out.hb]; have := HL.out; omega))
    rw [← HPK.out] at SQ2
    rw [show max (max 0 pk) (p + sb.b.length) = p + sb.b.length by rw [HB.out.hb]; have := HL.out; have := HPK.out; omega, show ((false || false) || last) = last by simp] at SQ2
    go_wp2_with fail
    refine (put_to (Pc.newS 3000) _ g' m' p ch false w4 0 Q4.out (HCH.out.2 _ (HB.out.below B4.out)) (by rw [HCH.out.1.1]; have := HL.out; omega) (by rw [HCH.out.1.1, SQ0.out.E (by have := HL.out; omega) (fun h => by cases h) (fun h => by cases h)]; rfl) rfl (p : Int) rfl).mono ?_
    rintro e5 w5 ⟨rfl, hq5, hk5⟩
    have Q5 := veil hq5
    have P5 := veil (P4.out.keepP hk5 HG'.out.2.2.1 HG'.out.2.2.2)
    have B5 := veil (B4.out.trans (hk5.two_below (B := w.heap.size) (by have := HG'.out; omega) (by have := HG'.out; omega) B4.out.size))
    clear hq5 hk5 P4 Q4 B4
    go_wp2_with fail
    refine (put_to _ _ g' m' pk cl last w5 0 Q5.out (HCL.out.2 _ (HB.out.below B5.out)) (by rw [HCL.out.1.1]; have := HL.out; omega) (by rw [HCL.out.1.1, SQ1.out.E (by have := HL.out; have := HPK.out; omega) (fun h => by cases h) (fun _ => by have := HL.out; have := HPK.out; omega)]; rfl) rfl (pk : Int) rfl).mono ?_
    rintro e6 w6 ⟨rfl, hq6, hk6⟩
    have Q6 := veil hq6
    have P6 := veil (P5.out.keepP hk6 HG'.out.2.2.1 HG'.out.2.2.2)
    have B6 := veil (B5.out.trans (hk6.two_below (B := w.heap.size) (by have := HG'.out; omega) (by have := HG'.out; omega) B5.out.size))
    clear hq6 hk6 P5 Q5 B5
    obtain ⟨Z1, hz1', bz1, oz1⟩ := HZS.out w6
    have BZ1 := veil bz1
    have OZ1 := veil oz1
    clear bz1 oz1
    go_wp2_with fail
    refine (put_to _ _ g m 0 ⟨some ⟨w6.heap.size, 0, none⟩, p, p, w6.heap.size, 0, List.replicate p 0⟩ false Z1 0 (P6.out.below BZ1.out) OZ1.out (by have := HL.out; show p ≤ _; omega) (by show (Pc.putE _ 0 p false : Int) = _; rw [SP1.out.E (by have := HL.out; omega) (fun _ => by rw [HB.out.hb]; omega) (fun h => by cases h)]; rfl) rfl 0 rfl).mono ?_
    rintro e7 w7 ⟨rfl, hp7, hk7⟩
    have P7 := veil hp7
    have Q7 := veil ((Q6.out.below BZ1.out).keepP hk7 HG'.out.2.1.1 HG'.out.2.1.2)
    have B7 := veil ((B6.out.trans (BZ1.out.mono B6.out.size)).trans (hk7.two_below (B := w.heap.size) (by have := HG.out; omega) (by have := HG.out; omega) (Nat.le_trans B6.out.size BZ1.out.size)))
    clear hp7 hk7 P6 Q6 B6 BZ1 OZ1 hz1'
    obtain ⟨Z2, hz2', bz2, oz2⟩ := HZS.out w7
    have BZ2 := veil bz2
    have OZ2 := veil oz2
    clear bz2 oz2
    go_wp2_with fail
    refine (put_to _ _ g' m' 0 ⟨some ⟨w7.heap.size, 0, none⟩, p, p, w7.heap.size, 0, List.replicate p 0⟩ false Z2 0 (Q7.out.below BZ2.out) OZ2.out (by have := HL.out; show p ≤ _; omega) (by show (Pc.putE _ 0 p false : Int) = _; rw [SQ2.out.E (by have := HL.out; omega) (fun _ => by rw [HB.out.hb]; omega) (fun h => by cases h)]; rfl) rfl 0 rfl).mono ?_
    rintro e8 w8 ⟨rfl, hq8, hk8⟩
    have Q8 := veil hq8
    have P8 := veil ((P7.out.below BZ2.out).keepP hk8 HG'.out.2.2.1 HG'.out.2.2.2)
    have B8 := veil ((B7.out.trans (BZ2.out.mono B7.out.size)).trans (hk8.two_below (B := w.heap.size) (by have := HG'.out; omega) (by have := HG'.out; omega) (Nat.le_trans B7.out.size BZ2.out.size)))
    clear hq8 hk8 P7 Q7 B7 BZ2 OZ2 hz2'
    have WP := veil (SP1.out.whole (by rw [HB.out.hb]; have := HL.out; omega))
    have WQ := veil (SQ2.out.whole (by rw [HB.out.hb]; have := HL.out; omega))
    have HPB := veil (show p + sb.b.length ≤ 3000 by rw [HB.out.hb]; have := HL.out; omega)
    go_wp2_with fail
    refine (take_to _ _ g m 3000 w8 (List.replicate p 0 ++ sb.b) last P8.out (by decide) (WP.out.take HPB.out) rfl (WP.out.ended HPB.out) 3000 rfl).mono ?_
    rintro e9 w9 ⟨sc, rfl, hc9, hp9, hk9⟩
    have Q9 := veil (Q8.out.keepP hk9 HG'.out.2.1.1 HG'.out.2.1.2)
    have B9 := veil (B8.out.trans (hk9.two_below (B := w.heap.size) (by have := HG.out; omega) (by have := HG.out; omega) B8.out.size))
    have XC := veil (show (sc.len = (List.replicate p (0 : By) ++ sb.b).length ∧ sc.b = List.replicate p 0 ++ sb.b) ∧ sc.Ok w9 ∧ (0 < sc.len → ¬ Two g' m' sc.g) from ⟨hc9.1, hc9.2.1, fun h => two_not Q8.out.row.lt Q8.out.map.lt (hc9.2.2 h)⟩)
    clear hc9 hp9 hk9 P8 Q8 B8
    go_wp2_with fail
    refine (take_to _ _ g' m' 3000 w9 (List.replicate p 0 ++ sb.b) last Q9.out (by decide) (WQ.out.take HPB.out) rfl (WQ.out.ended HPB.out) 3000 rfl).mono ?_
    rintro e10 w10 ⟨sd, rfl, hd10, hq10, hk10⟩
    have B10 := veil (B9.out.trans (hk10.two_below (B := w.heap.size) (by have := HG'.out; omega) (by have := HG'.out; omega) B9.out.size))
    have XC' := veil (XC.out.2.1.keepP hk10 XC.out.2.2)
    have XD := veil (show (sd.len = (List.replicate p (0 : By) ++ sb.b).length ∧ sd.b = List.replicate p 0 ++ sb.b) ∧ sd.Ok w10 from ⟨hd10.1, hd10.2.1⟩)
    have hcl2 : (sc.len : Int) = (p : Int) + (sb.len : Int) := by rw [XC.out.1.1, List.length_append, List.length_replicate, HB.out.hb]; omega
    have hcl3 : ((sc.len : Int) == (p : Int) + (sb.len : Int)) = true := by rw [hcl2]; simp
    clear hd10 hq10 hk10 Q9 B9 hcl2
    go_wp2_with fail
    refine (same_sl sc sd w10 XC'.out XD.out.2 (by rw [XC.out.1.2, XD.out.1.2]) (by rw [XC.out.1.1, List.length_append, List.length_replicate, HB.out.hb]; have := HL.out; omega)).mono ?_
    rintro e11 w11 ⟨rfl, hb11⟩
    have B11 := veil (B10.out.trans (hb11.mono B10.out.size))
    clear hb11
    go_wp2_with fail
    go_ret
    exact ⟨rfl, B11.out⟩
  · have d5 : ((z : Int) % 2 == 0) = false := by rw [show (z : Int) % 2 = ((z % 2 : Nat) : Int) by omega]; simp; omega
    clear hz2
    have SQ1 := veil (SQ0'.out.more (c := cl.b) (n := k) (m := sb.b.length) (lo' := k) (hi' := sb.b.length) (last := last) (by rw [HCL.out.1.2, List.length_drop]) (by rw [HB.out.hb]; exact HL.out.2.2) (fun j hj => by rw [HCL.out.1.2]; unfold gb; rw [List.getElem?_drop]) (by rw [HB.out.hb]; have := HL.out; omega) (fun h => by cases h) (fun _ => Nat.zero_le _) (fun x => by omega))
    have SQ2 := veil (SQ1.out.more (c := ch.b) (n := 0) (m := k) (lo' := 0) (hi' := sb.b.length) (last := false) (by rw [HCH.out.1.2, List.length_take, HB.out.hb]; have := HL.out; omega) (Nat.zero_le _) (fun j hj => by rw [HCH.out.1.2, Nat.zero_add]; unfold gb; rw [List.getElem?_take, if_pos (by omega)]) (by have := HL.out; omega) (fun _ => by rw [HB.out.hb]; have := HL.out; omega) (fun h => by cases h) (fun x => by rw [HB.out.hb]; have := HL.out; omega))
    rw [← HPK.out] at SQ1 SQ2
    rw [Nat.add_zero, show max (max 0 (p + sb.b.length)) pk = p + sb.b.length by rw [HB.out.hb]; have := HL.out; have := HPK.out; omega, show ((false || last) || false) = last by simp] at SQ2
    go_wp2_with fail
    refine (put_to (Pc.newS 3000) _ g' m' pk cl last w4 0 Q4.out (HCL.out.2 _ (HB.out.below B4.out)) (by rw [HCL.out.1.1]; have := HL.out; omega) (by rw [HCL.out.1.1, SQ0'.out.E (by have := HL.out; have := HPK.out; omega) (fun h => by cases h) (fun _ => Nat.zero_le _)]; rfl) rfl (pk : Int) rfl).mono ?_
    rintro e5 w5 ⟨rfl, hq5, hk5⟩
    have Q5 := veil hq5
    have P5 := veil (P4.out.keepP hk5 HG'.out.2.2.1 HG'.out.2.2.2)
    have B5 := veil (B4.out.trans (hk5.two_below (B := w.heap.size) (by have := HG'.out; omega) (by have := HG'.out; omega) B4.out.size))
    clear hq5 hk5 P4 Q4 B4
    go_wp2_with fail
    refine (put_to _ _ g' m' p ch false w5 0 Q5.out (HCH.out.2 _ (HB.out.below B5.out)) (by rw [HCH.out.1.1]; have := HL.out; omega) (by rw [HCH.out.1.1, SQ1.out.E (by have := HL.out; omega) (fun _ => by rw [HB.out.hb]; have := HL.out; omega) (fun h => by cases h)]; rfl) rfl (p : Int) rfl).mono ?_
    rintro e6 w6 ⟨rfl, hq6, hk6⟩
    have Q6 := veil hq6
    have P6 := veil (P5.out.keepP hk6 HG'.out.2.2.1 HG'.out.2.2.2)
    have B6 := veil (B5.out.trans (hk6.two_below (B := w.heap.size) (by have := HG'.out; omega) (by have := HG'.out; omega) B5.out.size))
    clear hq6 hk6 P5 Q5 B5
    obtain ⟨Z1, hz1', bz1, oz1⟩ := HZS.out w6
    have BZ1 := veil bz1
    have OZ1 := veil oz1
    clear bz1 oz1
    go_wp2_with fail
    refine (put_to _ _ g m 0 ⟨some ⟨w6.heap.size, 0, none⟩, p, p, w6.heap.size, 0, List.replicate p 0⟩ false Z1 0 (P6.out.below BZ1.out) OZ1.out (by have := HL.out; show p ≤ _; omega) (by show (Pc.putE _ 0 p false : Int) = _; rw [SP1.out.E (by have := HL.out; omega) (fun _ => by rw [HB.out.hb]; omega) (fun h => by cases h)]; rfl) rfl 0 rfl).mono ?_
    rintro e7 w7 ⟨rfl, hp7, hk7⟩
    have P7 := veil hp7
    have Q7 := veil ((Q6.out.below BZ1.out).keepP hk7 HG'.out.2.1.1 HG'.out.2.1.2)
    have B7 := veil ((B6.out.trans (BZ1.out.mono B6.out.size)).trans (hk7.two_below (B := w.heap.size) (by have := HG.out; omega) (by have := HG.out; omega) (Nat.le_trans B6.out.size BZ1.out.size)))
    clear hp7 hk7 P6 Q6 B6 BZ1 OZ1 hz1'
    obtain ⟨Z2, hz2', bz2, oz2⟩ := HZS.out w7
    have BZ2 := veil bz2
    have OZ2 := veil oz2
    clear bz2 oz2
    go_wp2_with fail
    refine (put_to _ _ g' m' 0 ⟨some ⟨w7.heap.size, 0, none⟩, p, p, w7.heap.size, 0, List.replicate p 0⟩ false Z2 0 (Q7.out.below BZ2.out) OZ2.out (by have := HL.out; show p ≤ _; omega) (by show (Pc.putE _ 0 p false : Int) = _; rw [SQ2.out.E (by have := HL.out; omega) (fun _ => by rw [HB.out.hb]; omega) (fun h => by cases h)]; rfl) rfl 0 rfl).mono ?_
    rintro e8 w8 ⟨rfl, hq8, hk8⟩
    have Q8 := veil hq8
    have P8 := veil ((P7.out.below BZ2.out).keepP hk8 HG'.out.2.2.1 HG'.out.2.2.2)
    have B8 := veil ((B7.out.trans (BZ2.out.mono B7.out.size)).trans (hk8.two_below (B := w.heap.size) (by have := HG'.out; omega) (by have := HG'.out; omega) (Nat.le_trans B7.out.size BZ2.out.size)))
    clear hq8 hk8 P7 Q7 B7 BZ2 OZ2 hz2'
    have WP := veil (SP1.out.whole (by rw [HB.out.hb]; have := HL.out; omega))
    have WQ := veil (SQ2.out.whole (by rw [HB.out.hb]; have := HL.out; omega))
    have HPB := veil (show p + sb.b.length ≤ 3000 by rw [HB.out.hb]; have := HL.out; omega)
    go_wp2_with fail
    refine (take_to _ _ g m 3000 w8 (List.replicate p 0 ++ sb.b) last P8.out (by decide) (WP.out.take HPB.out) rfl (WP.out.ended HPB.out) 3000 rfl).mono ?_
    rintro e9 w9 ⟨sc, rfl, hc9, hp9, hk9⟩
    have Q9 := veil (Q8.out.keepP hk9 HG'.out.2.1.1 HG'.out.2.1.2)
    have B9 := veil (B8.out.trans (hk9.two_below (B := w.heap.size) (by have := HG.out; omega) (by have := HG.out; omega) B8.out.size))
    have XC := veil (show (sc.len = (List.replicate p (0 : By) ++ sb.b).length ∧ sc.b = List.replicate p 0 ++ sb.b) ∧ sc.Ok w9 ∧ (0 < sc.len → ¬ Two g' m' sc.g) from ⟨hc9.1, hc9.2.1, fun h => two_not Q8.out.row.lt Q8.out.map.lt (hc9.2.2 h)⟩)
    clear hc9 hp9 hk9 P8 Q8 B8
    go_wp2_with fail
    refine (take_to _ _ g' m' 3000 w9 (List.replicate p 0 ++ sb.b) last Q9.out (by decide) (WQ.out.take HPB.out) rfl (WQ.out.ended HPB.out) 3000 rfl).mono ?_
    rintro e10 w10 ⟨sd, rfl, hd10, hq10, hk10⟩
    have B10 := veil (B9.out.trans (hk10.two_below (B := w.heap.size) (by have := HG'.out; omega) (by have := HG'.out; omega) B9.out.size))
    have XC' := veil (XC.out.2.1.keepP hk10 XC.out.2.2)
    have XD := veil (show (sd.len = (List.replicate p (0 : By) ++ sb.b).length ∧ sd.b = List.replicate p 0 ++ sb.b) ∧ sd.Ok w10 from ⟨hd10.1, hd10.2.1⟩)
    have hcl2 : (sc.len : Int) = (p : Int) + (sb.len : Int) := by rw [XC.out.1.1, List.length_append, List.length_replicate, HB.out.hb]; omega
    have hcl3 : ((sc.len : Int) == (p : Int) + (sb.len : Int)) = true := by rw [hcl2]; simp
    clear hd10 hq10 hk10 Q9 B9 hcl2
    go_wp2_with fail
    refine (same_sl sc sd w10 XC'.out XD.out.2 (by rw [XC.out.1.2, XD.out.1.2]) (by rw [XC.out.1.1, List.length_append, List.length_replicate, HB.out.hb]; have := HL.out; omega)).mono ?_
    rintro e11 w11 ⟨rfl, hb11⟩
    have B11 := veil (B10.out.trans (hb11.mono B10.out.size))
    clear hb11
    go_wp2_with fail
    go_ret
    exact ⟨rfl, B11.out⟩

theorem split_walk (sb : SL) (x y z : Nat) (last : Bool) (w : World) (hb : sb.Ok w) (_ : sb.len ≤ 140737488355328) (_ : x < 65536) (hy : y < 65536) (_ : z < 256) :
    Calls Try.prog 6 #[.slice sb.a sb.len sb.cap, .agg #[.int .u16 (x : Int), .int .u16 (y : Int), .int .u8 (z : Int)], .bool last] w fun e w' => e = .returned (.bool true) ∧ Below w.heap.size w w' := split_any sb x y z last w hb hy
end Go.Proofs.Ytmekhhabkljffaa
