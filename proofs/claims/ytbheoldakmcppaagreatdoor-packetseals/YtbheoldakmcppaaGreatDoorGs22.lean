/-
  Out of PkPlain, PkHead, PkLow, PkLaid, PkKind.
-/
import Derived.Test.YtbheoldakmcppaaGreatDoorGs28
import Derived.Test.YtbheoldakmcppaaGreatDoorGs29
import Derived.Test.YtbheoldakmcppaaGreatDoorGs21
import Derived.Test.YtbheoldakmcppaaGreatDoorGs13
import Derived.Test.YtbheoldakmcppaaGreatDoorGs11
import Derived.Lib.AppendStr

/-! Packets that are sealed, on lists, and the packet that the document fixes: no program in sight. -/
namespace Go.Proofs.YtbheoldakmcppaaGreatDoor
open Go

/-- A header. -/
structure PH where
  long : Bool
  tu : List By
  fr : List By
  num : Nat
  phase : Bool

/-- A header's first byte, ahead of the mask. -/
def firstB (long phase : Bool) (n : Nat) : By := 64#8 ||| BitVec.ofNat 8 (n - 1) ||| (if long then 128#8 else 0#8) ||| (if phase then 4#8 else 0#8)
/-- A number's lowest bytes, the highest first: the last k of them. -/
def lowTo (x n k : Nat) : List By := (List.range n).map fun j => if n ≤ j + k then nb8 x (n - 1 - j) else 0
def lowL (x n : Nat) : List By := (List.range n).map fun j => nb8 x (n - 1 - j)
theorem lowTo_length (x n k : Nat) : (lowTo x n k).length = n := by simp [lowTo]
theorem lowL_length (x n : Nat) : (lowL x n).length = n := by simp [lowL]
theorem lowTo_zero (x n : Nat) : lowTo x n 0 = List.replicate n 0 := by
  apply List.ext_getElem
  · rw [lowTo_length, List.length_replicate]
  · intro j h1 h2
    rw [lowTo_length] at h1
    simp only [lowTo, List.getElem_map, List.getElem_range, List.getElem_replicate]
    rw [if_neg (by omega)]
theorem lowTo_all (x n : Nat) : lowTo x n n = lowL x n := by
  unfold lowTo lowL
  apply List.map_congr_left
  intro j hj
  rw [if_pos (by omega)]
theorem lowTo_set (x n k : Nat) (h : k < n) : (lowTo x n k).set (n - 1 - k) (nb8 x k) = lowTo x n (k + 1) := by
  apply List.ext_getElem
  · rw [List.length_set, lowTo_length, lowTo_length]
  · intro j h1 h2
    have hj : j < n := by rw [lowTo_length] at h2; exact h2
    rw [List.getElem_set]
    simp only [lowTo, List.getElem_map, List.getElem_range]
    by_cases e : n - 1 - k = j
    · rw [if_pos e, if_pos (by omega), show n - 1 - j = k by omega]
    · rw [if_neg e]
      by_cases e2 : n ≤ j + k
      · rw [if_pos e2, if_pos (by omega)]
      · rw [if_neg e2, if_neg (by omega)]
theorem lowL_snoc (x n : Nat) (k : Nat) (h : k < n) : (lowL x n).take (k + 1) = (lowL x n).take k ++ [nb8 x (n - 1 - k)] := by
  rw [List.take_add_one, List.getElem?_eq_getElem (by rw [lowL_length]; exact h)]
  simp [lowL]
/-- What stands ahead of the number. -/
def preL (h : PH) (n rest : Nat) : List By :=
  if h.long then [firstB true h.phase n, 0, 0, 0, 1, BitVec.ofNat 8 h.tu.length] ++ h.tu ++ [BitVec.ofNat 8 h.fr.length] ++ h.fr ++ [0, 64#8 ||| BitVec.ofNat 8 (rest / 256), BitVec.ofNat 8 rest]
  else firstB false h.phase n :: h.tu
def headL (h : PH) (n rest : Nat) : List By := preL h n rest ++ lowL h.num n
theorem preL_length (h : PH) (n rest : Nat) : (preL h n rest).length = if h.long then h.tu.length + h.fr.length + 10 else h.tu.length + 1 := by
  unfold preL
  cases h.long
  · simp
  · simp
    omega
theorem headL_length (h : PH) (n rest : Nat) : (headL h n rest).length = (preL h n rest).length + n := by
  unfold headL
  rw [List.length_append, lowL_length]
/-- Bytes of which the first, and so many from a place on, are masked. -/
def covTo (b : List By) (s k : Nat) (c : By) (m : List By) : List By := (List.range b.length).map fun j => if j = 0 then gb b 0 ^^^ (gb m 0 &&& c) else if s ≤ j ∧ j < s + k then gb b j ^^^ gb m (1 + (j - s)) else gb b j
theorem covTo_length (b : List By) (s k : Nat) (c : By) (m : List By) : (covTo b s k c m).length = b.length := by simp [covTo]
theorem covTo_get (b : List By) (s k : Nat) (c : By) (m : List By) (j : Nat) (h : j < b.length) : gb (covTo b s k c m) j = if j = 0 then gb b 0 ^^^ (gb m 0 &&& c) else if s ≤ j ∧ j < s + k then gb b j ^^^ gb m (1 + (j - s)) else gb b j := by
  simp [covTo, gb, h]
theorem covTo_zero (b : List By) (s : Nat) (c : By) (m : List By) : b.set 0 (gb b 0 ^^^ (gb m 0 &&& c)) = covTo b s 0 c m := by
  apply List.ext_getElem
  · rw [List.length_set, covTo_length]
  · intro j h1 h2
    rw [covTo_length] at h2
    rw [List.getElem_set]
    simp only [covTo, List.getElem_map, List.getElem_range]
    by_cases e : 0 = j
    · rw [if_pos e, if_pos e.symm]
    · rw [if_neg e, if_neg (Ne.symm e), if_neg (by omega)]
      simp [gb, h2]
theorem covTo_succ (b : List By) (s k : Nat) (c : By) (m : List By) (hs : 0 < s) (h : s + k < b.length) : (covTo b s k c m).set (s + k) (gb (covTo b s k c m) (s + k) ^^^ gb m (1 + k)) = covTo b s (k + 1) c m := by
  rw [covTo_get _ _ _ _ _ _ h]
  apply List.ext_getElem
  · rw [List.length_set, covTo_length, covTo_length]
  · intro j h1 h2
    rw [covTo_length] at h2
    rw [List.getElem_set]
    simp only [covTo, List.getElem_map, List.getElem_range]
    by_cases e : s + k = j
    · subst e
      rw [if_pos rfl, if_neg (by omega), if_neg (by omega), if_neg (by omega), if_pos (by omega), show 1 + (s + k - s) = 1 + k by omega]
    · rw [if_neg e]
      by_cases e0 : j = 0
      · rw [if_pos e0, if_pos e0]
      · rw [if_neg e0, if_neg e0]
        by_cases e2 : s ≤ j ∧ j < s + k
        · rw [if_pos e2, if_pos (by omega)]
        · rw [if_neg e2, if_neg (by omega)]
def covB (long : Bool) : By := if long then 15#8 else 31#8
/-- What is sealed, ahead of the mask; and masked. -/
def bareL (h : PH) (n : Nat) (p key iv : List By) : List By := headL h n (n + p.length + 16) ++ sealL key (nonceL iv h.num) p (headL h n (n + p.length + 16))
def sampL (b : List By) (s : Nat) : List By := (b.drop (s + 4)).take 16
def packL (h : PH) (n : Nat) (p key iv mask : List By) : List By := covTo (bareL h n p key iv) (preL h n (n + p.length + 16)).length n (covB h.long) (maskL mask (sampL (bareL h n p key iv) (preL h n (n + p.length + 16)).length))
theorem bareL_length (h : PH) (n : Nat) (p key iv : List By) : (bareL h n p key iv).length = (headL h n (n + p.length + 16)).length + (p.length + 16) := by
  unfold bareL
  rw [List.length_append, sealL_length]
theorem packL_length (h : PH) (n : Nat) (p key iv mask : List By) : (packL h n p key iv mask).length = (headL h n (n + p.length + 16)).length + (p.length + 16) := by
  unfold packL
  rw [covTo_length, bareL_length]
/-- May a header be? -/
def mayP (h : PH) : Bool := decide (h.tu.length ≤ 20) && decide (h.fr.length ≤ 20) && decide (h.num ≤ 4611686018427387903) && (if h.long then !h.phase else decide (h.fr.length = 0))
def keysP (key iv mask : List By) : Bool := decide (key.length = 32) && decide (iv.length = 12) && decide (mask.length = 32)
/-- May it be sealed? -/
def goodP (h : PH) (n : Int) (p key iv mask : List By) : Bool := mayP h && (decide (1 ≤ n) && decide (n ≤ 4)) && (decide (1 ≤ p.length) && decide (4 - n ≤ (p.length : Int))) && keysP key iv mask
def packE (h : PH) (n : Int) (p key iv mask : List By) : Int := if goodP h n p key iv mask then (if (headL h n.toNat (n.toNat + p.length + 16)).length + (p.length + 16) ≤ 1200 then 0 else 3) else 1
def packO (h : PH) (n : Int) (p key iv mask : List By) : List By := if packE h n p key iv mask = 0 then packL h n.toNat p key iv mask else []

/-! ### The chapter's packet -/
def hV13 : PH := ⟨false, [], [], 654360564, false⟩
def headV13 : List By := [66, 0, 191, 244]
def onceV13 : List By := [114, 93, 56, 225, 102, 186, 9, 159, 163, 255, 8, 18, 71, 157, 165, 53, 7, 207, 115, 227, 232, 93, 240, 98, 220, 191, 189, 172, 194, 0, 232, 61]
def str1V13 : List By := [100, 40, 60, 38, 240, 194, 107, 80, 255, 89, 94, 14, 59, 57, 59, 10, 175, 233, 158, 140, 173, 60, 175, 156, 190, 36, 1, 223, 128, 149, 251, 249, 166, 234, 30, 201, 126, 149, 1, 41, 34, 2, 68, 247, 195, 223, 147, 92, 232, 108, 145, 70, 90, 84, 30, 52, 117, 33, 128, 74, 120, 65, 235, 86]
def tagV13 : List By := [94, 92, 213, 92, 65, 246, 144, 128, 87, 93, 121, 153, 194, 90, 91, 251]
def packV13 : List By := [76, 254, 65, 137, 101, 94, 92, 213, 92, 65, 246, 144, 128, 87, 93, 121, 153, 194, 90, 91, 251]
set_option maxRecDepth 100000 in
theorem once_v13 : (blockL keyV12 0 nonV12).take 32 = onceV13 := by rw [blockL_S]; decide +kernel
set_option maxRecDepth 100000 in
theorem str1_v13 : blockL keyV12 1 nonV12 = str1V13 := by rw [blockL_S]; decide +kernel
theorem sb_v13 : sbTo keyV12 1 nonV12 1 = [100] := by
  apply gb_ext
  · rw [sbTo_length]; rfl
  · intro p hp
    rw [sbTo_length] at hp
    rw [sbTo_get _ _ _ _ _ hp]
    unfold sby
    obtain rfl : p = 0 := by omega
    rw [show 0 / 64 = 0 by omega, show 0 % 64 = 0 by omega, cnt_zero, str1_v13]
    rfl
set_option maxRecDepth 100000 in
theorem hidden_v13 : xorL keyV12 1 nonV12 [1] = [101] := by
  unfold xorL
  rw [show ([1] : List By).length = 1 from rfl, sb_v13]
  decide +kernel
theorem plain_v13 : xorL keyV12 1 nonV12 [101] = [1] := by
  unfold xorL
  rw [show ([101] : List By).length = 1 from rfl, sb_v13]
  decide +kernel
set_option maxRecDepth 100000 in
theorem tagged_v13 : tagL onceV13 (taggedL headV13 [101]) = tagV13 := by decide +kernel
theorem mark_v13 : markL keyV12 nonV12 [101] headV13 = tagV13 := by
  unfold markL
  rw [once_v13, tagged_v13]
theorem seal_v13 : sealL keyV12 nonV12 [1] headV13 = 101 :: tagV13 := by
  unfold sealL
  rw [hidden_v13, mark_v13]
  rfl
theorem head_v13 : headL hV13 3 20 = headV13 := by decide +kernel
theorem pre_v13 : (preL hV13 3 20).length = 1 := rfl
theorem bare_v13 : bareL hV13 3 [1] keyV12 ivV12 = headV13 ++ 101 :: tagV13 := by
  unfold bareL
  rw [show 3 + ([1] : List By).length + 16 = 20 from rfl, head_v13, show hV13.num = 654360564 from rfl, vec_non12, seal_v13]
theorem pack_v13 : packL hV13 3 [1] keyV12 ivV12 hpV12 = packV13 := by
  unfold packL
  rw [bare_v13, show 3 + ([1] : List By).length + 16 = 20 from rfl, pre_v13, show sampL (headV13 ++ 101 :: tagV13) 1 = sampV from by decide +kernel, vec_mask12]
  decide +kernel
theorem packE_v13 : packE hV13 3 [1] keyV12 ivV12 hpV12 = 0 := by decide +kernel
theorem packO_v13 : packO hV13 3 [1] keyV12 ivV12 hpV12 = packV13 := by
  unfold packO
  rw [if_pos packE_v13]
  exact pack_v13
end Go.Proofs.YtbheoldakmcppaaGreatDoor

/-! Headers in memory; what packet.firstOf, lowest, mayBe, mayBeKeys answer. -/
namespace Go.Proofs.YtbheoldakmcppaaGreatDoor
open Go Go.RowKit

/-- A header in memory. -/
structure HD where
  long : Bool
  tu : SL
  fr : SL
  num : Nat
  phase : Bool
abbrev headC (l : Bool) (t f : Value) (n : Nat) (p : Bool) : Array Value := #[.bool l, t, f, .int .u64 (n : Int), .bool p]
def HD.cells (h : HD) : Array Value := headC h.long (.slice h.tu.a h.tu.len h.tu.cap) (.slice h.fr.a h.fr.len h.fr.cap) h.num h.phase
def HD.ph (h : HD) : PH := ⟨h.long, h.tu.b, h.fr.b, h.num, h.phase⟩
structure HD.Ok (h : HD) (w : World) : Prop where
  tu : h.tu.Ok w
  fr : h.fr.Ok w
theorem HD.Ok.below {h : HD} {w w' : World} (k : h.Ok w) (hb : Below w.heap.size w w') : h.Ok w' := ⟨k.tu.below hb, k.fr.below hb⟩
theorem HD.Ok.alloc {h : HD} {w : World} (k : h.Ok w) (o : Obj) : h.Ok (w.alloc o) := ⟨k.tu.alloc o, k.fr.alloc o⟩
/-- Keys in memory. -/
structure KS where
  key : SL
  iv : SL
  mask : SL
def KS.cells (k : KS) : Array Value := keysC (.slice k.key.a k.key.len k.key.cap) (.slice k.iv.a k.iv.len k.iv.cap) (.slice k.mask.a k.mask.len k.mask.cap)
structure KS.Ok (k : KS) (w : World) : Prop where
  key : k.key.Ok w
  iv : k.iv.Ok w
  mask : k.mask.Ok w
theorem KS.Ok.below {k : KS} {w w' : World} (h : k.Ok w) (hb : Below w.heap.size w w') : k.Ok w' := ⟨h.key.below hb, h.iv.below hb, h.mask.below hb⟩
theorem KS.Ok.alloc {k : KS} {w : World} (h : k.Ok w) (o : Obj) : k.Ok (w.alloc o) := ⟨h.key.alloc o, h.iv.alloc o, h.mask.alloc o⟩

set_option maxRecDepth 20000 in
set_option maxHeartbeats 2000000 in
theorem firstOf_any (h : HD) (n : Nat) (w : World) (h1 : 1 ≤ n) (h4 : n ≤ 4) :
    Calls Tryz.prog 72 #[.agg h.cells, .int .i64 (n : Int)] w fun e w' => e = .returned (.int .u8 (v8 (firstB h.long h.phase n))) ∧ Below w.heap.size w w' := by
  have hn : n = 1 ∨ n = 2 ∨ n = 3 ∨ n = 4 := by omega
  obtain ⟨l, tu, fr, num, ph⟩ := h
  have B1 := veil ((Below.refl w.heap.size w).alloc (Nat.le_refl _) (.cells (headC l (.slice tu.a tu.len tu.cap) (.slice fr.a fr.len fr.cap) num ph) 25))
  have r : Row (w.alloc (.cells (headC l (.slice tu.a tu.len tu.cap) (.slice fr.a fr.len fr.cap) num ph) 25)) w.heap.size 25 (headC l (.slice tu.a tu.len tu.cap) (.slice fr.a fr.len fr.cap) num ph) := Row.new _ _ _
  have c0 := r.cell 0
  have c4 := r.cell 4
  clear r
  unfold HD.cells
  cases l <;> cases ph <;> rcases hn with rfl | rfl | rfl | rfl
  all_goals
    go_enter Tryz.func72, Tryz.ntmps72
    go_wp2_with fail
    go_ret
    exact ⟨rfl, B1.out⟩
end Go.Proofs.YtbheoldakmcppaaGreatDoor

/-! What packet.lowest, mayBe, mayBeKeys answer. -/
namespace Go.Proofs.YtbheoldakmcppaaGreatDoor
open Go Go.RowKit

theorem pkMade_vb (n : Nat) : (madeCells (Value.int .u8 0).cells (n * 1)).toList = vb (List.replicate n 0) := by
  unfold madeCells vb
  apply List.ext_getElem
  · simp [Value.cells]
  · intro i h1 h2
    simp [Value.cells, v8, Nat.mod_one]
theorem vb_set (xs : List By) (j : Nat) (b : By) : (vb xs).set j (.int .u8 (v8 b)) = vb (xs.set j b) := by
  unfold vb
  rw [List.map_set]
/-- One byte of a row of the call's own is written. -/
theorem own_setB {w : World} {base n g cap j : Nat} {xs : List By} (h : w.ownsRow base 5 1 (.slice (some ⟨g, 0, none⟩) n cap) n (vb xs)) (b : By) : (w.setCell ⟨g, j, none⟩ (.int .u8 (v8 b))).ownsRow base 5 1 (.slice (some ⟨g, 0, none⟩) n cap) n (vb (xs.set j b)) := by
  rw [← vb_set]
  obtain ⟨h1, h2⟩ := h
  refine ⟨by rw [List.length_set]; exact h1, ?_⟩
  rcases h2 with ⟨h3, _⟩ | ⟨g', c', cur, h3, h4, h5, h6, h7, h8, h9⟩
  · cases h3
  · injection h3 with e1 e2 e3
    injection e1 with e1
    injection e1 with e1
    subst e1 e3
    refine .inr ⟨g, cap, cur.setIfInBounds j (.int .u8 (v8 b)), rfl, h4, (show Row w g 5 cur from h5).set j (.int .u8 (v8 b)), h6, h7, by rw [Array.size_setIfInBounds]; exact h8, ?_⟩
    rw [Array.toList_setIfInBounds, List.take_set, h9]
theorem own_cellB {w : World} {base n g cap j : Nat} {xs : List By} (h : w.ownsRow base 5 1 (.slice (some ⟨g, 0, none⟩) n cap) n (vb xs)) (hj : j < xs.length) : w.cell? ⟨g, j, none⟩ = some (.int .u8 (v8 (gb xs j))) := by
  have := h.cells (g := g) rfl j _ (vb_get xs j hj)
  rw [add_off] at this
  exact this
theorem own_frozenB {w : World} {base n g cap j : Nat} {xs : List By} (h : w.ownsRow base 5 1 (.slice (some ⟨g, 0, none⟩) n cap) n (vb xs)) : w.frozen? ⟨g, j, none⟩ = false := by
  rcases h.2 with ⟨h3, _⟩ | ⟨g', c', cur, h3, h4, h5, h6, h7, h8, h9⟩
  · cases h3
  · injection h3 with e1 e2 e3
    injection e1 with e1
    injection e1 with e1
    subst e1 e3
    exact (show Row w g 5 cur from h5).frozen j

set_option maxRecDepth 20000 in
set_option maxHeartbeats 1000000 in
theorem lowest_any (x n : Nat) (w : World) (hn1 : 1 ≤ n) (hn : n ≤ 4) (_hx : x < 18446744073709551616) :
    Calls Tryz.prog 73 #[.int .u64 (x : Int), .int .i64 (n : Int)] w fun e w' => ∃ g, e = .returned (.slice (some ⟨g, 0, none⟩) n n) ∧ w'.ownsRow w.heap.size 5 1 (.slice (some ⟨g, 0, none⟩) n n) n (vb (lowL x n)) ∧ Below w.heap.size w w' := by
  obtain ⟨i0, hi, hz0, hz1, hz2⟩ := info_parts (P := Tryz.prog) (e := 5) (z := .int .u8 0) (size := 1) (bytes := 1) (by kernel_rfl)
  go_enter Tryz.func73, Tryz.ntmps73
  go_wp2_with (first
    | (with_reducible (show wpList _ _ _ (⟨_, Op.makeSlice _ _ _, _, _, _, _⟩ :: _) _ _)
       refine wpList_make_full w rfl _ _ 22 rfl w.heap.size 5 i0 (.int .u8 0) 1 Tryz.underlying22 hi hz0 hz1 .i64 .i64 n n n rfl rfl rfl rfl (by rw [hz2]; omega) (by unfold maxLen; omega) (Nat.le_refl _) ?_
       intro w1 own1 grow1))
  rw [pkMade_vb, ← lowTo_zero x n] at own1
  have B1 := veil ((Below.refl w.heap.size w).grown grow1 (Nat.le_refl _) (fun q e => by cases e))
  have O1 := veil own1
  clear own1 grow1
  obtain ⟨G, hG⟩ : ∃ G, w.heap.size = G := ⟨_, rfl⟩
  rw [hG] at O1 B1
  rw [hG]
  have HG := veil hG
  clear hG
  go_wp2_with fail
  go_loopw [11] (fun i wr => ∃ t : Nat, t ≤ n ∧ i = .int .i64 (t : Int) ∧ wr.ownsRow G 5 1 (.slice (some ⟨G, 0, none⟩) n n) n (vb (lowTo x n t)) ∧ Below G w wr)
    (fun i _ => n - (intOf i).toNat)
  case atStart => exact ⟨0, Nat.zero_le _, rfl, O1.out, B1.out⟩
  case round =>
    obtain ⟨t, ht, rfl, hr, hbel⟩ := hrel
    have HR := veil hr
    have HB := veil hbel
    clear hr hbel
    by_cases hlt : t < n
    · have hc := own_cellB HR.out (j := n - 1 - t) (by rw [lowTo_length]; omega)
      have hf := own_frozenB (j := n - 1 - t) HR.out
      obtain ⟨J, hJ⟩ : ∃ J : Nat, n - 1 - t = J := ⟨_, rfl⟩
      have hsub : (n : Int) - 1 - (t : Int) = (J : Int) := by omega
      rw [hJ] at hc hf
      have hJn : J < n := by omega
      obtain ⟨T8, hT8⟩ : ∃ T8 : Nat, 8 * t = T8 := ⟨_, rfl⟩
      have hmul : (8 : Int) * (t : Int) = (T8 : Int) := by omega
      have hT64 : T8 < 64 := by omega
      have hshr := nb8_shr x t
      rw [hT8] at hshr
      have HJ := veil hJ
      clear hJ hT8
      go_wp2_with fail
      have hr2 : (wr.setCell ⟨G, J, none⟩ (.int .u8 (v8 (nb8 x t)))).ownsRow G 5 1 (.slice (some ⟨G, 0, none⟩) n n) n (vb (lowTo x n (t + 1))) := by
        have := own_setB (j := J) HR.out (nb8 x t)
        have e := lowTo_set x n t hlt
        rw [HJ.out] at e
        rw [e] at this
        exact this
      have b3 : Below G w (wr.setCell ⟨G, J, none⟩ (.int .u8 (v8 (nb8 x t)))) := HB.out.setCell (p := ⟨G, J, none⟩) (Nat.le_refl _) _
      have HR2 := veil hr2
      have HB3 := veil b3
      clear hr2 b3 hc hf hshr
      go_wp2_with fail
      go_roundw
      case rel => exact ⟨t + 1, by omega, by go_num, HR2.out, HB3.out⟩
      case measure => simp [intOf]; omega
    · obtain rfl : t = n := by omega
      clear hlt ht
      go_wp2_with fail
      go_ret
      exact ⟨G, rfl, by rw [← lowTo_all, HG.out]; exact HR.out, by rw [HG.out]; exact HB.out⟩

set_option maxRecDepth 20000 in
set_option maxHeartbeats 2000000 in
theorem mayBe_any (h : HD) (w : World) (hk : h.Ok w) :
    Calls Tryz.prog 18 #[.agg h.cells] w fun e w' => e = .returned (.bool (mayP h.ph)) ∧ Below w.heap.size w w' := by
  have e1 := hk.tu.hb
  have e2 := hk.fr.hb
  unfold mayP HD.ph
  simp only
  rw [e1, e2]
  clear e1 e2 hk
  obtain ⟨l, ⟨ta, tl, tc, _, _, _⟩, ⟨fa, fl, fc, _, _, _⟩, num, ph⟩ := h
  simp only
  have B1 := veil ((Below.refl w.heap.size w).alloc (Nat.le_refl _) (.cells (headC l (.slice ta tl tc) (.slice fa fl fc) num ph) 25))
  have r : Row (w.alloc (.cells (headC l (.slice ta tl tc) (.slice fa fl fc) num ph) 25)) w.heap.size 25 (headC l (.slice ta tl tc) (.slice fa fl fc) num ph) := Row.new _ _ _
  have c0 := r.cell 0
  have c1 := r.cell 1
  have c2 := r.cell 2
  have c3 := r.cell 3
  have c4 := r.cell 4
  clear r
  unfold HD.cells
  simp only
  by_cases h1 : tl ≤ 20
  · by_cases h2 : fl ≤ 20
    · by_cases h3 : num ≤ 4611686018427387903
      · rw [decide_eq_true h1, decide_eq_true h2, decide_eq_true h3]
        cases l
        · by_cases h4 : fl = 0
          · rw [decide_eq_true h4]
            subst h4
            go_enter Tryz.func18, Tryz.ntmps18
            go_wp2_with fail
            go_ret
            exact ⟨rfl, B1.out⟩
          · rw [decide_eq_false h4]
            have h5 : ((fl : Int) == 0) = false := by simp; omega
            go_enter Tryz.func18, Tryz.ntmps18
            go_wp2_with fail
            go_ret
            exact ⟨rfl, B1.out⟩
        · cases ph
          all_goals
            go_enter Tryz.func18, Tryz.ntmps18
            go_wp2_with fail
            go_ret
            exact ⟨rfl, B1.out⟩
      · rw [decide_eq_false h3, Bool.and_false, Bool.false_and]
        go_enter Tryz.func18, Tryz.ntmps18
        go_wp2_with fail
        go_ret
        exact ⟨rfl, B1.out⟩
    · rw [decide_eq_false h2, Bool.and_false, Bool.false_and, Bool.false_and]
      go_enter Tryz.func18, Tryz.ntmps18
      go_wp2_with fail
      go_ret
      exact ⟨rfl, B1.out⟩
  · rw [decide_eq_false h1, Bool.false_and, Bool.false_and, Bool.false_and]
    go_enter Tryz.func18, Tryz.ntmps18
    go_wp2_with fail
    go_ret
    exact ⟨rfl, B1.out⟩

set_option maxRecDepth 20000 in
set_option maxHeartbeats 2000000 in
theorem mayBeKeys_any (k : KS) (w : World) (hk : k.Ok w) :
    Calls Tryz.prog 20 #[.agg k.cells] w fun e w' => e = .returned (.bool (keysP k.key.b k.iv.b k.mask.b)) ∧ Below w.heap.size w w' := by
  have e1 := hk.key.hb
  have e2 := hk.iv.hb
  have e3 := hk.mask.hb
  unfold keysP
  rw [e1, e2, e3]
  clear e1 e2 e3 hk
  obtain ⟨⟨ka, kl, kc, _, _, _⟩, ⟨va, vl, vc, _, _, _⟩, ⟨ma, ml, mc, _, _, _⟩⟩ := k
  simp only
  have B1 := veil ((Below.refl w.heap.size w).alloc (Nat.le_refl _) (.cells (keysC (.slice ka kl kc) (.slice va vl vc) (.slice ma ml mc)) 27))
  have r : Row (w.alloc (.cells (keysC (.slice ka kl kc) (.slice va vl vc) (.slice ma ml mc)) 27)) w.heap.size 27 (keysC (.slice ka kl kc) (.slice va vl vc) (.slice ma ml mc)) := Row.new _ _ _
  have c0 := r.cell 0
  have c1 := r.cell 1
  have c2 := r.cell 2
  clear r
  unfold KS.cells
  simp only
  by_cases h1 : kl = 32
  · subst h1
    by_cases h2 : vl = 12
    · subst h2
      by_cases h3 : ml = 32
      · subst h3
        go_enter Tryz.func20, Tryz.ntmps20
        go_wp2_with fail
        go_ret
        exact ⟨rfl, B1.out⟩
      · rw [decide_eq_false h3, Bool.and_false]
        have h5 : ((ml : Int) == 32) = false := by simp; omega
        go_enter Tryz.func20, Tryz.ntmps20
        go_wp2_with fail
        go_ret
        exact ⟨rfl, B1.out⟩
    · rw [decide_eq_false h2, Bool.and_false, Bool.false_and]
      have h5 : ((vl : Int) == 12) = false := by simp; omega
      go_enter Tryz.func20, Tryz.ntmps20
      go_wp2_with fail
      go_ret
      exact ⟨rfl, B1.out⟩
  · rw [decide_eq_false h1, Bool.false_and, Bool.false_and]
    have h5 : ((kl : Int) == 32) = false := by simp; omega
    go_enter Tryz.func20, Tryz.ntmps20
    go_wp2_with fail
    go_ret
    exact ⟨rfl, B1.out⟩
end Go.Proofs.YtbheoldakmcppaaGreatDoor

/-! What packet.laid answers. Written by mklaid.py. -/
namespace Go.Proofs.YtbheoldakmcppaaGreatDoor
open Go Go.RowKit

theorem own_litB (w : World) (b : List By) (h : b.length ≤ maxLen) : (w.alloc (.cells (vb b).toArray 5)).ownsRow w.heap.size 5 1 (.slice (some ⟨w.heap.size, 0, none⟩) b.length b.length) b.length (vb b) := by
  refine ⟨by simp [vb], .inr ⟨w.heap.size, b.length, (vb b).toArray, rfl, Nat.le_refl _, Row.new _ _ _, Nat.le_refl _, h, by simp [vb], ?_⟩⟩
  rw [List.take_of_length_le (by simp [vb])]
theorem ver_cells : Lib.strCells { data := #[0, 0, 0, 1] } = vb [0, 0, 0, 1] := by rfl
theorem b8o (a b : By) : bits .or .u8 (v8 a) (v8 b) = v8 (a ||| b) := by
  rw [u8_or _ _ (v8_nn a) (by have := v8_le a; omega) (v8_nn b) (by have := v8_le b; omega)]
  unfold v8
  rw [BitVec.toNat_or]
  simp
theorem v8_len (n : Nat) : v8 (BitVec.ofNat 8 n) = (n : Int) % 256 := by
  unfold v8
  rw [BitVec.toNat_ofNat]
  omega
theorem own_okB {w : World} {B g n c : Nat} {xs : List By} (h : w.ownsRow B 5 1 (.slice (some ⟨g, 0, none⟩) n c) n (vb xs)) : (⟨some ⟨g, 0, none⟩, n, c, g, 0, xs⟩ : SL).Ok w := by
  obtain ⟨s, hv, hl, hb, hok, _⟩ := SL.of_own h
  have hxl : xs.length = n := by rw [← hb, hok.hb, hl]
  have hc : n ≤ c := by
    rcases h.2 with ⟨h3, _⟩ | ⟨g', c', cur, h3, _, _, h6, _⟩
    · cases h3
    · injection h3 with _ _ e3
      omega
  refine ⟨hxl, hc, (fun e => by cases e), fun _ => rfl, fun _ => (h.lt g rfl).2, fun j hj => ?_⟩
  have := own_cellB h (j := j) (by rw [hxl]; exact hj)
  show w.cell? ⟨g, 0 + j, none⟩ = _
  rw [Nat.zero_add]
  exact this
section
variable {h : HD} {w : World} {G : Nat} {t : TypeId} (r : Row w G t h.cells)
include r
theorem HD.c0 : w.cell? ⟨G, 0, none⟩ = some (.bool h.long) := r.cell 0
theorem HD.c1 : w.cell? ⟨G, 1, none⟩ = some (.slice h.tu.a h.tu.len h.tu.cap) := r.cell 1
theorem HD.c2 : w.cell? ⟨G, 2, none⟩ = some (.slice h.fr.a h.fr.len h.fr.cap) := r.cell 2
theorem HD.c3 : w.cell? ⟨G, 3, none⟩ = some (.int .u64 (h.num : Int)) := r.cell 3
theorem HD.c4 : w.cell? ⟨G, 4, none⟩ = some (.bool h.phase) := r.cell 4
end

set_option maxRecDepth 20000 in
set_option maxHeartbeats 1000000 in
theorem laid_short (h : HD) (n rest : Nat) (w : World) (hk : h.Ok w) (h1 : 1 ≤ n) (h4 : n ≤ 4) (ht : h.tu.len ≤ 20) (hx : h.num < 18446744073709551616) (hl : h.long = false) :
    Calls Tryz.prog 21 #[.agg h.cells, .int .i64 (n : Int), .int .i64 (rest : Int)] w fun e w' => ∃ v, e = .returned v ∧ w'.ownsRow w.heap.size 5 1 v (headL h.ph n rest).length (vb (headL h.ph n rest)) ∧ Below w.heap.size w w' := by
  obtain ⟨i0, hi, hz0, hz1, hz2⟩ := info_parts (P := Tryz.prog) (e := 5) (z := .int .u8 0) (size := 1) (bytes := 1) (by kernel_rfl)
  have FC := veil (fun w => firstOf_any h n w h1 h4)
  have LC := veil (fun w => lowest_any h.num n w h1 h4 hx)
  have b0 := (Below.refl w.heap.size w).alloc (Nat.le_refl _) (.cells h.cells 25)
  have r : Row (w.alloc (.cells h.cells 25)) w.heap.size 25 h.cells := Row.new _ _ _
  have K0 := veil (hk.alloc (.cells h.cells 25))
  have hs0 : w.heap.size < (w.alloc (.cells h.cells 25)).heap.size := r.lt
  have R0 := veil r
  have B0 := veil b0
  have HL := veil hl
  have tb := hk.tu.hb
  have TB := veil tb

  clear hk b0 r hl hx tb
  go_enter Tryz.func21, Tryz.ntmps21
  go_wp2_with (first
    | (with_reducible (show wpList _ _ _ (⟨_, Op.load 25 _, _, _, _, _⟩ :: _) _ _)
       refine wpList_load_row rfl 25 _ rfl w.heap.size rfl 25 h.cells (0, 0) _ R0.out Tryz.underlying25 rfl (by rfl) ?_))
  refine (FC.out _).mono ?_
  rintro e1 w1 ⟨rfl, hb1⟩
  rw [HL.out]
  have B1 := veil (B0.out.trans (hb1.mono B0.out.size))
  have K1 := veil (K0.out.below hb1)
  have R1 := veil (R0.out.below hb1 R0.out.lt)
  have S1 := veil (show w.heap.size < w1.heap.size from Nat.lt_of_lt_of_le hs0 hb1.size)
  obtain ⟨G, hG⟩ : ∃ G, w.heap.size = G := ⟨_, rfl⟩
  rw [hG] at R1
  rw [hG]
  have HG := veil hG
  clear hb1 K0 R0 B0 hs0 hG FC
  have O2 : Hid ((w1.alloc (.cells #[.int .u8 (v8 (firstB false h.phase n))] 5)).ownsRow w1.heap.size 5 1 (.slice (some ⟨w1.heap.size, 0, none⟩) 1 1) 1 (vb [firstB false h.phase n])) := own_litB w1 [firstB false h.phase n] (by unfold maxLen; simp)
  have D2 := veil ((Below.refl w1.heap.size w1).alloc (Nat.le_refl _) (.cells #[.int .u8 (v8 (firstB false h.phase n))] 5))
  have R2 := veil (R1.out.below D2.out R1.out.lt)
  have K2 := veil (K1.out.below D2.out)
  have Z2 := veil D2.out.size
  have c0 := HD.c0 R2.out
  rw [HL.out] at c0
  have c1 := HD.c1 R2.out
  go_wp2_with (first
    | (with_reducible (show wpList _ _ _ (⟨some 27, Op.call _, _, _, _, _⟩ :: _) _ _)
       refine append_sl rfl _ _ 22 rfl w1.heap.size i0 Tryz.underlying22 hi hz0 hz1 hz2 _ 1 _ rfl O2.out h.tu K2.out.tu rfl (by omega) Z2.out ?_
       intro v3 w3 own3 grow3
       have D3 := veil (D2.out.grown grow3 Z2.out (fun q e => (O2.out.lt q e).1))
       have O3 := veil own3
       clear own3 grow3 O2 D2 K2 R2 Z2 c0 c1
       have R3 := veil (R1.out.below D3.out R1.out.lt)
       have Z3 := veil D3.out.size
       have c0 := HD.c0 R3.out
       rw [HL.out] at c0
       have c3 := HD.c3 R3.out))
  refine (LC.out _).mono ?_
  rintro e4 w4 ⟨g, rfl, own4, hb4⟩
  have D4 := veil (D3.out.trans (hb4.mono Z3.out))
  have Z4 := veil D4.out.size
  have O4 := veil (own_below O3.out hb4)
  have Q4 := veil (own_okB own4)
  clear own4 hb4 O3 D3 R3 Z3 c0 c3
  go_wp2_with (first
    | (with_reducible (show wpList _ _ _ (⟨some 56, Op.call _, _, _, _, _⟩ :: _) _ _)
       refine append_sl rfl _ _ 22 rfl w1.heap.size i0 Tryz.underlying22 hi hz0 hz1 hz2 _ (1 + h.tu.len) _ rfl O4.out ⟨some ⟨g, 0, none⟩, n, n, g, 0, lowL h.num n⟩ Q4.out rfl (by show 1 + h.tu.len + n ≤ 8388608; omega) Z4.out ?_
       intro v5 w5 own5 grow5))
  have D5 := veil (D4.out.grown grow5 Z4.out (fun q e => (O4.out.lt q e).1))
  have O5 := veil own5
  clear own5 grow5 O4 D4 Z4 Q4
  go_wp2_with fail
  go_ret
  have hd : headL h.ph n rest = [firstB false h.phase n] ++ h.tu.b ++ lowL h.num n := by
    unfold headL preL HD.ph
    simp only
    rw [HL.out]
    rfl
  have hlen : (headL h.ph n rest).length = 1 + h.tu.len + n := by
    rw [hd]
    simp only [List.length_append, List.length_cons, List.length_nil, lowL_length, TB.out]
  refine ⟨_, rfl, ?_, B1.out.trans (D5.out.mono B1.out.size)⟩
  rw [hlen, hd]
  exact own_low O5.out B1.out.size

set_option maxRecDepth 20000 in
set_option maxHeartbeats 1000000 in
theorem laid_long (h : HD) (n rest : Nat) (w : World) (hk : h.Ok w) (h1 : 1 ≤ n) (h4 : n ≤ 4) (ht : h.tu.len ≤ 20) (hf : h.fr.len ≤ 20) (hx : h.num < 18446744073709551616) (hl : h.long = true) :
    Calls Tryz.prog 21 #[.agg h.cells, .int .i64 (n : Int), .int .i64 (rest : Int)] w fun e w' => ∃ v, e = .returned v ∧ w'.ownsRow w.heap.size 5 1 v (headL h.ph n rest).length (vb (headL h.ph n rest)) ∧ Below w.heap.size w w' := by
  obtain ⟨i0, hi, hz0, hz1, hz2⟩ := info_parts (P := Tryz.prog) (e := 5) (z := .int .u8 0) (size := 1) (bytes := 1) (by kernel_rfl)
  have FC := veil (fun w => firstOf_any h n w h1 h4)
  have LC := veil (fun w => lowest_any h.num n w h1 h4 hx)
  have b0 := (Below.refl w.heap.size w).alloc (Nat.le_refl _) (.cells h.cells 25)
  have r : Row (w.alloc (.cells h.cells 25)) w.heap.size 25 h.cells := Row.new _ _ _
  have K0 := veil (hk.alloc (.cells h.cells 25))
  have hs0 : w.heap.size < (w.alloc (.cells h.cells 25)).heap.size := r.lt
  have R0 := veil r
  have B0 := veil b0
  have HL := veil hl
  have tb := hk.tu.hb
  have TB := veil tb
  have FB := veil hk.fr.hb
  clear hk b0 r hl hx tb
  go_enter Tryz.func21, Tryz.ntmps21
  go_wp2_with (first
    | (with_reducible (show wpList _ _ _ (⟨_, Op.load 25 _, _, _, _, _⟩ :: _) _ _)
       refine wpList_load_row rfl 25 _ rfl w.heap.size rfl 25 h.cells (0, 0) _ R0.out Tryz.underlying25 rfl (by rfl) ?_))
  refine (FC.out _).mono ?_
  rintro e1 w1 ⟨rfl, hb1⟩
  rw [HL.out]
  have B1 := veil (B0.out.trans (hb1.mono B0.out.size))
  have K1 := veil (K0.out.below hb1)
  have R1 := veil (R0.out.below hb1 R0.out.lt)
  have S1 := veil (show w.heap.size < w1.heap.size from Nat.lt_of_lt_of_le hs0 hb1.size)
  obtain ⟨G, hG⟩ : ∃ G, w.heap.size = G := ⟨_, rfl⟩
  rw [hG] at R1
  rw [hG]
  have HG := veil hG
  clear hb1 K0 R0 B0 hs0 hG FC
  have HE1 : Hid (bits .or .u8 64 ((rest : Int) / 256 % 256) = v8 (64#8 ||| BitVec.ofNat 8 (rest / 256))) := by
    rw [← b8o, v8_len]
    rfl
  have HE2 : Hid ((rest : Int) % 256 = v8 (BitVec.ofNat 8 rest)) := (v8_len rest).symm
  have HV := veil (show (h.tu.len : Int) = v8 (BitVec.ofNat 8 h.tu.len) by rw [v8_len]; omega)
  have HW := veil (show (h.fr.len : Int) = v8 (BitVec.ofNat 8 h.fr.len) by rw [v8_len]; omega)
  have O2 : Hid ((w1.alloc (.cells #[.int .u8 (v8 (firstB true h.phase n))] 5)).ownsRow w1.heap.size 5 1 (.slice (some ⟨w1.heap.size, 0, none⟩) 1 1) 1 (vb [firstB true h.phase n])) := own_litB w1 [firstB true h.phase n] (by unfold maxLen; simp)
  have D2 := veil ((Below.refl w1.heap.size w1).alloc (Nat.le_refl _) (.cells #[.int .u8 (v8 (firstB true h.phase n))] 5))
  have R2 := veil (R1.out.below D2.out R1.out.lt)
  have Z2 := veil D2.out.size
  have c0 := HD.c0 R2.out
  rw [HL.out] at c0
  go_wp2_with (first
    | (with_reducible (show wpList _ _ _ (⟨some 16, Op.call _, _, _, _, _⟩ :: _) _ _)
       refine Lib.wpList_append_own_string _ rfl _ _ 22 9 rfl w1.heap.size 5 i0 Tryz.underlying22 Tryz.underlying9 hi hz0 hz1 hz2 _ 1 _ rfl O2.out { data := #[0, 0, 0, 1] } rfl (by unfold maxLen; decide) (by decide) Z2.out ?_
       intro v3 w3 own3 grow3 _
       rw [ver_cells] at own3
       have D3 := veil (D2.out.grown grow3 Z2.out (fun q e => (O2.out.lt q e).1))
       have O3 : Hid (w3.ownsRow w1.heap.size 5 1 v3 5 (vb [firstB true h.phase n, 0, 0, 0, 1])) := own3
       clear own3 grow3 O2 D2 R2 Z2 c0
       have R3 := veil (R1.out.below D3.out R1.out.lt)
       have K3 := veil (K1.out.below D3.out)
       have Z3 := veil D3.out.size
       have c1 := HD.c1 R3.out)
    | (with_reducible (show wpList _ _ _ (⟨some 23, Op.call _, _, _, _, _⟩ :: _) _ _)
       rw [HV.out]
       have D4 := veil (D3.out.alloc Z3.out (.cells #[.int .u8 (v8 (BitVec.ofNat 8 h.tu.len))] 5))
       have Z4 := veil D4.out.size
       have O4 := veil (O3.out.alloc (.cells #[.int .u8 (v8 (BitVec.ofNat 8 h.tu.len))] 5))
       refine append_sl rfl _ _ 22 rfl w1.heap.size i0 Tryz.underlying22 hi hz0 hz1 hz2 _ 5 _ rfl O4.out (rowN w3.heap.size 1 [BitVec.ofNat 8 h.tu.len]) (rowN_ok (Row.new _ _ _) rfl) rfl (by show 5 + 1 ≤ 8388608; omega) Z4.out ?_
       intro y5 w5 own5 grow5
       have D5 := veil (D4.out.grown grow5 Z4.out (fun q e => (O4.out.lt q e).1))
       have O5 := veil own5
       clear own5 grow5 O3 D3 K3 R3 Z3 c1 O4 D4 Z4
       have R5 := veil (R1.out.below D5.out R1.out.lt)
       have K5 := veil (K1.out.below D5.out)
       have Z5 := veil D5.out.size
       have c1 := HD.c1 R5.out)
    | (with_reducible (show wpList _ _ _ (⟨some 27, Op.call _, _, _, _, _⟩ :: _) _ _)
       refine append_sl rfl _ _ 22 rfl w1.heap.size i0 Tryz.underlying22 hi hz0 hz1 hz2 _ (5 + 1) _ rfl O5.out h.tu K5.out.tu rfl (by omega) Z5.out ?_
       intro y6 w6 own6 grow6
       have D6 := veil (D5.out.grown grow6 Z5.out (fun q e => (O5.out.lt q e).1))
       have O6 := veil own6
       clear own6 grow6 O5 D5 K5 R5 Z5 c1
       have R6 := veil (R1.out.below D6.out R1.out.lt)
       have K6 := veil (K1.out.below D6.out)
       have Z6 := veil D6.out.size
       have c0 := HD.c0 R6.out
       rw [HL.out] at c0
       have c2 := HD.c2 R6.out)
    | (with_reducible (show wpList _ _ _ (⟨some 37, Op.call _, _, _, _, _⟩ :: _) _ _)
       rw [HW.out]
       have D7 := veil (D6.out.alloc Z6.out (.cells #[.int .u8 (v8 (BitVec.ofNat 8 h.fr.len))] 5))
       have Z7 := veil D7.out.size
       have O7 := veil (O6.out.alloc (.cells #[.int .u8 (v8 (BitVec.ofNat 8 h.fr.len))] 5))
       refine append_sl rfl _ _ 22 rfl w1.heap.size i0 Tryz.underlying22 hi hz0 hz1 hz2 _ (5 + 1 + h.tu.len) _ rfl O7.out (rowN w6.heap.size 1 [BitVec.ofNat 8 h.fr.len]) (rowN_ok (Row.new _ _ _) rfl) rfl (by show 5 + 1 + h.tu.len + 1 ≤ 8388608; omega) Z7.out ?_
       intro y8 w8 own8 grow8
       have D8 := veil (D7.out.grown grow8 Z7.out (fun q e => (O7.out.lt q e).1))
       have O8 := veil own8
       clear own8 grow8 O6 D6 K6 R6 Z6 c0 c2 O7 D7 Z7
       have R8 := veil (R1.out.below D8.out R1.out.lt)
       have K8 := veil (K1.out.below D8.out)
       have Z8 := veil D8.out.size
       have c2 := HD.c2 R8.out)
    | (with_reducible (show wpList _ _ _ (⟨some 41, Op.call _, _, _, _, _⟩ :: _) _ _)
       refine append_sl rfl _ _ 22 rfl w1.heap.size i0 Tryz.underlying22 hi hz0 hz1 hz2 _ (5 + 1 + h.tu.len + 1) _ rfl O8.out h.fr K8.out.fr rfl (by show 5 + 1 + h.tu.len + 1 + h.fr.len ≤ 8388608; omega) Z8.out ?_
       intro y9 w9 own9 grow9
       have D9 := veil (D8.out.grown grow9 Z8.out (fun q e => (O8.out.lt q e).1))
       have O9 := veil own9
       clear own9 grow9 O8 D8 K8 R8 Z8 c2
       have R9 := veil (R1.out.below D9.out R1.out.lt)
       have K9 := veil (K1.out.below D9.out)
       have Z9 := veil D9.out.size)
    | (with_reducible (show wpList _ _ _ (⟨some 50, Op.call _, _, _, _, _⟩ :: _) _ _)
       rw [HE1.out, HE2.out]
       have D10 := veil (D9.out.alloc Z9.out (.cells #[.int .u8 0, .int .u8 (v8 (64#8 ||| BitVec.ofNat 8 (rest / 256))), .int .u8 (v8 (BitVec.ofNat 8 rest))] 5))
       have Z10 := veil D10.out.size
       have O10 := veil (O9.out.alloc (.cells #[.int .u8 0, .int .u8 (v8 (64#8 ||| BitVec.ofNat 8 (rest / 256))), .int .u8 (v8 (BitVec.ofNat 8 rest))] 5))
       refine append_sl rfl _ _ 22 rfl w1.heap.size i0 Tryz.underlying22 hi hz0 hz1 hz2 _ (5 + 1 + h.tu.len + 1 + h.fr.len) _ rfl O10.out (rowN w9.heap.size 3 [0, 64#8 ||| BitVec.ofNat 8 (rest / 256), BitVec.ofNat 8 rest]) (rowN_ok (Row.new _ _ _) rfl) rfl (by show 5 + 1 + h.tu.len + 1 + h.fr.len + 3 ≤ 8388608; omega) Z10.out ?_
       intro y11 w11 own11 grow11
       have D11 := veil (D10.out.grown grow11 Z10.out (fun q e => (O10.out.lt q e).1))
       have O11 := veil own11
       clear own11 grow11 O9 D9 K9 R9 Z9 O10 D10 Z10
       have R11 := veil (R1.out.below D11.out R1.out.lt)
       have K11 := veil (K1.out.below D11.out)
       have Z11 := veil D11.out.size
       have c3 := HD.c3 R11.out))
  refine (LC.out _).mono ?_
  rintro e4 w12 ⟨g, rfl, own12, hb12⟩
  have D12 := veil (D11.out.trans (hb12.mono Z11.out))
  have Z12 := veil D12.out.size
  have O12 := veil (own_below O11.out hb12)
  have Q12 := veil (own_okB own12)
  clear own12 hb12 O11 D11 R11 K11 Z11 c3
  go_wp2_with (first
    | (with_reducible (show wpList _ _ _ (⟨some 56, Op.call _, _, _, _, _⟩ :: _) _ _)
       refine append_sl rfl _ _ 22 rfl w1.heap.size i0 Tryz.underlying22 hi hz0 hz1 hz2 _ (5 + 1 + h.tu.len + 1 + h.fr.len + 3) _ rfl O12.out ⟨some ⟨g, 0, none⟩, n, n, g, 0, lowL h.num n⟩ Q12.out rfl (by show 5 + 1 + h.tu.len + 1 + h.fr.len + 3 + n ≤ 8388608; omega) Z12.out ?_
       intro y13 w13 own13 grow13))
  have D13 := veil (D12.out.grown grow13 Z12.out (fun q e => (O12.out.lt q e).1))
  have O13 := veil own13
  clear own13 grow13 O12 D12 Z12 Q12
  go_wp2_with fail
  go_ret
  have hd : headL h.ph n rest = [firstB true h.phase n, 0, 0, 0, 1] ++ [BitVec.ofNat 8 h.tu.len] ++ h.tu.b ++ [BitVec.ofNat 8 h.fr.len] ++ h.fr.b ++ [0, 64#8 ||| BitVec.ofNat 8 (rest / 256), BitVec.ofNat 8 rest] ++ lowL h.num n := by
    unfold headL preL HD.ph
    simp only
    rw [HL.out, if_pos rfl, TB.out, FB.out]
    rfl
  have hlen : (headL h.ph n rest).length = 5 + 1 + h.tu.len + 1 + h.fr.len + 3 + n := by
    rw [hd]
    simp only [List.length_append, List.length_cons, List.length_nil, lowL_length, TB.out, FB.out]
  refine ⟨_, rfl, ?_, B1.out.trans (D13.out.mono B1.out.size)⟩
  rw [hlen, hd]
  exact own_low O13.out B1.out.size

theorem laid_any (h : HD) (n rest : Nat) (w : World) (hk : h.Ok w) (h1 : 1 ≤ n) (h4 : n ≤ 4) (ht : h.tu.len ≤ 20) (hf : h.fr.len ≤ 20) (hx : h.num < 18446744073709551616) :
    Calls Tryz.prog 21 #[.agg h.cells, .int .i64 (n : Int), .int .i64 (rest : Int)] w fun e w' => ∃ v, e = .returned v ∧ w'.ownsRow w.heap.size 5 1 v (headL h.ph n rest).length (vb (headL h.ph n rest)) ∧ Below w.heap.size w w' := by
  by_cases hl : h.long = true
  · exact laid_long h n rest w hk h1 h4 ht hf hx hl
  · exact laid_short h n rest w hk h1 h4 ht hx (by simpa using hl)
end Go.Proofs.YtbheoldakmcppaaGreatDoor

/-! What packet.kindOf answers. -/
namespace Go.Proofs.YtbheoldakmcppaaGreatDoor
open Go Go.RowKit

/-- A kind of headers. -/
abbrev kindC (l : Bool) : Array Value := #[.bool l, .int .u8 (if l then 15 else 31), .int .u8 (if l then 12 else 24), .int .u8 (if l then 0 else 4)]
def longB (x : By) : Bool := decide (128 ≤ x.toNat)
theorem and128F : ∀ k : Fin 256, (bits .and .u8 (k.val : Int) 128 != 0) = decide (128 ≤ k.val) := by decide +kernel
theorem and128 (x : By) : (bits .and .u8 (v8 x) 128 != 0) = longB x := and128F ⟨x.toNat, x.isLt⟩
theorem result_partK {P : Program} {fn : Func} {p : Tmp} {ty : TypeId} (h : fn.results = #[.cell p ty]) (tmps : Array Value) (w : World) (g : Nat) (t : TypeId) (cs : Array Value) (hg : Row w g t cs) (n : Nat) (fs : Array Field)
    (hp : tmps.getD p undef = .pointer (some ⟨g, 0, none⟩)) (hu : P.underlying ty = some (.struct fs)) (hi : (P.info? ty).map (·.size) = some n) (hc : cs.size = n) :
    (results fn tmps).run P w = .ok (.agg cs) w :=
  results_cell_row h tmps w g t cs (0, 0) _ hp hg hu rfl (by rw [hc]; exact hi)

set_option maxRecDepth 20000 in
set_option maxHeartbeats 1000000 in
theorem kindOf_any (x : By) (w : World) :
    Calls Tryz.prog 79 #[.int .u8 (v8 x)] w fun e w' => e = .returned (.agg (kindC (longB x))) ∧ Below w.heap.size w w' := by
  have h128 := and128 x
  have B1 := veil ((Below.refl w.heap.size w).alloc (Nat.le_refl _) (.cells (kindC (longB x)) 87))
  have R1 : Hid (Row (w.alloc (.cells (kindC (longB x)) 87)) w.heap.size 87 (kindC (longB x))) := Row.new _ _ _
  obtain ⟨l, hl⟩ : ∃ l, longB x = l := ⟨_, rfl⟩
  rw [hl] at h128 B1 R1 ⊢
  clear hl
  cases l
  all_goals
    go_enter Tryz.func79, Tryz.ntmps79
    go_wp2_with (first
      | (with_reducible (show wpList _ _ _ (⟨_, Op.alloc 87, _, _, _, _⟩ :: _) _ _)
         refine alloc_row rfl 87 rfl #[.bool false, .int .u8 0, .int .u8 0, .int .u8 0] (by kernel_rfl) ?_)
      | (with_reducible (show wpList _ _ _ (⟨_, Op.store 87 _ _, _, _, _, _⟩ :: _) _ _)
         refine store_new (w := w) (by rfl) 87 _ _ (by rfl) w.heap.size _ (by rfl) (by rfl) 87 #[.bool false, .int .u8 0, .int .u8 0, .int .u8 0] (by rfl) 4 (by kernel_rfl) (by rfl) (by rfl) (by rfl) ?_))
    exact bodyPost_ret (result_partK rfl _ _ w.heap.size _ _ R1.out 4 _ rfl Tryz.underlying87 (by kernel_rfl) rfl) rfl ⟨rfl, B1.out⟩

end Go.Proofs.YtbheoldakmcppaaGreatDoor
