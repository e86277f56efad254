/-
  Out of ShaPrimes, ShaPad, ShaChPlain, FrVarP, FrVarG, FrVarT.
-/
import Derived.Test.YtaighdppemnglaaGreatDoorGf2
import Derived.Laws.AppendOwn
import Derived.Laws.AppendOwnNone
import Derived.OwnWalk
import Derived.RangeFuncBox
import Derived.Maps.AppendAt
import Derived.Below
import Derived.Laws.BitsAllLaws
import Derived.Test.YtaighdppemnglaaGreatDoorRows
import Derived.WalkKit
import Derived.WalkSpells
import Derived.WalkLawsBesides

/-! The first 64 primes, their roots, and how they are found: no program in sight. -/
namespace Go.Proofs.YtaighdppemnglaaGreatDoor
open Go

def P64 : List Nat := [2, 3, 5, 7, 11, 13, 17, 19, 23, 29, 31, 37, 41, 43, 47, 53, 59, 61, 67, 71, 73, 79, 83, 89, 97, 101, 103, 107, 109, 113, 127, 131, 137, 139, 149, 151, 157, 163, 167, 173, 179, 181, 191, 193, 197, 199, 211, 223, 227, 229, 233, 239, 241, 251, 257, 263, 269, 271, 277, 281, 283, 293, 307, 311]
def cubeRoots : List Nat := [5411319704, 6194414737, 7344290767, 8215976869, 9551921755, 10098905585, 11043570340, 11460697813, 12214315672, 13195500289, 13492127166, 14311783875, 14809980276, 15046980094, 15499789991, 16133124468, 16720292289, 16907126662, 17444216262, 17784676812, 17950125167, 18429019306, 18734950876, 19175934170, 19734090066, 20001703533, 20132865992, 20390182855, 20516441075, 20764397895, 21588763473, 21813078375, 22141143685, 22248366392, 22769593852, 22871018771, 23170020180, 23461497531, 23651862830, 23931792517, 24205322401, 24295138891, 24734567280, 24820601251, 24990902297, 25075189284, 25569408389, 26045227120, 26200031510, 26276752392, 26428864332, 26653801653, 26727943347, 27092625994, 27306805839, 27517677555, 27725365998, 27793908591, 27997534228, 28131656200, 28198240250, 28526537963, 28973835255, 29099129074]
def squareRoots : List Nat := [6074000999, 7439101573, 9603838834, 11363415354, 14244795007, 15485724812, 17708603819, 18721328409]
/-- The words K and H. -/
def KW : List Wd := [1116352408, 1899447441, 3049323471, 3921009573, 961987163, 1508970993, 2453635748, 2870763221, 3624381080, 310598401, 607225278, 1426881987, 1925078388, 2162078206, 2614888103, 3248222580, 3835390401, 4022224774, 264347078, 604807628, 770255983, 1249150122, 1555081692, 1996064986, 2554220882, 2821834349, 2952996808, 3210313671, 3336571891, 3584528711, 113926993, 338241895, 666307205, 773529912, 1294757372, 1396182291, 1695183700, 1986661051, 2177026350, 2456956037, 2730485921, 2820302411, 3259730800, 3345764771, 3516065817, 3600352804, 4094571909, 275423344, 430227734, 506948616, 659060556, 883997877, 958139571, 1322822218, 1537002063, 1747873779, 1955562222, 2024104815, 2227730452, 2361852424, 2428436474, 2756734187, 3204031479, 3329325298]
def HW : List Wd := [1779033703, 3144134277, 1013904242, 2773480762, 1359893119, 2600822924, 528734635, 1541459225]
theorem P64_length : P64.length = 64 := by decide +kernel
theorem KW_length : KW.length = 64 := by decide +kernel
theorem HW_length : HW.length = 8 := by decide +kernel

/-- How many primes lie below n. -/
def cntB (n : Nat) : Nat := (P64.filter fun p => decide (p < n)).length
/-- Does one of them divide n? -/
def comp (n : Nat) : Bool := (List.range (cntB n)).any fun j => n % gn P64 j == 0
theorem cntB_all : ∀ n, n < 313 → 2 ≤ n → cntB n ≤ 64 ∧ (n = 312 ↔ cntB n = 64) := by decide +kernel
theorem comp_all : ∀ n, n < 312 → 2 ≤ n → (comp n = true → cntB (n + 1) = cntB n) ∧ (comp n = false → cntB (n + 1) = cntB n + 1 ∧ P64[cntB n]? = some n) := by decide +kernel
theorem P64_bd : ∀ j, j < 64 → 2 ≤ gn P64 j ∧ gn P64 j ≤ 311 := by decide +kernel
theorem P64_bd8 : ∀ j, j < 8 → 2 ≤ gn P64 j ∧ gn P64 j ≤ 19 := by decide +kernel
theorem comp_yes (n j : Nat) (hj : j < cntB n) (h : n % gn P64 j = 0) : comp n = true := by
  unfold comp
  rw [List.any_eq_true]
  exact ⟨j, List.mem_range.2 hj, by simp [h]⟩
theorem comp_no (n : Nat) (h : ∀ j, j < cntB n → n % gn P64 j ≠ 0) : comp n = false := by
  unfold comp
  rw [List.any_eq_false]
  intro j hj
  simp [h j (List.mem_range.1 hj)]

/-- The row while primes are looked for. -/
def foundR (c : Nat) : List Nat := P64.take c ++ List.replicate (64 - c) 0
theorem foundR_length (c : Nat) (h : c ≤ 64) : (foundR c).length = 64 := by simp [foundR, P64_length]; omega
theorem foundR_get (c j : Nat) (hc : c ≤ 64) (h : j < c) : gn (foundR c) j = gn P64 j := by
  unfold gn foundR
  rw [List.getElem?_append_left (by rw [List.length_take, P64_length]; omega), List.getElem?_take, if_pos h]
theorem foundR_set (c n : Nat) (hc : c < 64) (h : P64[c]? = some n) : (foundR c).set c n = foundR (c + 1) := fill_set P64 0 c 64 P64_length hc n h
theorem foundR_all : foundR 64 = P64 := by
  unfold foundR
  rw [List.take_of_length_le (by rw [P64_length]; exact Nat.le_refl _)]
  simp

theorem cubeRoots_ok : ∀ j, j < 64 → gn P64 j * 79228162514264337593543950336 < (gn cubeRoots j + 1) * (gn cubeRoots j + 1) * (gn cubeRoots j + 1) ∧ gn cubeRoots j * gn cubeRoots j * gn cubeRoots j ≤ gn P64 j * 79228162514264337593543950336 ∧ gw KW j = BitVec.ofNat 32 (gn cubeRoots j) := by decide +kernel
theorem squareRoots_ok : ∀ j, j < 8 → gn P64 j * 18446744073709551616 < (gn squareRoots j + 1) * (gn squareRoots j + 1) ∧ gn squareRoots j * gn squareRoots j ≤ gn P64 j * 18446744073709551616 ∧ gw HW j = BitVec.ofNat 32 (gn squareRoots j) := by decide +kernel

theorem mono3 {a b : Nat} (h : a ≤ b) : a * a * a ≤ b * b * b := Nat.mul_le_mul (Nat.mul_le_mul h h) h
theorem cube_root_one (j r : Nat) (hj : j < 64) (h1 : r * r * r ≤ gn P64 j * 79228162514264337593543950336) (h2 : gn P64 j * 79228162514264337593543950336 < (r + 1) * (r + 1) * (r + 1)) : r = gn cubeRoots j := by
  obtain ⟨k2, k1, _⟩ := cubeRoots_ok j hj
  rcases Nat.lt_trichotomy r (gn cubeRoots j) with h | h | h
  · have := mono3 (show r + 1 ≤ gn cubeRoots j by omega); omega
  · exact h
  · have := mono3 (show gn cubeRoots j + 1 ≤ r by omega); omega
theorem square_root_one (j r : Nat) (hj : j < 8) (h1 : r * r ≤ gn P64 j * 18446744073709551616) (h2 : gn P64 j * 18446744073709551616 < (r + 1) * (r + 1)) : r = gn squareRoots j := by
  obtain ⟨k2, k1, _⟩ := squareRoots_ok j hj
  rcases Nat.lt_trichotomy r (gn squareRoots j) with h | h | h
  · have := Nat.mul_le_mul (show r + 1 ≤ gn squareRoots j by omega) (show r + 1 ≤ gn squareRoots j by omega); omega
  · exact h
  · have := Nat.mul_le_mul (show gn squareRoots j + 1 ≤ r by omega) (show gn squareRoots j + 1 ≤ r by omega); omega
end Go.Proofs.YtaighdppemnglaaGreatDoor

/-! The blocks of bytes, on lists: no program in sight. -/
namespace Go.Proofs.YtaighdppemnglaaGreatDoor
open Go

/-- 64 bytes. -/
abbrev Blk := { x : List By // x.length = 64 }
/-- The first 64 of bytes. -/
def mkBlk (l : List By) : Blk := ⟨(l ++ List.replicate 64 0).take 64, by simp⟩
theorem mkBlk_ge (l : List By) (h : 64 ≤ l.length) : (mkBlk l).1 = l.take 64 := by
  show (l ++ List.replicate 64 0).take 64 = l.take 64
  rw [List.take_append_of_le_length h]
theorem mkBlk_eq (l : List By) (h : l.length = 64) : (mkBlk l).1 = l := by rw [mkBlk_ge l (by omega), List.take_of_length_le (by omega)]

/-- How many bytes 00 stand behind the byte 80. -/
def padZ (n : Nat) : Nat := (119 - n % 64) % 64
theorem padZ_le (n : Nat) : padZ n ≤ 63 := by unfold padZ; omega
theorem padZ_mod (n : Nat) : (n + 1 + padZ n) % 64 = 56 := by unfold padZ; omega
/-- How many bits there are, as eight bytes. -/
def lenB (n : Nat) : List By := (List.range 8).map fun j => BitVec.ofNat 8 (8 * n / 2 ^ (8 * (7 - j)))
theorem lenB_length (n : Nat) : (lenB n).length = 8 := by simp [lenB]
theorem lenB_get (n j : Nat) (h : j < 8) : (lenB n)[j]? = some (BitVec.ofNat 8 (8 * n / 2 ^ (8 * (7 - j)))) := by simp [lenB, h]
/-- The bytes of the blocks. -/
def padL (b : List By) : List By := b ++ (128 :: (List.replicate (padZ b.length) 0 ++ lenB b.length))
theorem padL_length (b : List By) : (padL b).length = b.length + padZ b.length + 9 := by
  unfold padL
  rw [List.length_append, List.length_cons, List.length_append, List.length_replicate, lenB_length]
  omega
/-- How many blocks. -/
def nb (b : List By) : Nat := (b.length + padZ b.length + 9) / 64
theorem nb_mul (b : List By) : 64 * nb b = (padL b).length := by
  have := padZ_mod b.length
  rw [padL_length]
  unfold nb
  omega
/-- The blocks. -/
def blkAt (b : List By) (i : Nat) : Blk := mkBlk ((padL b).drop (64 * i))
def blkTo (b : List By) (k : Nat) : List Blk := (List.range k).map (blkAt b)
theorem blkTo_succ (b : List By) (k : Nat) : blkTo b (k + 1) = blkTo b k ++ [blkAt b k] := by unfold blkTo; rw [List.range_succ]; simp
theorem blkTo_length (b : List By) (k : Nat) : (blkTo b k).length = k := by simp [blkTo]
theorem blkAt_take (b : List By) (i : Nat) (h : i < nb b) : (blkAt b i).1 = ((padL b).drop (64 * i)).take 64 := by
  unfold blkAt
  exact mkBlk_ge _ (by rw [List.length_drop, ← nb_mul]; omega)
/-- A block within the bytes. -/
theorem blkAt_full (b : List By) (i : Nat) (h : 64 * i + 64 ≤ b.length) : (blkAt b i).1 = (b.drop (64 * i)).take 64 := by
  have hn : i < nb b := by unfold nb; omega
  rw [blkAt_take b i hn]
  unfold padL
  rw [List.drop_append_of_le_length (by omega), List.take_append_of_le_length (by rw [List.length_drop]; omega)]
theorem nb_small (b : List By) (h : b.length % 64 + 9 ≤ 64) : nb b = b.length / 64 + 1 := by unfold nb padZ; omega
theorem nb_great (b : List By) (h : 64 < b.length % 64 + 9) : nb b = b.length / 64 + 2 := by unfold nb padZ; omega
/-- The last block, where what is left and the length fit into one. -/
theorem blkAt_small (b : List By) (h : b.length % 64 + 9 ≤ 64) : (blkAt b (b.length / 64)).1 = b.drop (64 * (b.length / 64)) ++ (128 :: (List.replicate (55 - b.length % 64) 0 ++ lenB b.length)) := by
  rw [blkAt_take b _ (by rw [nb_small b h]; omega)]
  unfold padL
  have e : padZ b.length = 55 - b.length % 64 := by unfold padZ; omega
  rw [List.drop_append_of_le_length (by omega), e, List.take_of_length_le]
  simp only [List.length_append, List.length_drop, List.length_cons, List.length_replicate, lenB_length]
  omega
theorem blkAt_great (b : List By) (h : 64 < b.length % 64 + 9) : (blkAt b (b.length / 64)).1 = b.drop (64 * (b.length / 64)) ++ (128 :: List.replicate (63 - b.length % 64) 0) ∧ (blkAt b (b.length / 64 + 1)).1 = List.replicate 56 0 ++ lenB b.length := by
  have hn := nb_great b h
  have e : padZ b.length = (63 - b.length % 64) + 56 := by unfold padZ; omega
  have e2 : padL b = (b ++ (128 :: List.replicate (63 - b.length % 64) 0)) ++ (List.replicate 56 0 ++ lenB b.length) := by
    unfold padL
    rw [e, ← List.replicate_append_replicate]
    simp only [List.append_assoc, List.cons_append]
  have hl : (b ++ (128 :: List.replicate (63 - b.length % 64) 0)).length = 64 * (b.length / 64 + 1) := by
    simp only [List.length_append, List.length_cons, List.length_replicate]
    omega
  constructor
  · rw [blkAt_take b _ (by omega), e2, List.drop_append_of_le_length (by omega), List.take_append_of_le_length (by rw [List.length_drop, hl]; omega), List.take_of_length_le (by rw [List.length_drop, hl]; omega), List.drop_append_of_le_length (by omega)]
  · rw [blkAt_take b _ (by omega), e2, ← hl, List.drop_left, List.take_of_length_le (by simp [lenB_length])]

/-- The length goes into the last eight of 64 bytes, the lowest first. -/
def lenSet (l : List By) (n : Nat) : Nat → List By
  | 0 => l
  | k + 1 => (lenSet l n k).set (63 - k) (BitVec.ofNat 8 (8 * n / 2 ^ (8 * k)))
theorem lenSet_length (l : List By) (n k : Nat) : (lenSet l n k).length = l.length := by
  induction k with
  | zero => rfl
  | succ k ih => rw [lenSet, List.length_set, ih]
theorem lenSet_get (l : List By) (n : Nat) (hl : l.length = 64) : ∀ k, k ≤ 8 → ∀ j, (lenSet l n k)[j]? = if 64 - k ≤ j ∧ j < 64 then some (BitVec.ofNat 8 (8 * n / 2 ^ (8 * (63 - j)))) else l[j]?
  | 0, _, j => by
    rw [lenSet, if_neg (by omega)]
  | k + 1, h, j => by
    rw [lenSet, List.getElem?_set, lenSet_length, hl]
    by_cases hj : 63 - k = j
    · subst hj
      rw [if_pos rfl, if_pos (by omega), if_pos (by omega), show 63 - (63 - k) = k by omega]
    · rw [if_neg hj, lenSet_get l n hl k (by omega) j]
      by_cases h2 : 64 - k ≤ j ∧ j < 64
      · rw [if_pos h2, if_pos (by omega)]
      · rw [if_neg h2, if_neg (by omega)]
theorem lenSet_all (l : List By) (n : Nat) (hl : l.length = 64) : lenSet l n 8 = l.take 56 ++ lenB n := by
  apply List.ext_getElem?
  intro j
  rw [lenSet_get l n hl 8 (by omega) j]
  by_cases h : 56 ≤ j
  · rw [List.getElem?_append_right (by rw [List.length_take]; omega), List.length_take, show min 56 l.length = 56 by omega]
    by_cases h2 : j < 64
    · rw [if_pos (by omega), lenB_get n (j - 56) (by omega), show 7 - (j - 56) = 63 - j by omega]
    · rw [if_neg (by omega), List.getElem?_eq_none (by omega), List.getElem?_eq_none (by rw [lenB_length]; omega)]
  · rw [if_neg (by omega), List.getElem?_append_left (by rw [List.length_take]; omega), List.getElem?_take, if_pos (by omega)]
theorem set_128 (l : List By) (r : Nat) (hl : l.length = r) (hr : r < 64) : (l ++ List.replicate (64 - r) 0).set r 128 = l ++ (128 :: List.replicate (63 - r) 0) := by
  rw [List.set_append_right r _ (by omega), hl, Nat.sub_self, show 64 - r = (63 - r) + 1 by omega, List.replicate_succ, List.set_cons_zero]

theorem lenByte (i L k : Nat) : 8 * (64 * (i : Int) + (L : Int)) / 2 ^ (8 * k) % 256 = v8 (BitVec.ofNat 8 (8 * (64 * i + L) / 2 ^ (8 * k))) := by
  unfold v8
  rw [BitVec.toNat_ofNat]
  have e : 8 * (64 * (i : Int) + (L : Int)) / 2 ^ (8 * k) = ((8 * (64 * i + L) / 2 ^ (8 * k) : Nat) : Int) := by
    rw [Int.natCast_ediv, Int.natCast_pow]
    push_cast
    rfl
  rw [e]
  omega
/-- The state that blocks lead to; the sum. -/
def chain (s : List Wd) (l : List Blk) : List Wd := l.foldl (fun s x => furtherL s KW x.1) s
theorem chain_snoc (s : List Wd) (l : List Blk) (x : Blk) : chain s (l ++ [x]) = furtherL (chain s l) KW x.1 := by simp [chain]
theorem chain_length (s : List Wd) (hs : s.length = 8) (l : List Blk) : (chain s l).length = 8 := by
  rcases List.eq_nil_or_concat l with rfl | ⟨p, x, rfl⟩
  · exact hs
  · rw [List.concat_eq_append, chain_snoc]; exact furtherL_length _ _ _
def sumL (b : List By) : List By := sumB (chain HW (blkTo b (nb b)))
theorem sumL_length (b : List By) : (sumL b).length = 32 := sumB_length _
end Go.Proofs.YtaighdppemnglaaGreatDoor

/-! Bytes appended to a row of the call's own. -/
namespace Go.Proofs.YtaighdppemnglaaGreatDoor
open Go Go.RowKit

/-- The cells of bytes, as a list. -/
def vb (b : List By) : List Value := b.map fun c => .int .u8 (v8 c)
theorem vb_length (b : List By) : (vb b).length = b.length := by simp [vb]
theorem vb_append (a b : List By) : vb (a ++ b) = vb a ++ vb b := by simp [vb]
theorem vb_get (b : List By) (j : Nat) (h : j < b.length) : (vb b)[j]? = some (.int .u8 (v8 (gb b j))) := by
  unfold vb gb
  rw [List.getElem?_map, List.getElem?_eq_getElem h]
  rfl
theorem vb_get' (b : List By) (j : Nat) (u : Value) (h : (vb b)[j]? = some u) : j < b.length ∧ u = .int .u8 (v8 (gb b j)) := by
  have hj : j < b.length := by
    rcases Nat.lt_or_ge j b.length with h1 | h1
    · exact h1
    · rw [List.getElem?_eq_none (by rw [vb_length]; exact h1)] at h; cases h
  rw [vb_get b j hj] at h
  exact ⟨hj, (Option.some.inj h).symm⟩
theorem vb_one (b : List By) : ∀ u ∈ vb b, u.oneCell' = true := by
  intro u hu
  unfold vb at hu
  obtain ⟨c, _, rfl⟩ := List.mem_map.1 hu
  rfl
def slen : Value → Nat
  | .slice _ n _ => n
  | _ => 0

/-- A row of the call's own, at least one byte. -/
structure OwnB (w : World) (base g n cap : Nat) (b : List By) : Prop where
  len : b.length = n
  row : w.ownsRow base 5 1 (.slice (some ⟨g, 0, none⟩) n cap) n (vb b)
theorem add_off (g j : Nat) : (⟨g, 0, none⟩ : Addr).add j = ⟨g, j, none⟩ := by
  unfold Addr.add
  split
  · rename_i h; rw [h]
  · simp
theorem OwnB.cell {w : World} {base g n cap : Nat} {b : List By} (h : OwnB w base g n cap b) {j : Nat} (hj : j < n) : w.cell? ⟨g, j, none⟩ = some (.int .u8 (v8 (gb b j))) := by
  have := h.row.cells (g := g) rfl j _ (vb_get b j (by rw [h.len]; exact hj))
  rw [add_off] at this
  exact this
theorem OwnB.lt {w : World} {base g n cap : Nat} {b : List By} (h : OwnB w base g n cap b) : base ≤ g ∧ g < w.heap.size := h.row.lt g rfl
theorem OwnB.same {w w' : World} {base g n cap : Nat} {b : List By} (h : OwnB w base g n cap b) (hh : w'.heap[g]? = w.heap[g]?) : OwnB w' base g n cap b := ⟨h.len, by
  obtain ⟨h1, h2⟩ := h.row
  refine ⟨h1, ?_⟩
  rcases h2 with ⟨h3, h4⟩ | ⟨g', c', cur, h3, h4, h5, h6⟩
  · exact .inl ⟨h3, h4⟩
  · refine .inr ⟨g', c', cur, h3, h4, ?_, h6⟩
    rw [← h5]
    have e : g' = g := by injection h3 with e1; injection e1 with e2; injection e2 with e3; exact e3.symm
    subst e
    exact hh⟩
theorem OwnB.below {w w' : World} {base g n cap : Nat} {b : List By} (h : OwnB w base g n cap b) (hb : Below w.heap.size w w') : OwnB w' base g n cap b := by
  have hg := h.lt.2
  obtain ⟨_, _, _, _, hh⟩ := hb
  exact h.same (hh g hg)
theorem OwnB.other {w : World} {base g n cap : Nat} {b : List By} (h : OwnB w base g n cap b) {g' : Nat} (hg : g ≠ g') (j : Nat) (v : Value) : OwnB (w.setCell ⟨g', j, none⟩ v) base g n cap b :=
  h.same (Below.heap_setCell _ _ _ g hg)
theorem OwnB.putOther {w : World} {base g n cap : Nat} {b : List By} (h : OwnB w base g n cap b) {g' : Nat} (hg : g ≠ g') (cs : Array Value) : OwnB (w.setRow g' cs) base g n cap b :=
  h.same (by simp only [World.setRow, Array.getElem?_modify]; rw [if_neg (fun e => hg e.symm)])

section
variable {P : Program} {ops : Array Oper} {rest : List Oper} {o : Oper} {a : Act} {w : World} {Q : Exit → Act → World → Prop}
/-- What came in is appended, nil or not. -/
theorem append_in (hgd : o.guard = none) (s x : Operand) (t : TypeId) (ho : o.op = .call { callee := .builtin .append, args := #[s, x], argTypes := #[t, t] })
    (base : Nat) (i : TypeInfo) (ht : P.underlying t = some (.slice 5)) (hi : P.info? 5 = some i) (hz : i.zero = some (.int .u8 0)) (hsize : i.size = 1) (hby : i.bytes = 1)
    (hs : a.eval s = .slice none 0 0) (ad : Option Addr) (g off len cap : Nat) (b : List By) (hb : b.length = len) (hl : len ≤ 2097152) (hx : a.eval x = .slice ad len cap)
    (hn : ad = none → len = 0 ∧ cap = 0) (ha : 0 < len → ad = some ⟨g, off, none⟩) (hc : ∀ j : Nat, j < len → w.cell? ⟨g, off + j, none⟩ = some (.int .u8 (v8 (gb b j)))) (hbase : base ≤ w.heap.size)
    (h : ∀ v' w', w'.ownsRow base 5 1 v' len (vb b) → w.grownBy w' none → wpList P ops Q rest (a.put o.dst v') w') : wpList P ops Q (o :: rest) a w := by
  cases ad with
  | none =>
    obtain ⟨rfl, rfl⟩ := hn rfl
    obtain rfl : b = [] := List.eq_nil_of_length_eq_zero hb
    exact wpList_append_own_none hgd s x t ho base 5 i 1 ht hi _ 0 [] hs (World.ownsRow_nil _ _ _ _) hx (h _ _ (World.ownsRow_nil _ _ _ _) (World.grownBy.refl _ _))
  | some ad =>
    refine wpList_append_own w hgd s x t ho base 5 i (.int .u8 0) 1 1 ht hi hz hsize hby rfl (by decide) _ 0 [] hs (World.ownsRow_nil _ _ _ _) ad len cap (vb b) hx (by rw [vb_length, hb, Nat.mul_one]) ?_ (vb_one b) (by unfold maxLen; omega) (by omega) hbase ?_
    · intro j u hj
      obtain ⟨h1, rfl⟩ := vb_get' b j u hj
      have e := ha (by omega)
      injection e with e
      subst e
      rw [add_at]
      exact hc j (by omega)
    · intro v' w' h1 h2 _
      rw [Nat.zero_add] at h1
      exact h v' w' h1 h2
end
theorem len_byte (n k M : Nat) (hM : 2 ^ k = M) (h : 8 * n / M < 256) : v8 (BitVec.ofNat 8 (8 * n / 2 ^ k)) = (n : Int) * 8 / (M : Int) := by
  unfold v8
  rw [BitVec.toNat_ofNat, hM, Nat.mod_eq_of_lt h, Int.natCast_ediv]
  congr 1
  push_cast
  omega
theorem vb_lenB (n : Nat) (h : n ≤ 5000) : vb (lenB n) = [.int .u8 ((n : Int) * 8 / 72057594037927936), .int .u8 ((n : Int) * 8 / 281474976710656), .int .u8 ((n : Int) * 8 / 1099511627776), .int .u8 ((n : Int) * 8 / 4294967296), .int .u8 ((n : Int) * 8 / 16777216), .int .u8 ((n : Int) * 8 / 65536), .int .u8 ((n : Int) * 8 / 256), .int .u8 ((n : Int) * 8 % 256)] := by
  have e0 := len_byte n 56 72057594037927936 (by decide) (by omega)
  have e1 := len_byte n 48 281474976710656 (by decide) (by omega)
  have e2 := len_byte n 40 1099511627776 (by decide) (by omega)
  have e3 := len_byte n 32 4294967296 (by decide) (by omega)
  have e4 := len_byte n 24 16777216 (by decide) (by omega)
  have e5 := len_byte n 16 65536 (by decide) (by omega)
  have e6 := len_byte n 8 256 (by decide) (by omega)
  have e7 : v8 (BitVec.ofNat 8 (8 * n / 2 ^ 0)) = (n : Int) * 8 % 256 := by
    unfold v8
    rw [BitVec.toNat_ofNat]
    omega
  unfold vb lenB
  rw [show List.range 8 = [0, 1, 2, 3, 4, 5, 6, 7] from rfl]
  simp only [List.map_cons, List.map_nil]
  rw [show 8 * (7 - 0) = 56 from rfl, show 8 * (7 - 1) = 48 from rfl, show 8 * (7 - 2) = 40 from rfl, show 8 * (7 - 3) = 32 from rfl, show 8 * (7 - 4) = 24 from rfl, show 8 * (7 - 5) = 16 from rfl, show 8 * (7 - 6) = 8 from rfl, show 8 * (7 - 7) = 0 from rfl, e0, e1, e2, e3, e4, e5, e6, e7]
  rfl
theorem cells_new (w : World) (cs : Array Value) (t : TypeId) : ∀ j u, cs.toList[j]? = some u → (w.alloc (.cells cs t)).cell? ((⟨w.heap.size, 0, none⟩ : Addr).add j) = some u := by
  intro j u h
  rw [add_off, (Row.new w t cs).cell j, ← h]
  simp
end Go.Proofs.YtaighdppemnglaaGreatDoor

/-! Plain arithmetic on lists of bytes for layer 1: no program in sight. -/
namespace Go.Proofs.YtaighdppemnglaaGreatDoor
open Go

/-- How many bytes a number has, by its first byte. -/
def klen (z : Int) : Nat := if z < 64 then 1 else if z < 128 then 2 else if z < 192 then 4 else 8

/-- The number that bytes tell, the highest first, behind what is told already. -/
def acc (n : Int) : List Int → Int
  | [] => n
  | c :: r => acc (256 * n + c) r

theorem acc_snoc (n : Int) (l : List Int) (c : Int) : acc n (l ++ [c]) = 256 * acc n l + c := by
  induction l generalizing n with
  | nil => rfl
  | cons a r ih => exact ih (256 * n + a)

def isBytes (l : List Int) : Prop := ∀ c ∈ l, 0 ≤ c ∧ c ≤ 255

theorem acc_bound (l : List Int) : ∀ (n : Int) (m : Nat), 0 ≤ n → n < 2 ^ m → isBytes l → 0 ≤ acc n l ∧ acc n l < 2 ^ (m + 8 * l.length) := by
  induction l with
  | nil => intro n m h0 h1 _; exact ⟨h0, by simpa [acc] using h1⟩
  | cons c r ih =>
    intro n m h0 h1 hb
    have hc := hb c (by simp)
    have h2 := ih (256 * n + c) (m + 8) (by omega) (by
      have : (2 : Int) ^ (m + 8) = 2 ^ m * 256 := by rw [Int.pow_add]; rfl
      omega) (fun x hx => hb x (by simp [hx]))
    have e : m + 8 + 8 * r.length = m + 8 * (c :: r).length := by simp; omega
    rw [e] at h2
    exact h2

theorem klen_cases (z : Int) : klen z = 1 ∨ klen z = 2 ∨ klen z = 4 ∨ klen z = 8 := by
  unfold klen; repeat (first | split | simp)

theorem klen_le (z : Int) : 1 ≤ klen z ∧ klen z ≤ 8 := by
  rcases klen_cases z with h | h | h | h <;> omega

theorem take_snocV (zs : List Int) (k : Nat) (h : k < zs.length) : zs.take (k + 1) = zs.take k ++ [zs[k]?.getD 0] := by
  rw [List.take_succ_eq_append_getElem h]
  simp [h]

/-- What is told by the first 1 + i bytes. -/
def told (zs : List Int) (i : Nat) : Int := acc (zs[0]?.getD 0 % 64) ((zs.drop 1).take i)

theorem told_zero (zs : List Int) : told zs 0 = zs[0]?.getD 0 % 64 := by simp [told, acc]

theorem told_succ (zs : List Int) (i : Nat) (h : i + 1 < zs.length) : told zs (i + 1) = 256 * told zs i + zs[i + 1]?.getD 0 := by
  unfold told
  rw [take_snocV (zs.drop 1) i (by simp; omega), acc_snoc]
  simp

theorem told_bound (zs : List Int) (i : Nat) (hi : i ≤ 7) (hb : ∀ j : Nat, 0 ≤ zs[j]?.getD 0 ∧ zs[j]?.getD 0 ≤ 255) : 0 ≤ told zs i ∧ told zs i < 2 ^ (6 + 8 * i) ∧ told zs i < 4611686018427387904 := by
  have hl : ((zs.drop 1).take i).length ≤ i := by simp; omega
  have h := acc_bound ((zs.drop 1).take i) (zs[0]?.getD 0 % 64) 6 (by have := hb 0; omega) (by have := hb 0; omega) (by
    intro c hc
    have hc' := List.mem_of_mem_take hc
    obtain ⟨j, hj, rfl⟩ := List.getElem_of_mem (List.mem_of_mem_drop hc')
    have := hb j
    simpa [hj] using this)
  have hp : (2 : Int) ^ (6 + 8 * ((zs.drop 1).take i).length) ≤ 2 ^ (6 + 8 * i) := by
    have := Nat.pow_le_pow_right (n := 2) (by decide) (show 6 + 8 * ((zs.drop 1).take i).length ≤ 6 + 8 * i by omega)
    exact_mod_cast this
  have hq : (2 : Int) ^ (6 + 8 * i) ≤ 4611686018427387904 := by
    have e : (2 : Int) ^ 62 = 4611686018427387904 := by decide
    have hn := Nat.pow_le_pow_right (n := 2) (by decide) (show 6 + 8 * i ≤ 62 by omega)
    have hz := Int.ofNat_le.2 hn
    rw [Int.natCast_pow, Int.natCast_pow] at hz
    exact Int.le_trans hz (Int.le_of_eq e)
  unfold told
  omega

theorem told_low (zs : List Int) (i : Nat) (hi : i ≤ 6) (hb : ∀ j : Nat, 0 ≤ zs[j]?.getD 0 ∧ zs[j]?.getD 0 ≤ 255) : told zs i < 72057594037927936 := by
  have h := (told_bound zs i (by omega) hb).2.1
  have e : (2 : Int) ^ 54 ≤ 72057594037927936 := by decide
  have hn := Nat.pow_le_pow_right (n := 2) (by decide) (show 6 + 8 * i ≤ 54 by omega)
  have hz := Int.ofNat_le.2 hn
  rw [Int.natCast_pow, Int.natCast_pow] at hz
  exact Int.lt_of_lt_of_le h (Int.le_trans hz e)

/-- One more byte, by moving and joining bits. -/
theorem join8 (n c : Int) (h0 : 0 ≤ n) (h1 : n < 72057594037927936) (h2 : 0 ≤ c) (h3 : c ≤ 255) : bits .or .u64 (n * 256) c = 256 * n + c := by
  rw [u64_or _ _ (by omega) (by omega) (by omega) (by omega)]
  have hx : (n * 256).toNat % 2 ^ 8 = 0 := by omega
  rw [nat_join 8 _ _ hx (by omega)]
  omega

theorem mask63 (c : Int) (h0 : 0 ≤ c) (h1 : c ≤ 255) : bits .and .u8 c 63 = c % 64 := by
  rw [u8_and _ _ (by omega) (by omega) (by omega) (by omega)]
  have : (63 : Int).toNat = 63 := rfl
  rw [this, nat_mask6]
  omega

/-- The two highest bits of a byte, joined to what stands below them. -/
theorem or_kind (x k : Int) (h0 : 0 ≤ x) (h1 : x < 64) (hk0 : 0 ≤ k) (hk : k ≤ 3) : bits .or .u8 x (k * 64) = k * 64 + x := by
  rw [u8_or _ _ (by omega) (by omega) (by omega) (by omega), Nat.or_comm]
  have hx : (k * 64).toNat % 2 ^ 6 = 0 := by omega
  rw [nat_join 6 _ _ hx (by omega)]
  omega

/-- The bytes of a number, in as few as can be. -/
def putL (n : Int) : List Int :=
  if n < 64 then [n] else if n < 16384 then [64 + n / 256, n % 256]
  else if n < 1073741824 then [128 + n / 16777216, n / 65536 % 256, n / 256 % 256, n % 256]
  else [192 + n / 72057594037927936, n / 281474976710656 % 256, n / 1099511627776 % 256, n / 4294967296 % 256, n / 16777216 % 256, n / 65536 % 256, n / 256 % 256, n % 256]

end Go.Proofs.YtaighdppemnglaaGreatDoor

/-! What varint.Get and the document's Get answer. -/
namespace Go.Proofs.YtaighdppemnglaaGreatDoor
open Go.RowKit

/-- Where bytes lie that are read: they are none, or a row of cells. -/
def LiesV (w : World) (a : Option Addr) (zs : List Int) : Prop :=
  zs = [] ∨ ∃ b off, a = some ⟨b, off, none⟩ ∧ b < w.heap.size ∧ ∀ j : Nat, j < zs.length → w.cell? ⟨b, off + j, none⟩ = some (.int .u8 (zs[j]?.getD 0))

theorem Tryz.infoByteV : (Tryz.prog.info? 5).map (fun i => (i.zero, i.size, i.bytes)) = some (some (.int .u8 0), 1, 1) := by kernel_rfl


/-- What Get answers: the number, how many bytes, the error's number. -/
def getR (zs : List Int) : Int × Nat × Int :=
  if zs.length = 0 then (0, 0, 4) else if zs.length < klen (zs[0]?.getD 0) then (0, 0, 4) else (told zs (klen (zs[0]?.getD 0) - 1), klen (zs[0]?.getD 0), 0)

/-- The array of lengths lies as its text lays it. -/
def Lens (w : World) : Prop := w.cell? ⟨1, 0, none⟩ = some (.int .i64 1) ∧ w.cell? ⟨1, 1, none⟩ = some (.int .i64 2) ∧ w.cell? ⟨1, 2, none⟩ = some (.int .i64 4) ∧ w.cell? ⟨1, 3, none⟩ = some (.int .i64 8)

set_option maxHeartbeats 400000 in
theorem get_none (a : Option Addr) (cap : Nat) (w : World) :
    Calls Tryz.prog 155 #[.slice a 0 cap] w fun e w' => e = .returned (.tuple #[.int .u64 0, .int .i64 0, .int .i64 4]) ∧ w' = w := by
  go_enter Tryz.func155, Tryz.ntmps155
  go_wp2
  go_ret3
  exact ⟨rfl, rfl⟩

theorem getR_short {zs : List Int} {z : Int} {K : Nat} (hz0 : zs[0]?.getD 0 = z) (hk : klen z = K) (h : zs.length < K) : getR zs = (0, 0, 4) := by
  unfold getR; rw [hz0, hk]; simp [h]
theorem getR_done {zs : List Int} {z : Int} {K : Nat} (hz0 : zs[0]?.getD 0 = z) (hk : klen z = K) (hp : 0 < zs.length) (h : K ≤ zs.length) : getR zs = (told zs (K - 1), K, 0) := by
  unfold getR; rw [hz0, hk, if_neg (by omega), if_neg (by omega)]

theorem tup3 {a b c a' b' c' : Int} (h1 : a = a') (h2 : b = b') (h3 : c = c') : Ending.returned (.tuple #[.int .u64 a, .int .i64 b, .int .i64 c]) = .returned (.tuple #[.int .u64 a', .int .i64 b', .int .i64 c']) := by rw [h1, h2, h3]

theorem klen_of {z : Int} {q K : Nat} (hq : z / 64 = q) (h0 : 0 ≤ z) (h : (q = 0 ∧ K = 1) ∨ (q = 1 ∧ K = 2) ∨ (q = 2 ∧ K = 4) ∨ (q = 3 ∧ K = 8)) : klen z = K := by
  unfold klen
  rcases h with ⟨rfl, rfl⟩ | ⟨rfl, rfl⟩ | ⟨rfl, rfl⟩ | ⟨rfl, rfl⟩
  · rw [if_pos (by omega)]
  · rw [if_neg (by omega), if_pos (by omega)]
  · rw [if_neg (by omega), if_neg (by omega), if_pos (by omega)]
  · rw [if_neg (by omega), if_neg (by omega), if_neg (by omega)]

set_option maxHeartbeats 400000 in
theorem get_short (q K : Nat) (hqK : (q = 0 ∧ K = 1) ∨ (q = 1 ∧ K = 2) ∨ (q = 2 ∧ K = 4) ∨ (q = 3 ∧ K = 8)) (b off len cap : Nat) (z : Int) (w : World) (hq : z / 64 = q) (hl : len ≤ 1073741824) (hp : 0 < len) (hs : len < K)
    (hc0 : w.cell? ⟨b, off, none⟩ = some (.int .u8 z)) (_hb0 : 0 ≤ z ∧ z ≤ 255) (hL : Lens w) :
    Calls Tryz.prog 155 #[.slice (some ⟨b, off, none⟩) len cap] w fun e w' => e = .returned (.tuple #[.int .u64 0, .int .i64 0, .int .i64 4]) ∧ w' = w := by
  obtain ⟨l0, l1, l2, l3⟩ := hL
  have hne : ((len : Int) == 0) = false := by simp; omega
  rcases hqK with ⟨rfl, rfl⟩ | ⟨rfl, rfl⟩ | ⟨rfl, rfl⟩ | ⟨rfl, rfl⟩
  · omega
  all_goals
    go_enter Tryz.func155, Tryz.ntmps155
    go_wp2
    go_ret3
    exact ⟨rfl, rfl⟩

set_option maxHeartbeats 1000000 in
theorem get_whole (q K : Nat) (hqK : (q = 0 ∧ K = 1) ∨ (q = 1 ∧ K = 2) ∨ (q = 2 ∧ K = 4) ∨ (q = 3 ∧ K = 8)) (b off len cap : Nat) (zs : List Int) (z : Int) (w : World) (hz0 : zs[0]?.getD 0 = z) (hq : z / 64 = q) (hz : zs.length = len) (hl : len ≤ 1073741824) (hcap : len ≤ cap) (hs : K ≤ len)
    (hc : ∀ j : Nat, j < len → w.cell? ⟨b, off + j, none⟩ = some (.int .u8 (zs[j]?.getD 0))) (hb : ∀ j : Nat, 0 ≤ zs[j]?.getD 0 ∧ zs[j]?.getD 0 ≤ 255) (hL : Lens w) :
    Calls Tryz.prog 155 #[.slice (some ⟨b, off, none⟩) len cap] w fun e w' => e = .returned (.tuple #[.int .u64 (told zs (K - 1)), .int .i64 K, .int .i64 0]) ∧ w' = w := by
  have hp : 0 < len := by omega
  have hc0 : w.cell? ⟨b, off, none⟩ = some (.int .u8 z) := by rw [← hz0]; exact hc 0 hp
  have HB := fun (i : Nat) (hi : i ≤ 7) => told_bound zs i hi hb
  have HS := fun (i : Nat) (hi : i + 1 < len) => told_succ zs i (by rw [hz]; exact hi)
  have H0 : Hid (told zs 0 = z % 64) := by rw [← hz0]; exact told_zero zs
  obtain ⟨l0, l1, l2, l3⟩ := hL
  have hb0 : 0 ≤ z ∧ z ≤ 255 := by rw [← hz0]; exact hb 0
  have hne : ((len : Int) == 0) = false := by simp; omega
  have hm := mask63 _ hb0.1 hb0.2
  clear hz hz0
  rcases hqK with ⟨rfl, rfl⟩ | ⟨rfl, rfl⟩ | ⟨rfl, rfl⟩ | ⟨rfl, rfl⟩
  · by_cases hc1 : cap = 1
    all_goals
      go_enter Tryz.func155, Tryz.ntmps155
      go_wp2
      refine wp_loop_rounds 1 ?_
      rw [rounds_succ]
      go_wp2
      go_ret3
      exact ⟨tup3 H0.out.symm rfl rfl, rfl⟩
  · go_enter Tryz.func155, Tryz.ntmps155
    go_wp2
    go_loop [6, 31] (fun n i => ∃ k : Nat, k ≤ 1 ∧ i = .int .i64 k ∧ n = .int .u64 (told zs k)) (fun _ i => 1 - (intOf i).toNat)
    case atStart => exact ⟨0, by omega, rfl, by rw [H0.out]⟩
    case round =>
      obtain ⟨k, hk, rfl, rfl⟩ := hrel
      have hbd := HB k (by omega)
      by_cases hlt : k < 1
      · have hcx : w.cell? ⟨b, off + 1 + k, none⟩ = some (.int .u8 (zs[k + 1]?.getD 0)) := by have := hc (k + 1) (by omega); rw [show off + (k + 1) = off + 1 + k by omega] at this; exact this
        have hbk := hb (k + 1)
        have hlow : told zs k < 72057594037927936 := told_low zs k (by omega) hb
        have hj := join8 (told zs k) (zs[k + 1]?.getD 0) hbd.1 hlow hbk.1 hbk.2
        have hsn : Hid (told zs (k + 1) = 256 * told zs k + zs[k + 1]?.getD 0) := HS k (by omega)
        generalize told zs k = n at *
        generalize zs[k + 1]?.getD 0 = c at *
        clear HB HS hb hc H0
        go_wp2
        go_round
        case rel => exact ⟨k + 1, by omega, by go_num, by rw [hsn.out]⟩
        case measure => simp [intOf]; omega
      · have hkl : k = 1 := by omega
        subst hkl
        clear HB HS hb hc H0
        go_wp2
        go_ret3
        exact ⟨rfl, rfl⟩
  · go_enter Tryz.func155, Tryz.ntmps155
    go_wp2
    go_loop [6, 31] (fun n i => ∃ k : Nat, k ≤ 3 ∧ i = .int .i64 k ∧ n = .int .u64 (told zs k)) (fun _ i => 3 - (intOf i).toNat)
    case atStart => exact ⟨0, by omega, rfl, by rw [H0.out]⟩
    case round =>
      obtain ⟨k, hk, rfl, rfl⟩ := hrel
      have hbd := HB k (by omega)
      by_cases hlt : k < 3
      · have hcx : w.cell? ⟨b, off + 1 + k, none⟩ = some (.int .u8 (zs[k + 1]?.getD 0)) := by have := hc (k + 1) (by omega); rw [show off + (k + 1) = off + 1 + k by omega] at this; exact this
        have hbk := hb (k + 1)
        have hlow : told zs k < 72057594037927936 := told_low zs k (by omega) hb
        have hj := join8 (told zs k) (zs[k + 1]?.getD 0) hbd.1 hlow hbk.1 hbk.2
        have hsn : Hid (told zs (k + 1) = 256 * told zs k + zs[k + 1]?.getD 0) := HS k (by omega)
        generalize told zs k = n at *
        generalize zs[k + 1]?.getD 0 = c at *
        clear HB HS hb hc H0
        go_wp2
        go_round
        case rel => exact ⟨k + 1, by omega, by go_num, by rw [hsn.out]⟩
        case measure => simp [intOf]; omega
      · have hkl : k = 3 := by omega
        subst hkl
        clear HB HS hb hc H0
        go_wp2
        go_ret3
        exact ⟨rfl, rfl⟩
  · go_enter Tryz.func155, Tryz.ntmps155
    go_wp2
    go_loop [6, 31] (fun n i => ∃ k : Nat, k ≤ 7 ∧ i = .int .i64 k ∧ n = .int .u64 (told zs k)) (fun _ i => 7 - (intOf i).toNat)
    case atStart => exact ⟨0, by omega, rfl, by rw [H0.out]⟩
    case round =>
      obtain ⟨k, hk, rfl, rfl⟩ := hrel
      have hbd := HB k (by omega)
      by_cases hlt : k < 7
      · have hcx : w.cell? ⟨b, off + 1 + k, none⟩ = some (.int .u8 (zs[k + 1]?.getD 0)) := by have := hc (k + 1) (by omega); rw [show off + (k + 1) = off + 1 + k by omega] at this; exact this
        have hbk := hb (k + 1)
        have hlow : told zs k < 72057594037927936 := told_low zs k (by omega) hb
        have hj := join8 (told zs k) (zs[k + 1]?.getD 0) hbd.1 hlow hbk.1 hbk.2
        have hsn : Hid (told zs (k + 1) = 256 * told zs k + zs[k + 1]?.getD 0) := HS k (by omega)
        generalize told zs k = n at *
        generalize zs[k + 1]?.getD 0 = c at *
        clear HB HS hb hc H0
        go_wp2
        go_round
        case rel => exact ⟨k + 1, by omega, by go_num, by rw [hsn.out]⟩
        case measure => simp [intOf]; omega
      · have hkl : k = 7 := by omega
        subst hkl
        clear HB HS hb hc H0
        go_wp2
        go_ret3
        exact ⟨rfl, rfl⟩

theorem kinds (z : Int) (h0 : 0 ≤ z) (h1 : z ≤ 255) : ∃ q K : Nat, z / 64 = q ∧ ((q = 0 ∧ K = 1) ∨ (q = 1 ∧ K = 2) ∨ (q = 2 ∧ K = 4) ∨ (q = 3 ∧ K = 8)) := by
  rcases (show z / 64 = 0 ∨ z / 64 = 1 ∨ z / 64 = 2 ∨ z / 64 = 3 by omega) with h | h | h | h
  · exact ⟨0, 1, h, by omega⟩
  · exact ⟨1, 2, h, by omega⟩
  · exact ⟨2, 4, h, by omega⟩
  · exact ⟨3, 8, h, by omega⟩

/-- What Get answers, as a value. -/
def getV (zs : List Int) : Value := .tuple #[.int .u64 (getR zs).1, .int .i64 (getR zs).2.1, .int .i64 (getR zs).2.2]

theorem getV_none {zs : List Int} (h : zs.length = 0) : getV zs = .tuple #[.int .u64 0, .int .i64 0, .int .i64 4] := by
  unfold getV getR; rw [if_pos h]; rfl
theorem getV_short {zs : List Int} {z : Int} {K : Nat} (hz0 : zs[0]?.getD 0 = z) (hk : klen z = K) (h : zs.length < K) : getV zs = .tuple #[.int .u64 0, .int .i64 0, .int .i64 4] := by
  unfold getV; rw [getR_short hz0 hk h]; rfl
theorem getV_done {zs : List Int} {z : Int} {K : Nat} (hz0 : zs[0]?.getD 0 = z) (hk : klen z = K) (hp : 0 < zs.length) (h : K ≤ zs.length) : getV zs = .tuple #[.int .u64 (told zs (K - 1)), .int .i64 K, .int .i64 0] := by
  unfold getV; rw [getR_done hz0 hk hp h]

/-- varint.Get, at any bytes. -/
theorem get_any (a : Option Addr) (len cap : Nat) (zs : List Int) (w : World) (hz : zs.length = len) (hl : len ≤ 1073741824) (hcap : len ≤ cap) (hLies : LiesV w a zs) (hb : ∀ j : Nat, 0 ≤ zs[j]?.getD 0 ∧ zs[j]?.getD 0 ≤ 255) (hL : Lens w) :
    Calls Tryz.prog 155 #[.slice a len cap] w fun e w' => e = .returned (getV zs) ∧ w' = w := by
  by_cases hp : len = 0
  · subst hp; rw [getV_none hz]; exact get_none a cap w
  rcases hLies with h0 | ⟨b, off, rfl, _, hc⟩
  · rw [h0] at hz; exact absurd hz.symm hp
  obtain ⟨q, K, hq, hqK⟩ := kinds _ (hb 0).1 (hb 0).2
  have hk := klen_of hq (hb 0).1 hqK
  rw [hz] at hc
  by_cases hs : len < K
  · rw [getV_short rfl hk (by omega)]
    exact get_short q K hqK b off len cap _ w hq hl (by omega) hs (by exact hc 0 (by omega)) (hb 0) hL
  · rw [getV_done rfl hk (by omega) (by omega)]
    exact get_whole q K hqK b off len cap zs _ w rfl hq hz hl hcap (by omega) hc hb hL

end Go.Proofs.YtaighdppemnglaaGreatDoor

/-! What varint.Put answers, and what it leaves in memory. -/
namespace Go.Proofs.YtaighdppemnglaaGreatDoor
open Go.RowKit

theorem mk1 : ∀ w : World, (Instr.makeSlice 26 (.int .i64 1) (.int .i64 1)).run Tryz.prog w = .ok (.slice (some ⟨w.heap.size, 0, none⟩) 1 1) (w.alloc (.cells #[.int .u8 0] 5)) := fun _ => by kernel_rfl
theorem mk2 : ∀ w : World, (Instr.makeSlice 26 (.int .i64 2) (.int .i64 2)).run Tryz.prog w = .ok (.slice (some ⟨w.heap.size, 0, none⟩) 2 2) (w.alloc (.cells #[.int .u8 0, .int .u8 0] 5)) := fun _ => by kernel_rfl
theorem mk4 : ∀ w : World, (Instr.makeSlice 26 (.int .i64 4) (.int .i64 4)).run Tryz.prog w = .ok (.slice (some ⟨w.heap.size, 0, none⟩) 4 4) (w.alloc (.cells #[.int .u8 0, .int .u8 0, .int .u8 0, .int .u8 0] 5)) := fun _ => by kernel_rfl
theorem mk8 : ∀ w : World, (Instr.makeSlice 26 (.int .i64 8) (.int .i64 8)).run Tryz.prog w = .ok (.slice (some ⟨w.heap.size, 0, none⟩) 8 8) (w.alloc (.cells #[.int .u8 0, .int .u8 0, .int .u8 0, .int .u8 0, .int .u8 0, .int .u8 0, .int .u8 0, .int .u8 0] 5)) := fun _ => by kernel_rfl

set_option maxHeartbeats 400000 in
theorem put_no (n : Int) (w : World) (h : 4611686018427387903 < n) :
    Calls Tryz.prog 125 #[.int .u64 n] w fun e w' => e = .returned (.tuple #[.slice none 0 0, .int .i64 1]) ∧ w' = w := by
  go_enter Tryz.func125, Tryz.ntmps125
  go_wp2
  go_ret2
  exact ⟨rfl, rfl⟩

set_option maxHeartbeats 4000000 in
theorem put_1 (n : Int) (w : World) (h0 : 0 ≤ n) (h1 : n < 64) (hL : Lens w) :
    Calls Tryz.prog 125 #[.int .u64 n] w fun e w' => e = .returned (.tuple #[.slice (some ⟨w.heap.size, 0, none⟩) 1 1, .int .i64 0]) ∧ w' = w.alloc (.cells #[.int .u8 (n)] 5) := by
  obtain ⟨l0, l1, l2, l3⟩ := hL
  have hmk := mk1
  have hor := or_kind (n) 0 (by omega) (by omega) (by decide) (by decide)
  simp only [Int.zero_mul, Int.zero_add] at hor
  go_enter Tryz.func125, Tryz.ntmps125
  go_wp2
  refine wp_loop_rounds 1 ?_
  rw [rounds_succ]
  go_wp2
  refine wp_loop_rounds 2 ?_
  rw [rounds_succ]
  go_wp2
  rw [rounds_succ]
  go_wp2
  go_ret2
  exact ⟨rfl, rfl⟩

set_option maxHeartbeats 4000000 in
theorem put_2 (n : Int) (w : World) (h0 : 64 ≤ n) (h1 : n < 16384) (hL : Lens w) :
    Calls Tryz.prog 125 #[.int .u64 n] w fun e w' => e = .returned (.tuple #[.slice (some ⟨w.heap.size, 0, none⟩) 2 2, .int .i64 0]) ∧ w' = w.alloc (.cells #[.int .u8 (64 + n / 256), .int .u8 (n % 256)] 5) := by
  obtain ⟨l0, l1, l2, l3⟩ := hL
  have hmk := mk2
  have hor := or_kind (n / 256) 1 (by omega) (by omega) (by decide) (by decide)
  simp only [Int.reduceMul] at hor
  go_enter Tryz.func125, Tryz.ntmps125
  go_wp2
  refine wp_loop_rounds 2 ?_
  rw [rounds_succ]
  go_wp2
  rw [rounds_succ]
  go_wp2
  refine wp_loop_rounds 3 ?_
  rw [rounds_succ]
  go_wp2
  rw [rounds_succ]
  go_wp2
  rw [rounds_succ]
  go_wp2
  go_ret2
  exact ⟨rfl, rfl⟩

set_option maxHeartbeats 4000000 in
theorem put_4 (n : Int) (w : World) (h0 : 16384 ≤ n) (h1 : n < 1073741824) (hL : Lens w) :
    Calls Tryz.prog 125 #[.int .u64 n] w fun e w' => e = .returned (.tuple #[.slice (some ⟨w.heap.size, 0, none⟩) 4 4, .int .i64 0]) ∧ w' = w.alloc (.cells #[.int .u8 (128 + n / 16777216), .int .u8 (n / 65536 % 256), .int .u8 (n / 256 % 256), .int .u8 (n % 256)] 5) := by
  obtain ⟨l0, l1, l2, l3⟩ := hL
  have hmk := mk4
  have hor := or_kind (n / 16777216) 2 (by omega) (by omega) (by decide) (by decide)
  simp only [Int.reduceMul] at hor
  go_enter Tryz.func125, Tryz.ntmps125
  go_wp2
  refine wp_loop_rounds 3 ?_
  rw [rounds_succ]
  go_wp2
  rw [rounds_succ]
  go_wp2
  rw [rounds_succ]
  go_wp2
  refine wp_loop_rounds 5 ?_
  rw [rounds_succ]
  go_wp2
  rw [rounds_succ]
  go_wp2
  rw [rounds_succ]
  go_wp2
  rw [rounds_succ]
  go_wp2
  rw [rounds_succ]
  go_wp2
  go_ret2
  exact ⟨rfl, rfl⟩

set_option maxHeartbeats 4000000 in
theorem put_8 (n : Int) (w : World) (h0 : 1073741824 ≤ n) (h1 : n < 4611686018427387904) (hL : Lens w) :
    Calls Tryz.prog 125 #[.int .u64 n] w fun e w' => e = .returned (.tuple #[.slice (some ⟨w.heap.size, 0, none⟩) 8 8, .int .i64 0]) ∧ w' = w.alloc (.cells #[.int .u8 (192 + n / 72057594037927936), .int .u8 (n / 281474976710656 % 256), .int .u8 (n / 1099511627776 % 256), .int .u8 (n / 4294967296 % 256), .int .u8 (n / 16777216 % 256), .int .u8 (n / 65536 % 256), .int .u8 (n / 256 % 256), .int .u8 (n % 256)] 5) := by
  obtain ⟨l0, l1, l2, l3⟩ := hL
  have hmk := mk8
  have hor := or_kind (n / 72057594037927936) 3 (by omega) (by omega) (by decide) (by decide)
  simp only [Int.reduceMul] at hor
  go_enter Tryz.func125, Tryz.ntmps125
  go_wp2
  refine wp_loop_rounds 4 ?_
  rw [rounds_succ]
  go_wp2
  rw [rounds_succ]
  go_wp2
  rw [rounds_succ]
  go_wp2
  rw [rounds_succ]
  go_wp2
  refine wp_loop_rounds 9 ?_
  rw [rounds_succ]
  go_wp2
  rw [rounds_succ]
  go_wp2
  rw [rounds_succ]
  go_wp2
  rw [rounds_succ]
  go_wp2
  rw [rounds_succ]
  go_wp2
  rw [rounds_succ]
  go_wp2
  rw [rounds_succ]
  go_wp2
  rw [rounds_succ]
  go_wp2
  rw [rounds_succ]
  go_wp2
  go_ret2
  exact ⟨rfl, rfl⟩
end Go.Proofs.YtaighdppemnglaaGreatDoor
