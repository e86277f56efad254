/-
  Out of FrVarP, FrVarG, FrVarT, FrVar.
-/
import Derived.Laws.BitsAllLaws
import Derived.Test.YtjccjlhnjihfjaaDoorRows
import Derived.WalkKit
import Derived.WalkSpells
import Derived.WalkLawsBesides
import Derived.Test.YtjccjlhnjihfjaaDoorGh2
import Derived.Test.YtjccjlhnjihfjaaDoorGh8

/-! Plain arithmetic on lists of bytes for layer 1: no program in sight. -/
namespace Go.Proofs.YtjccjlhnjihfjaaDoor
open Go

/-- How many bytes a number has, by its first byte. -/
def klen (z : Int) : Nat := if z < 64 then 1 else if z < 128 then 2 else if z < 192 then 4 else 8

/-- The number that bytes tell, the highest first, behind what is told already. -/
def acc (n : Int) : List Int → Int
  | [] => n
  | c :: r => acc (256 * n + c) r

theorem acc_snoc (n : Int) (l : List Int) (c : Int) : acc n (l ++ [c]) = 256 * acc n l + c := by
  induction l generalizing n with
  | nil => rfl
  | cons a r ih => exact ih (256 * n + a)

def isBytes (l : List Int) : Prop := ∀ c ∈ l, 0 ≤ c ∧ c ≤ 255

theorem acc_bound (l : List Int) : ∀ (n : Int) (m : Nat), 0 ≤ n → n < 2 ^ m → isBytes l → 0 ≤ acc n l ∧ acc n l < 2 ^ (m + 8 * l.length) := by
  induction l with
  | nil => intro n m h0 h1 _; exact ⟨h0, by simpa [acc] using h1⟩
  | cons c r ih =>
    intro n m h0 h1 hb
    have hc := hb c (by simp)
    have h2 := ih (256 * n + c) (m + 8) (by omega) (by
      have : (2 : Int) ^ (m + 8) = 2 ^ m * 256 := by rw [Int.pow_add]; rfl
      omega) (fun x hx => hb x (by simp [hx]))
    have e : m + 8 + 8 * r.length = m + 8 * (c :: r).length := by simp; omega
    rw [e] at h2
    exact h2

theorem take_snocV (zs : List Int) (k : Nat) (h : k < zs.length) : zs.take (k + 1) = zs.take k ++ [zs[k]?.getD 0] := by
  rw [List.take_succ_eq_append_getElem h]
  simp [h]

/-- What is told by the first 1 + i bytes. -/
def told (zs : List Int) (i : Nat) : Int := acc (zs[0]?.getD 0 % 64) ((zs.drop 1).take i)

theorem told_zero (zs : List Int) : told zs 0 = zs[0]?.getD 0 % 64 := by simp [told, acc]

theorem told_succ (zs : List Int) (i : Nat) (h : i + 1 < zs.length) : told zs (i + 1) = 256 * told zs i + zs[i + 1]?.getD 0 := by
  unfold told
  rw [take_snocV (zs.drop 1) i (by simp; omega), acc_snoc]
  simp

theorem told_bound (zs : List Int) (i : Nat) (hi : i ≤ 7) (hb : ∀ j : Nat, 0 ≤ zs[j]?.getD 0 ∧ zs[j]?.getD 0 ≤ 255) : 0 ≤ told zs i ∧ told zs i < 2 ^ (6 + 8 * i) ∧ told zs i < 4611686018427387904 := by
  have hl : ((zs.drop 1).take i).length ≤ i := by simp; omega
  have h := acc_bound ((zs.drop 1).take i) (zs[0]?.getD 0 % 64) 6 (by have := hb 0; omega) (by have := hb 0; omega) (by
    intro c hc
    have hc' := List.mem_of_mem_take hc
    obtain ⟨j, hj, rfl⟩ := List.getElem_of_mem (List.mem_of_mem_drop hc')
    have := hb j
    simpa [hj] using this)
  have hp : (2 : Int) ^ (6 + 8 * ((zs.drop 1).take i).length) ≤ 2 ^ (6 + 8 * i) := by
    have := Nat.pow_le_pow_right (n := 2) (by decide) (show 6 + 8 * ((zs.drop 1).take i).length ≤ 6 + 8 * i by omega)
    exact_mod_cast this
  have hq : (2 : Int) ^ (6 + 8 * i) ≤ 4611686018427387904 := by
    have e : (2 : Int) ^ 62 = 4611686018427387904 := by decide
    have hn := Nat.pow_le_pow_right (n := 2) (by decide) (show 6 + 8 * i ≤ 62 by omega)
    have hz := Int.ofNat_le.2 hn
    rw [Int.natCast_pow, Int.natCast_pow] at hz
    exact Int.le_trans hz (Int.le_of_eq e)
  unfold told
  omega

theorem told_low (zs : List Int) (i : Nat) (hi : i ≤ 6) (hb : ∀ j : Nat, 0 ≤ zs[j]?.getD 0 ∧ zs[j]?.getD 0 ≤ 255) : told zs i < 72057594037927936 := by
  have h := (told_bound zs i (by omega) hb).2.1
  have e : (2 : Int) ^ 54 ≤ 72057594037927936 := by decide
  have hn := Nat.pow_le_pow_right (n := 2) (by decide) (show 6 + 8 * i ≤ 54 by omega)
  have hz := Int.ofNat_le.2 hn
  rw [Int.natCast_pow, Int.natCast_pow] at hz
  exact Int.lt_of_lt_of_le h (Int.le_trans hz e)

/-- One more byte, by moving and joining bits. -/
theorem join8 (n c : Int) (h0 : 0 ≤ n) (h1 : n < 72057594037927936) (h2 : 0 ≤ c) (h3 : c ≤ 255) : bits .or .u64 (n * 256) c = 256 * n + c := by
  rw [u64_or _ _ (by omega) (by omega) (by omega) (by omega)]
  have hx : (n * 256).toNat % 2 ^ 8 = 0 := by omega
  rw [nat_join 8 _ _ hx (by omega)]
  omega

theorem mask63 (c : Int) (h0 : 0 ≤ c) (h1 : c ≤ 255) : bits .and .u8 c 63 = c % 64 := by
  rw [u8_and _ _ (by omega) (by omega) (by omega) (by omega)]
  have : (63 : Int).toNat = 63 := rfl
  rw [this, nat_mask6]
  omega

/-- The two highest bits of a byte, joined to what stands below them. -/
theorem or_kind (x k : Int) (h0 : 0 ≤ x) (h1 : x < 64) (hk0 : 0 ≤ k) (hk : k ≤ 3) : bits .or .u8 x (k * 64) = k * 64 + x := by
  rw [u8_or _ _ (by omega) (by omega) (by omega) (by omega), Nat.or_comm]
  have hx : (k * 64).toNat % 2 ^ 6 = 0 := by omega
  rw [nat_join 6 _ _ hx (by omega)]
  omega

/-- The bytes of a number, in as few as can be. -/
def putL (n : Int) : List Int :=
  if n < 64 then [n] else if n < 16384 then [64 + n / 256, n % 256]
  else if n < 1073741824 then [128 + n / 16777216, n / 65536 % 256, n / 256 % 256, n % 256]
  else [192 + n / 72057594037927936, n / 281474976710656 % 256, n / 1099511627776 % 256, n / 4294967296 % 256, n / 16777216 % 256, n / 65536 % 256, n / 256 % 256, n % 256]

end Go.Proofs.YtjccjlhnjihfjaaDoor

/-! What varint.Get and the document's Get answer. -/
namespace Go.Proofs.YtjccjlhnjihfjaaDoor
open Go.RowKit

/-- Where bytes lie that are read: they are none, or a row of cells. -/
def LiesV (w : World) (a : Option Addr) (zs : List Int) : Prop :=
  zs = [] ∨ ∃ b off, a = some ⟨b, off, none⟩ ∧ b < w.heap.size ∧ ∀ j : Nat, j < zs.length → w.cell? ⟨b, off + j, none⟩ = some (.int .u8 (zs[j]?.getD 0))

theorem Tryd.infoByteV : (Tryd.prog.info? 5).map (fun i => (i.zero, i.size, i.bytes)) = some (some (.int .u8 0), 1, 1) := by kernel_rfl


/-- What Get answers: the number, how many bytes, the error's number. -/
def getR (zs : List Int) : Int × Nat × Int :=
  if zs.length = 0 then (0, 0, 4) else if zs.length < klen (zs[0]?.getD 0) then (0, 0, 4) else (told zs (klen (zs[0]?.getD 0) - 1), klen (zs[0]?.getD 0), 0)

/-- The array of lengths lies as its text lays it. -/
def Lens (w : World) : Prop := w.cell? ⟨0, 0, none⟩ = some (.int .i64 1) ∧ w.cell? ⟨0, 1, none⟩ = some (.int .i64 2) ∧ w.cell? ⟨0, 2, none⟩ = some (.int .i64 4) ∧ w.cell? ⟨0, 3, none⟩ = some (.int .i64 8)

set_option maxHeartbeats 400000 in
theorem get_none (a : Option Addr) (cap : Nat) (w : World) :
    Calls Tryd.prog 100 #[.slice a 0 cap] w fun e w' => e = .returned (.tuple #[.int .u64 0, .int .i64 0, .int .i64 4]) ∧ w' = w := by
  go_enter Tryd.func100, Tryd.ntmps100
  go_wp2
  go_ret3
  exact ⟨rfl, rfl⟩

theorem getR_short {zs : List Int} {z : Int} {K : Nat} (hz0 : zs[0]?.getD 0 = z) (hk : klen z = K) (h : zs.length < K) : getR zs = (0, 0, 4) := by
  unfold getR; rw [hz0, hk]; simp [h]
theorem getR_done {zs : List Int} {z : Int} {K : Nat} (hz0 : zs[0]?.getD 0 = z) (hk : klen z = K) (hp : 0 < zs.length) (h : K ≤ zs.length) : getR zs = (told zs (K - 1), K, 0) := by
  unfold getR; rw [hz0, hk, if_neg (by omega), if_neg (by omega)]

theorem tup3 {a b c a' b' c' : Int} (h1 : a = a') (h2 : b = b') (h3 : c = c') : Ending.returned (.tuple #[.int .u64 a, .int .i64 b, .int .i64 c]) = .returned (.tuple #[.int .u64 a', .int .i64 b', .int .i64 c']) := by rw [h1, h2, h3]

theorem klen_of {z : Int} {q K : Nat} (hq : z / 64 = q) (h0 : 0 ≤ z) (h : (q = 0 ∧ K = 1) ∨ (q = 1 ∧ K = 2) ∨ (q = 2 ∧ K = 4) ∨ (q = 3 ∧ K = 8)) : klen z = K := by
  unfold klen
  rcases h with ⟨rfl, rfl⟩ | ⟨rfl, rfl⟩ | ⟨rfl, rfl⟩ | ⟨rfl, rfl⟩
  · rw [if_pos (by omega)]
  · rw [if_neg (by omega), if_pos (by omega)]
  · rw [if_neg (by omega), if_neg (by omega), if_pos (by omega)]
  · rw [if_neg (by omega), if_neg (by omega), if_neg (by omega)]

theorem kinds (z : Int) (h0 : 0 ≤ z) (h1 : z ≤ 255) : ∃ q K : Nat, z / 64 = q ∧ ((q = 0 ∧ K = 1) ∨ (q = 1 ∧ K = 2) ∨ (q = 2 ∧ K = 4) ∨ (q = 3 ∧ K = 8)) := by
  rcases (show z / 64 = 0 ∨ z / 64 = 1 ∨ z / 64 = 2 ∨ z / 64 = 3 by omega) with h | h | h | h
  · exact ⟨0, 1, h, by omega⟩
  · exact ⟨1, 2, h, by omega⟩
  · exact ⟨2, 4, h, by omega⟩
  · exact ⟨3, 8, h, by omega⟩

/-- What Get answers, as a value. -/
def getV (zs : List Int) : Value := .tuple #[.int .u64 (getR zs).1, .int .i64 (getR zs).2.1, .int .i64 (getR zs).2.2]

theorem getV_none {zs : List Int} (h : zs.length = 0) : getV zs = .tuple #[.int .u64 0, .int .i64 0, .int .i64 4] := by
  unfold getV getR; rw [if_pos h]; rfl
theorem getV_short {zs : List Int} {z : Int} {K : Nat} (hz0 : zs[0]?.getD 0 = z) (hk : klen z = K) (h : zs.length < K) : getV zs = .tuple #[.int .u64 0, .int .i64 0, .int .i64 4] := by
  unfold getV; rw [getR_short hz0 hk h]; rfl
theorem getV_done {zs : List Int} {z : Int} {K : Nat} (hz0 : zs[0]?.getD 0 = z) (hk : klen z = K) (hp : 0 < zs.length) (h : K ≤ zs.length) : getV zs = .tuple #[.int .u64 (told zs (K - 1)), .int .i64 K, .int .i64 0] := by
  unfold getV; rw [getR_done hz0 hk hp h]

end Go.Proofs.YtjccjlhnjihfjaaDoor

/-! What varint.Put answers, and what it leaves in memory. -/
namespace Go.Proofs.YtjccjlhnjihfjaaDoor
open Go.RowKit

theorem mk1 : ∀ w : World, (Instr.makeSlice 28 (.int .i64 1) (.int .i64 1)).run Tryd.prog w = .ok (.slice (some ⟨w.heap.size, 0, none⟩) 1 1) (w.alloc (.cells #[.int .u8 0] 5)) := fun _ => by kernel_rfl
theorem mk2 : ∀ w : World, (Instr.makeSlice 28 (.int .i64 2) (.int .i64 2)).run Tryd.prog w = .ok (.slice (some ⟨w.heap.size, 0, none⟩) 2 2) (w.alloc (.cells #[.int .u8 0, .int .u8 0] 5)) := fun _ => by kernel_rfl
theorem mk4 : ∀ w : World, (Instr.makeSlice 28 (.int .i64 4) (.int .i64 4)).run Tryd.prog w = .ok (.slice (some ⟨w.heap.size, 0, none⟩) 4 4) (w.alloc (.cells #[.int .u8 0, .int .u8 0, .int .u8 0, .int .u8 0] 5)) := fun _ => by kernel_rfl
theorem mk8 : ∀ w : World, (Instr.makeSlice 28 (.int .i64 8) (.int .i64 8)).run Tryd.prog w = .ok (.slice (some ⟨w.heap.size, 0, none⟩) 8 8) (w.alloc (.cells #[.int .u8 0, .int .u8 0, .int .u8 0, .int .u8 0, .int .u8 0, .int .u8 0, .int .u8 0, .int .u8 0] 5)) := fun _ => by kernel_rfl

set_option maxHeartbeats 400000 in
theorem put_no (n : Int) (w : World) (h : 4611686018427387903 < n) :
    Calls Tryd.prog 25 #[.int .u64 n] w fun e w' => e = .returned (.tuple #[.slice none 0 0, .int .i64 1]) ∧ w' = w := by
  go_enter Tryd.func25, Tryd.ntmps25
  go_wp2
  go_ret2
  exact ⟨rfl, rfl⟩

set_option maxHeartbeats 4000000 in
theorem put_1 (n : Int) (w : World) (h0 : 0 ≤ n) (h1 : n < 64) (hL : Lens w) :
    Calls Tryd.prog 25 #[.int .u64 n] w fun e w' => e = .returned (.tuple #[.slice (some ⟨w.heap.size, 0, none⟩) 1 1, .int .i64 0]) ∧ w' = w.alloc (.cells #[.int .u8 (n)] 5) := by
  obtain ⟨l0, l1, l2, l3⟩ := hL
  have hmk := mk1
  have hor := or_kind (n) 0 (by omega) (by omega) (by decide) (by decide)
  simp only [Int.zero_mul, Int.zero_add] at hor
  go_enter Tryd.func25, Tryd.ntmps25
  go_wp2
  refine wp_loop_rounds 1 ?_
  rw [rounds_succ]
  go_wp2
  refine wp_loop_rounds 2 ?_
  rw [rounds_succ]
  go_wp2
  rw [rounds_succ]
  go_wp2
  go_ret2
  exact ⟨rfl, rfl⟩

set_option maxHeartbeats 4000000 in
theorem put_2 (n : Int) (w : World) (h0 : 64 ≤ n) (h1 : n < 16384) (hL : Lens w) :
    Calls Tryd.prog 25 #[.int .u64 n] w fun e w' => e = .returned (.tuple #[.slice (some ⟨w.heap.size, 0, none⟩) 2 2, .int .i64 0]) ∧ w' = w.alloc (.cells #[.int .u8 (64 + n / 256), .int .u8 (n % 256)] 5) := by
  obtain ⟨l0, l1, l2, l3⟩ := hL
  have hmk := mk2
  have hor := or_kind (n / 256) 1 (by omega) (by omega) (by decide) (by decide)
  simp only [Int.reduceMul] at hor
  go_enter Tryd.func25, Tryd.ntmps25
  go_wp2
  refine wp_loop_rounds 2 ?_
  rw [rounds_succ]
  go_wp2
  rw [rounds_succ]
  go_wp2
  refine wp_loop_rounds 3 ?_
  rw [rounds_succ]
  go_wp2
  rw [rounds_succ]
  go_wp2
  rw [rounds_succ]
  go_wp2
  go_ret2
  exact ⟨rfl, rfl⟩

set_option maxHeartbeats 4000000 in
theorem put_4 (n : Int) (w : World) (h0 : 16384 ≤ n) (h1 : n < 1073741824) (hL : Lens w) :
    Calls Tryd.prog 25 #[.int .u64 n] w fun e w' => e = .returned (.tuple #[.slice (some ⟨w.heap.size, 0, none⟩) 4 4, .int .i64 0]) ∧ w' = w.alloc (.cells #[.int .u8 (128 + n / 16777216), .int .u8 (n / 65536 % 256), .int .u8 (n / 256 % 256), .int .u8 (n % 256)] 5) := by
  obtain ⟨l0, l1, l2, l3⟩ := hL
  have hmk := mk4
  have hor := or_kind (n / 16777216) 2 (by omega) (by omega) (by decide) (by decide)
  simp only [Int.reduceMul] at hor
  go_enter Tryd.func25, Tryd.ntmps25
  go_wp2
  refine wp_loop_rounds 3 ?_
  rw [rounds_succ]
  go_wp2
  rw [rounds_succ]
  go_wp2
  rw [rounds_succ]
  go_wp2
  refine wp_loop_rounds 5 ?_
  rw [rounds_succ]
  go_wp2
  rw [rounds_succ]
  go_wp2
  rw [rounds_succ]
  go_wp2
  rw [rounds_succ]
  go_wp2
  rw [rounds_succ]
  go_wp2
  go_ret2
  exact ⟨rfl, rfl⟩

set_option maxHeartbeats 4000000 in
theorem put_8 (n : Int) (w : World) (h0 : 1073741824 ≤ n) (h1 : n < 4611686018427387904) (hL : Lens w) :
    Calls Tryd.prog 25 #[.int .u64 n] w fun e w' => e = .returned (.tuple #[.slice (some ⟨w.heap.size, 0, none⟩) 8 8, .int .i64 0]) ∧ w' = w.alloc (.cells #[.int .u8 (192 + n / 72057594037927936), .int .u8 (n / 281474976710656 % 256), .int .u8 (n / 1099511627776 % 256), .int .u8 (n / 4294967296 % 256), .int .u8 (n / 16777216 % 256), .int .u8 (n / 65536 % 256), .int .u8 (n / 256 % 256), .int .u8 (n % 256)] 5) := by
  obtain ⟨l0, l1, l2, l3⟩ := hL
  have hmk := mk8
  have hor := or_kind (n / 72057594037927936) 3 (by omega) (by omega) (by decide) (by decide)
  simp only [Int.reduceMul] at hor
  go_enter Tryd.func25, Tryd.ntmps25
  go_wp2
  refine wp_loop_rounds 4 ?_
  rw [rounds_succ]
  go_wp2
  rw [rounds_succ]
  go_wp2
  rw [rounds_succ]
  go_wp2
  rw [rounds_succ]
  go_wp2
  refine wp_loop_rounds 9 ?_
  rw [rounds_succ]
  go_wp2
  rw [rounds_succ]
  go_wp2
  rw [rounds_succ]
  go_wp2
  rw [rounds_succ]
  go_wp2
  rw [rounds_succ]
  go_wp2
  rw [rounds_succ]
  go_wp2
  rw [rounds_succ]
  go_wp2
  rw [rounds_succ]
  go_wp2
  rw [rounds_succ]
  go_wp2
  go_ret2
  exact ⟨rfl, rfl⟩
end Go.Proofs.YtjccjlhnjihfjaaDoor

/-! varint.Put, varint.Get and the document's Get, in the words of layer 7. -/
namespace Go.Proofs.YtjccjlhnjihfjaaDoor
open Go Go.RowKit

theorem ofNat8_v8 (n : Nat) : v8 (BitVec.ofNat 8 n) = (n : Int) % 256 := by
  unfold v8
  rw [BitVec.toNat_ofNat]
  omega

theorem putL_num (n : Nat) (h : n ≤ 4611686018427387903) : putL (n : Int) = (Fr.numL n).map v8 := by
  unfold putL
  by_cases c1 : n < 64
  · rw [if_pos (by omega), Fr.numL_1 n c1]
    simp only [List.map_cons, List.map_nil, ofNat8_v8]
    congr 1
    omega
  by_cases c2 : n < 16384
  · rw [if_neg (by omega), if_pos (by omega), Fr.numL_2 n c1 c2]
    simp only [List.map_cons, List.map_nil, ofNat8_v8]
    congr 1
    · omega
    · congr 1
      omega
  by_cases c3 : n < 1073741824
  · rw [if_neg (by omega), if_neg (by omega), if_pos (by omega), Fr.numL_4 n c1 c2 c3]
    simp only [List.map_cons, List.map_nil, ofNat8_v8]
    refine List.cons_eq_cons.2 ⟨by omega, List.cons_eq_cons.2 ⟨by omega, List.cons_eq_cons.2 ⟨by omega, List.cons_eq_cons.2 ⟨by omega, rfl⟩⟩⟩⟩
  · rw [if_neg (by omega), if_neg (by omega), if_neg (by omega), Fr.numL_8 n c1 c2 c3]
    simp only [List.map_cons, List.map_nil, ofNat8_v8]
    refine List.cons_eq_cons.2 ⟨by omega, List.cons_eq_cons.2 ⟨by omega, List.cons_eq_cons.2 ⟨by omega, List.cons_eq_cons.2 ⟨by omega, List.cons_eq_cons.2 ⟨by omega, List.cons_eq_cons.2 ⟨by omega, List.cons_eq_cons.2 ⟨by omega, List.cons_eq_cons.2 ⟨by omega, rfl⟩⟩⟩⟩⟩⟩⟩⟩

theorem vb_map (b : List By) : (b.map v8).map (Value.int .u8) = vb b := by simp [vb]

theorem own_litV (w : World) (b : List By) (h : b.length ≤ maxLen) : (w.alloc (.cells (vb b).toArray 5)).ownsRow w.heap.size 5 1 (.slice (some ⟨w.heap.size, 0, none⟩) b.length b.length) b.length (vb b) := by
  have := World.ownsRow_lit (base := w.heap.size) (e := 5) (size := 1) w (vb b).toArray b.length (Nat.le_refl _) h (by simp [vb_length])
  simpa [vb_length] using this

/-- varint.Put: a number's bytes, in memory of their own. -/
theorem var_put (n : Nat) (w : World) (h : n ≤ 4611686018427387903) (hL : Lens w) :
    Calls Tryd.prog 25 #[.int .u64 (n : Int)] w fun e w' => e = .returned (.tuple #[.slice (some ⟨w.heap.size, 0, none⟩) (Fr.numL n).length (Fr.numL n).length, .int .i64 0]) ∧ w'.ownsRow w.heap.size 5 1 (.slice (some ⟨w.heap.size, 0, none⟩) (Fr.numL n).length (Fr.numL n).length) (Fr.numL n).length (vb (Fr.numL n)) ∧ Below w.heap.size w w' := by
  have hm : (Fr.numL n).length ≤ maxLen := by have := Fr.szN_le n; rw [Fr.numL_length]; unfold maxLen; omega
  have ho := own_litV w (Fr.numL n) hm
  have hB : Below w.heap.size w (w.alloc (.cells (vb (Fr.numL n)).toArray 5)) := (Below.refl _ w).alloc (Nat.le_refl _) _
  have hp := putL_num n h
  have hv : (putL (n : Int)).map (Value.int .u8) = vb (Fr.numL n) := by rw [hp, vb_map]
  have hlen : (putL (n : Int)).length = (Fr.numL n).length := by rw [hp, List.length_map]
  rw [← hv, ← hlen] at ho ⊢
  rw [← hv] at hB
  by_cases c1 : (n : Int) < 64
  · have e : putL (n : Int) = [(n : Int)] := by unfold putL; rw [if_pos c1]
    rw [e] at ho hB ⊢
    exact (put_1 n w (by omega) c1 hL).mono fun e' w' ⟨a1, a2⟩ => ⟨a1, by rw [a2]; exact ho, by rw [a2]; exact hB⟩
  by_cases c2 : (n : Int) < 16384
  · have e : putL (n : Int) = [64 + (n : Int) / 256, (n : Int) % 256] := by unfold putL; rw [if_neg c1, if_pos c2]
    rw [e] at ho hB ⊢
    exact (put_2 n w (by omega) c2 hL).mono fun e' w' ⟨a1, a2⟩ => ⟨a1, by rw [a2]; exact ho, by rw [a2]; exact hB⟩
  by_cases c3 : (n : Int) < 1073741824
  · have e : putL (n : Int) = [128 + (n : Int) / 16777216, (n : Int) / 65536 % 256, (n : Int) / 256 % 256, (n : Int) % 256] := by unfold putL; rw [if_neg c1, if_neg c2, if_pos c3]
    rw [e] at ho hB ⊢
    exact (put_4 n w (by omega) c3 hL).mono fun e' w' ⟨a1, a2⟩ => ⟨a1, by rw [a2]; exact ho, by rw [a2]; exact hB⟩
  · have e : putL (n : Int) = [192 + (n : Int) / 72057594037927936, (n : Int) / 281474976710656 % 256, (n : Int) / 1099511627776 % 256, (n : Int) / 4294967296 % 256, (n : Int) / 16777216 % 256, (n : Int) / 65536 % 256, (n : Int) / 256 % 256, (n : Int) % 256] := by unfold putL; rw [if_neg c1, if_neg c2, if_neg c3]
    rw [e] at ho hB ⊢
    exact (put_8 n w (by omega) (by omega) hL).mono fun e' w' ⟨a1, a2⟩ => ⟨a1, by rw [a2]; exact ho, by rw [a2]; exact hB⟩

/-- What Get answers of bytes. -/
def gotN (b : List By) : Nat × Nat × Nat := match Fr.getN b with
  | none => (0, 0, 4)
  | some (n, k) => (n, k, 0)

theorem acc_beV (l : List By) : ∀ n : Nat, acc (n : Int) (l.map v8) = (Fr.beV n l : Nat) := by
  induction l with
  | nil => intro n; rfl
  | cons c r ih =>
    intro n
    show acc (256 * (n : Int) + v8 c) (r.map v8) = _
    rw [show 256 * (n : Int) + v8 c = ((256 * n + c.toNat : Nat) : Int) by unfold v8; omega, ih]
    rfl

theorem klen_pow (c : By) : klen (v8 c) = 2 ^ (c.toNat / 64) := by
  have hc := c.isLt
  unfold klen v8
  rcases (show c.toNat / 64 = 0 ∨ c.toNat / 64 = 1 ∨ c.toNat / 64 = 2 ∨ c.toNat / 64 = 3 by omega) with h | h | h | h
  · rw [h, if_pos (by omega)]
  · rw [h, if_neg (by omega), if_pos (by omega)]
  · rw [h, if_neg (by omega), if_neg (by omega), if_pos (by omega)]
  · rw [h, if_neg (by omega), if_neg (by omega), if_neg (by omega)]

theorem gotN_cons (c : By) (r : List By) : gotN (c :: r) = if (c :: r).length < 2 ^ (c.toNat / 64) then (0, 0, 4) else (Fr.beV (c.toNat % 64) (r.take (2 ^ (c.toNat / 64) - 1)), 2 ^ (c.toNat / 64), 0) := by
  unfold gotN
  have e : Fr.getN (c :: r) = if (c :: r).length < 2 ^ (c.toNat / 64) then none else some (Fr.beV (c.toNat % 64) (r.take (2 ^ (c.toNat / 64) - 1)), 2 ^ (c.toNat / 64)) := rfl
  rw [e]
  by_cases hs : (c :: r).length < 2 ^ (c.toNat / 64)
  · rw [if_pos hs, if_pos hs]
  · rw [if_neg hs, if_neg hs]

theorem getR_num (b : List By) : getR (b.map v8) = (((gotN b).1 : Int), (gotN b).2.1, ((gotN b).2.2 : Int)) := by
  cases b with
  | nil => rfl
  | cons c r =>
    rw [gotN_cons]
    unfold getR
    rw [if_neg (by simp)]
    have e0 : ((c :: r).map v8)[0]?.getD 0 = v8 c := rfl
    rw [e0, klen_pow, List.length_map]
    by_cases hs : (c :: r).length < 2 ^ (c.toNat / 64)
    · rw [if_pos hs, if_pos hs]; rfl
    · rw [if_neg hs, if_neg hs]
      have : told ((c :: r).map v8) (2 ^ (c.toNat / 64) - 1) = (Fr.beV (c.toNat % 64) (r.take (2 ^ (c.toNat / 64) - 1)) : Nat) := by
        unfold told
        rw [e0, List.map_cons, List.drop_succ_cons, List.drop_zero, ← List.map_take, show v8 c % 64 = ((c.toNat % 64 : Nat) : Int) by unfold v8; omega, acc_beV]
      rw [this]
      rfl

theorem lies_sl {w : World} {s : SL} (h : s.Ok w) : LiesV w s.a (s.b.map v8) := by
  by_cases hp : 0 < s.len
  · refine .inr ⟨s.g, s.off, h.at_ hp, h.lt hp, fun j hj => ?_⟩
    rw [List.length_map, h.hb] at hj
    rw [h.cell j hj]
    congr 2
    unfold gb
    rw [List.getElem?_map, List.getElem?_eq_getElem (by rw [h.hb]; exact hj)]
    rfl
  · left
    rw [List.eq_nil_of_length_eq_zero (by have := h.hb; omega : s.b.length = 0)]
    rfl
theorem byte_range (b : List By) (j : Nat) : 0 ≤ (b.map v8)[j]?.getD 0 ∧ (b.map v8)[j]?.getD 0 ≤ 255 := by
  rw [List.getElem?_map]
  cases b[j]? with
  | none => exact ⟨by decide, by decide⟩
  | some c => exact ⟨v8_nn c, v8_le c⟩

def gotV (b : List By) : Value := .tuple #[.int .u64 ((gotN b).1 : Int), .int .i64 ((gotN b).2.1 : Int), .int .i64 ((gotN b).2.2 : Int)]
theorem getV_num (b : List By) : getV (b.map v8) = gotV b := by
  unfold getV gotV
  rw [getR_num]

theorem Lens.step {w w' : World} (h : Lens w) (hb : Below w.heap.size w w') : Lens w' := by
  have hp : 0 < w.heap.size := by
    rcases Nat.lt_or_ge 0 w.heap.size with h0 | h0
    · exact h0
    · have := h.1
      simp [World.cell?, Array.getElem?_eq_none h0] at this
  exact ⟨(hb.cell (p := ⟨0, 0, none⟩) hp).trans h.1, (hb.cell (p := ⟨0, 1, none⟩) hp).trans h.2.1, (hb.cell (p := ⟨0, 2, none⟩) hp).trans h.2.2.1, (hb.cell (p := ⟨0, 3, none⟩) hp).trans h.2.2.2⟩
end Go.Proofs.YtjccjlhnjihfjaaDoor
