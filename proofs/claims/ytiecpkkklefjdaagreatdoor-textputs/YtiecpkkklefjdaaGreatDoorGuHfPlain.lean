/-
  A code of few bits, on lists: no program in sight.
-/
import Derived.Test.YtiecpkkklefjdaaGreatDoorGu1
namespace Go.Proofs.YtiecpkkklefjdaaGreatDoor
open Go
namespace Hf

/-- How many bits each word has. -/
def szL : List Nat := [
    13, 23, 28, 28, 28, 28, 28, 28, 28, 24, 30, 28, 28, 30, 28, 28,
    28, 28, 28, 28, 28, 28, 30, 28, 28, 28, 28, 28, 28, 28, 28, 28,
    6, 10, 10, 12, 13, 6, 8, 11, 10, 10, 8, 11, 8, 6, 6, 6,
    5, 5, 5, 6, 6, 6, 6, 6, 6, 6, 7, 8, 15, 6, 12, 10,
    13, 6, 7, 7, 7, 7, 7, 7, 7, 7, 7, 7, 7, 7, 7, 7,
    7, 7, 7, 7, 7, 7, 7, 7, 8, 7, 8, 13, 19, 13, 14, 6,
    15, 5, 6, 5, 6, 5, 6, 6, 6, 5, 7, 7, 6, 6, 6, 5,
    6, 7, 6, 5, 5, 6, 7, 7, 7, 7, 7, 15, 11, 14, 13, 28,
    20, 22, 20, 20, 22, 22, 22, 23, 22, 23, 23, 23, 23, 23, 24, 23,
    24, 24, 22, 23, 24, 23, 23, 23, 23, 21, 22, 23, 22, 23, 23, 24,
    22, 21, 20, 22, 22, 23, 23, 21, 23, 22, 22, 24, 21, 22, 23, 23,
    21, 21, 22, 21, 23, 22, 23, 23, 20, 22, 22, 22, 23, 22, 22, 23,
    26, 26, 20, 19, 22, 23, 22, 25, 26, 26, 26, 27, 27, 26, 24, 25,
    19, 21, 26, 27, 27, 26, 27, 24, 21, 21, 26, 26, 28, 27, 27, 27,
    20, 24, 20, 21, 22, 21, 21, 23, 22, 22, 25, 25, 24, 24, 26, 23,
    26, 27, 26, 26, 27, 27, 27, 27, 27, 28, 27, 27, 27, 27, 27, 26,
    30]

/-- How many words have so many bits; the first one of them; the words as numbers; by bits, which words these are. -/
def cntL : List Nat := [0, 0, 0, 0, 0, 10, 26, 32, 6, 0, 5, 3, 2, 6, 2, 3, 0, 0, 0, 3, 8, 13, 26, 29, 12, 4, 15, 19, 29, 0, 4]
def firstL : List Nat := [0, 0, 0, 0, 0, 0, 20, 92, 248, 508, 1016, 2042, 4090, 8184, 16380, 32764, 65534, 131068, 262136, 524272, 1048550, 2097116, 4194258, 8388568, 16777194, 33554412, 67108832, 134217694, 268435426, 536870910, 1073741820]
def valL : List Nat := [
    8184, 8388568, 268435426, 268435427, 268435428, 268435429, 268435430, 268435431, 268435432, 16777194, 1073741820, 268435433, 268435434, 1073741821, 268435435, 268435436,
    268435437, 268435438, 268435439, 268435440, 268435441, 268435442, 1073741822, 268435443, 268435444, 268435445, 268435446, 268435447, 268435448, 268435449, 268435450, 268435451,
    20, 1016, 1017, 4090, 8185, 21, 248, 2042, 1018, 1019, 249, 2043, 250, 22, 23, 24,
    0, 1, 2, 25, 26, 27, 28, 29, 30, 31, 92, 251, 32764, 32, 4091, 1020,
    8186, 33, 93, 94, 95, 96, 97, 98, 99, 100, 101, 102, 103, 104, 105, 106,
    107, 108, 109, 110, 111, 112, 113, 114, 252, 115, 253, 8187, 524272, 8188, 16380, 34,
    32765, 3, 35, 4, 36, 5, 37, 38, 39, 6, 116, 117, 40, 41, 42, 7,
    43, 118, 44, 8, 9, 45, 119, 120, 121, 122, 123, 32766, 2044, 16381, 8189, 268435452,
    1048550, 4194258, 1048551, 1048552, 4194259, 4194260, 4194261, 8388569, 4194262, 8388570, 8388571, 8388572, 8388573, 8388574, 16777195, 8388575,
    16777196, 16777197, 4194263, 8388576, 16777198, 8388577, 8388578, 8388579, 8388580, 2097116, 4194264, 8388581, 4194265, 8388582, 8388583, 16777199,
    4194266, 2097117, 1048553, 4194267, 4194268, 8388584, 8388585, 2097118, 8388586, 4194269, 4194270, 16777200, 2097119, 4194271, 8388587, 8388588,
    2097120, 2097121, 4194272, 2097122, 8388589, 4194273, 8388590, 8388591, 1048554, 4194274, 4194275, 4194276, 8388592, 4194277, 4194278, 8388593,
    67108832, 67108833, 1048555, 524273, 4194279, 8388594, 4194280, 33554412, 67108834, 67108835, 67108836, 134217694, 134217695, 67108837, 16777201, 33554413,
    524274, 2097123, 67108838, 134217696, 134217697, 67108839, 134217698, 16777202, 2097124, 2097125, 67108840, 67108841, 268435453, 134217699, 134217700, 134217701,
    1048556, 16777203, 1048557, 2097126, 4194281, 2097127, 2097128, 8388595, 4194282, 4194283, 33554414, 33554415, 16777204, 16777205, 67108842, 8388596,
    67108843, 134217702, 67108844, 67108845, 134217703, 134217704, 134217705, 134217706, 134217707, 268435454, 134217708, 134217709, 134217710, 134217711, 134217712, 67108846,
    1073741823]
def symL : List (List Nat) := [
    [],
    [],
    [],
    [],
    [],
    [48, 49, 50, 97, 99, 101, 105, 111, 115, 116],
    [32, 37, 45, 46, 47, 51, 52, 53, 54, 55, 56, 57, 61, 65, 95, 98, 100, 102, 103, 104, 108, 109, 110, 112, 114, 117],
    [58, 66, 67, 68, 69, 70, 71, 72, 73, 74, 75, 76, 77, 78, 79, 80, 81, 82, 83, 84, 85, 86, 87, 89, 106, 107, 113, 118, 119, 120, 121, 122],
    [38, 42, 44, 59, 88, 90],
    [],
    [33, 34, 40, 41, 63],
    [39, 43, 124],
    [35, 62],
    [0, 36, 64, 91, 93, 126],
    [94, 125],
    [60, 96, 123],
    [],
    [],
    [],
    [92, 195, 208],
    [128, 130, 131, 162, 184, 194, 224, 226],
    [153, 161, 167, 172, 176, 177, 179, 209, 216, 217, 227, 229, 230],
    [129, 132, 133, 134, 136, 146, 154, 156, 160, 163, 164, 169, 170, 173, 178, 181, 185, 186, 187, 189, 190, 196, 198, 228, 232, 233],
    [1, 135, 137, 138, 139, 140, 141, 143, 147, 149, 150, 151, 152, 155, 157, 158, 165, 166, 168, 174, 175, 180, 182, 183, 188, 191, 197, 231, 239],
    [9, 142, 144, 145, 148, 159, 171, 206, 215, 225, 236, 237],
    [199, 207, 234, 235],
    [192, 193, 200, 201, 202, 205, 210, 213, 218, 219, 238, 240, 242, 243, 255],
    [203, 204, 211, 212, 214, 221, 222, 223, 241, 244, 245, 246, 247, 248, 250, 251, 252, 253, 254],
    [2, 3, 4, 5, 6, 7, 8, 11, 12, 14, 15, 16, 17, 18, 19, 20, 21, 23, 24, 25, 26, 27, 28, 29, 30, 31, 127, 220, 249],
    [],
    [10, 13, 22, 256]]

def sz (i : Nat) : Nat := szL[i]?.getD 0
def cnt (n : Nat) : Nat := cntL[n]?.getD 0
def first (n : Nat) : Nat := firstL[n]?.getD 0
def val (i : Nat) : Nat := valL[i]?.getD 0
def lim (n : Nat) : Nat := first n + cnt n
def symAt (n : Nat) : List Nat := symL[n]?.getD []
/-- Which word so many bits with such a value are. -/
def sym (n v : Nat) : Option Nat := if first n ≤ v then (symAt n)[v - first n]? else none

theorem sz_len : szL.length = 257 := by decide +kernel
theorem val_len : valL.length = 257 := by decide +kernel
theorem cnt_len : cntL.length = 31 := by decide +kernel
theorem first_len : firstL.length = 31 := by decide +kernel
theorem words_all : (List.range 257).all (fun i => decide (5 ≤ sz i ∧ sz i ≤ 30 ∧ first (sz i) ≤ val i ∧ val i < lim (sz i) ∧ sym (sz i) (val i) = some i)) = true := by decide +kernel
theorem syms_all : (List.range 31).all (fun n => decide ((symAt n).length = cnt n) && (List.range (cnt n)).all (fun k => decide ((symAt n)[k]?.getD 999 < 257 ∧ sz ((symAt n)[k]?.getD 999) = n ∧ val ((symAt n)[k]?.getD 999) = first n + k))) = true := by decide +kernel
theorem first_all : (List.range 30).all (fun n => decide (first (n + 1) = 2 * lim n)) = true := by decide +kernel
theorem lim_last : lim 30 = 1073741824 := by decide +kernel
theorem lim_zero : lim 0 = 0 := by decide +kernel
theorem ones_all : (List.range 8).all (fun r => decide (lim r ≤ 2 ^ r - 1)) = true := by decide +kernel

theorem word_ok {i : Nat} (h : i < 257) : 5 ≤ sz i ∧ sz i ≤ 30 ∧ first (sz i) ≤ val i ∧ val i < lim (sz i) ∧ sym (sz i) (val i) = some i := by
  have := List.all_eq_true.1 words_all i (List.mem_range.2 h)
  exact of_decide_eq_true this
theorem sym_len {n : Nat} (h : n ≤ 30) : (symAt n).length = cnt n := by
  have := List.all_eq_true.1 syms_all n (List.mem_range.2 (by omega))
  simp only [Bool.and_eq_true, decide_eq_true_eq] at this
  exact this.1
theorem sym_some {n v i : Nat} (h : n ≤ 30) (hs : sym n v = some i) : i < 257 ∧ sz i = n ∧ val i = v := by
  have h1 := List.all_eq_true.1 syms_all n (List.mem_range.2 (by omega))
  simp only [Bool.and_eq_true, decide_eq_true_eq] at h1
  unfold sym at hs
  split at hs
  · rename_i hv
    have hk := (List.getElem?_eq_some_iff.1 hs).1
    have h2 := List.all_eq_true.1 h1.2 (v - first n) (List.mem_range.2 (by omega))
    simp only [decide_eq_true_eq] at h2
    rw [hs] at h2
    simp only [Option.getD_some] at h2
    omega
  · cases hs
theorem sym_none {n v : Nat} (h : n ≤ 30) (hf : first n ≤ v) : sym n v = none ↔ lim n ≤ v := by
  unfold sym
  rw [if_pos hf, List.getElem?_eq_none_iff, sym_len h]
  unfold lim
  omega
theorem first_next {n : Nat} (h : n < 30) : first (n + 1) = 2 * lim n := by
  have := List.all_eq_true.1 first_all n (List.mem_range.2 h)
  exact of_decide_eq_true this
theorem ones_ok {r : Nat} (h : r < 8) : lim r ≤ 2 ^ r - 1 := by
  have := List.all_eq_true.1 ones_all r (List.mem_range.2 h)
  exact of_decide_eq_true this

/-- The lowest so many bits of a number, the highest first. -/
def bitsN : Nat → Nat → List Bool
  | 0, _ => []
  | n + 1, v => decide (v / 2 ^ n % 2 = 1) :: bitsN n v
theorem bitsN_length (n v : Nat) : (bitsN n v).length = n := by
  induction n with
  | zero => rfl
  | succ n ih => simp [bitsN, ih]
theorem bitsN_get (n v k : Nat) (h : k < n) : (bitsN n v)[k]? = some (decide (v / 2 ^ (n - 1 - k) % 2 = 1)) := by
  induction n generalizing k with
  | zero => omega
  | succ n ih =>
    cases k with
    | zero => simp [bitsN]
    | succ k =>
      rw [bitsN, List.getElem?_cons_succ, ih k (by omega)]
      rw [show n + 1 - 1 - (k + 1) = n - 1 - k by omega]
theorem bitsN_snoc (n v : Nat) (b : Bool) : bitsN (n + 1) (2 * v + b.toNat) = bitsN n v ++ [b] := by
  have hb : b.toNat ≤ 1 := by cases b <;> simp
  induction n with
  | zero =>
    cases b <;> simp [bitsN] <;> omega
  | succ n ih =>
    rw [bitsN, ih]
    conv => rhs; rw [bitsN]
    rw [List.cons_append]
    congr 1
    have : (2 * v + b.toNat) / 2 ^ (n + 1) = v / 2 ^ n := by
      rw [Nat.pow_succ, Nat.mul_comm (2 ^ n) 2, ← Nat.div_div_eq_div_mul]
      congr 1
      omega
    rw [this]

/-- A word's bits; those of a text. -/
def wb (i : Nat) : List Bool := bitsN (sz i) (val i)
def txt (s : List By) : List Bool := s.flatMap fun c => wb c.toNat
theorem txt_append (a b : List By) : txt (a ++ b) = txt a ++ txt b := by simp [txt]
theorem txt_one (c : By) : txt [c] = wb c.toNat := by simp [txt]
theorem wb_length (i : Nat) : (wb i).length = sz i := bitsN_length _ _
theorem txt_length_le (s : List By) : 5 * s.length ≤ (txt s).length ∧ (txt s).length ≤ 30 * s.length := by
  induction s with
  | nil => simp [txt]
  | cons c s ih =>
    have h := word_ok (i := c.toNat) (by have := c.isLt; omega)
    have e : txt (c :: s) = wb c.toNat ++ txt s := by simp [txt]
    rw [e, List.length_append, wb_length, List.length_cons]
    omega

/-- What is known behind some bits: the bytes of the words that were taken, and what is left: so many bits, as a number. -/
abbrev G := List By × Nat × Nat
def stepG (s : G) (b : Bool) : Option G :=
  match sym (s.2.1 + 1) (2 * s.2.2 + b.toNat) with
  | none => some (s.1, s.2.1 + 1, 2 * s.2.2 + b.toNat)
  | some i => if i = 256 then none else some (s.1 ++ [BitVec.ofNat 8 i], 0, 0)
def runG (s : Option G) (bs : List Bool) : Option G := bs.foldl (fun o b => o.bind (stepG · b)) s
theorem runG_append (s : Option G) (a b : List Bool) : runG s (a ++ b) = runG (runG s a) b := List.foldl_append
theorem runG_none (a : List Bool) : runG none a = none := by
  induction a with
  | nil => rfl
  | cons b a ih => exact ih
/-- What is left is no word, and begins with none. -/
structure GFine (s : G) : Prop where
  lt : s.2.2 < 2 ^ s.2.1
  ge : lim s.2.1 ≤ s.2.2
  few : s.2.1 < 30
theorem gfine_zero (t : List By) : GFine (t, 0, 0) := ⟨show 0 < 2 ^ 0 by decide, show lim 0 ≤ 0 by rw [lim_zero]; exact Nat.le_refl _, show 0 < 30 by decide⟩
theorem GFine.step {s s' : G} (h : GFine s) {b : Bool} (hs : stepG s b = some s') : GFine s' := by
  obtain ⟨t, n, v⟩ := s
  have h1 := h.lt
  have h2 := h.ge
  have h3 := h.few
  simp only at h1 h2 h3
  have hb : b.toNat ≤ 1 := by cases b <;> simp
  have hf := first_next h3
  unfold stepG at hs
  simp only at hs
  cases hq : sym (n + 1) (2 * v + b.toNat) with
  | none =>
    rw [hq] at hs
    injection hs with hs
    subst hs
    have h4 := (sym_none (n := n + 1) (v := 2 * v + b.toNat) (by omega) (by omega)).1 hq
    have h5 : 2 * v + b.toNat < 2 ^ (n + 1) := by rw [Nat.pow_succ]; omega
    refine ⟨h5, h4, ?_⟩
    show n + 1 < 30
    rcases Nat.lt_or_ge (n + 1) 30 with c | c
    · exact c
    · have e : n + 1 = 30 := by omega
      rw [e, lim_last] at h4
      rw [e] at h5
      omega
  | some i =>
    rw [hq] at hs
    simp only at hs
    split at hs
    · cases hs
    · injection hs with hs
      subst hs
      exact gfine_zero _
theorem GFine.run {s s' : G} (h : GFine s) {bs : List Bool} (hs : runG (some s) bs = some s') : GFine s' := by
  induction bs generalizing s with
  | nil => injection hs with hs; subst hs; exact h
  | cons b bs ih =>
    have e : runG (some s) (b :: bs) = runG (stepG s b) bs := rfl
    rw [e] at hs
    cases hq : stepG s b with
    | none => rw [hq, runG_none] at hs; cases hs
    | some s1 => rw [hq] at hs; exact ih (h.step hq) hs
/-- What was taken, and what is left, are the bits. -/
theorem step_bits {s s' : G} (h : GFine s) {b : Bool} (hs : stepG s b = some s') : txt s'.1 ++ bitsN s'.2.1 s'.2.2 = txt s.1 ++ bitsN s.2.1 s.2.2 ++ [b] := by
  obtain ⟨t, n, v⟩ := s
  have h3 := h.few
  simp only at h3
  unfold stepG at hs
  simp only at hs
  cases hq : sym (n + 1) (2 * v + b.toNat) with
  | none =>
    rw [hq] at hs
    injection hs with hs
    subst hs
    simp only
    rw [bitsN_snoc, List.append_assoc]
  | some i =>
    rw [hq] at hs
    simp only at hs
    obtain ⟨h4, h5, h6⟩ := sym_some (by omega) hq
    split at hs
    · cases hs
    · rename_i hne
      injection hs with hs
      subst hs
      simp only
      rw [txt_append, txt_one, BitVec.toNat_ofNat, Nat.mod_eq_of_lt (by omega), wb, h5, h6, bitsN_snoc]
      simp [bitsN]
theorem run_bits {s s' : G} (h : GFine s) {bs : List Bool} (hs : runG (some s) bs = some s') : txt s'.1 ++ bitsN s'.2.1 s'.2.2 = txt s.1 ++ bitsN s.2.1 s.2.2 ++ bs := by
  induction bs generalizing s with
  | nil => injection hs with hs; subst hs; simp
  | cons b bs ih =>
    have e : runG (some s) (b :: bs) = runG (stepG s b) bs := rfl
    rw [e] at hs
    cases hq : stepG s b with
    | none => rw [hq, runG_none] at hs; cases hs
    | some s1 =>
      rw [hq] at hs
      rw [ih (h.step hq) hs, step_bits h hq]
      simp
/-- What begins a word, and is shorter, is none. -/
theorem pre_lim {i : Nat} (h : i < 257) (m : Nat) (hm : 1 ≤ m) (hn : m ≤ sz i) : lim (sz i - m) ≤ val i / 2 ^ m := by
  obtain ⟨h1, h2, h3, _, _⟩ := word_ok h
  induction m with
  | zero => omega
  | succ m ih =>
    have e := first_next (n := sz i - (m + 1)) (by omega)
    rw [show sz i - (m + 1) + 1 = sz i - m by omega] at e
    rcases Nat.eq_zero_or_pos m with c | c
    · subst c
      simp only [Nat.sub_zero, Nat.zero_add, Nat.pow_one] at *
      omega
    · have h4 := ih c (by omega)
      have h5 : lim (sz i - m) = first (sz i - m) + cnt (sz i - m) := rfl
      rw [Nat.pow_succ, ← Nat.div_div_eq_div_mul]
      omega
theorem run_word (t : List By) {i : Nat} (h : i < 256) (m k : Nat) (hm : 1 ≤ m) (hk : k + m = sz i) : runG (some (t, k, val i / 2 ^ m)) (bitsN m (val i)) = some (t ++ [BitVec.ofNat 8 i], 0, 0) := by
  induction m generalizing k with
  | zero => omega
  | succ m ih =>
    obtain ⟨h1, h2, h3, h4, h5⟩ := word_ok (i := i) (by omega)
    have e : runG (some (t, k, val i / 2 ^ (m + 1))) (bitsN (m + 1) (val i)) = runG (stepG (t, k, val i / 2 ^ (m + 1)) (decide (val i / 2 ^ m % 2 = 1))) (bitsN m (val i)) := rfl
    have e2 : 2 * (val i / 2 ^ (m + 1)) + (decide (val i / 2 ^ m % 2 = 1)).toNat = val i / 2 ^ m := by
      rw [Nat.pow_succ, ← Nat.div_div_eq_div_mul]
      by_cases c : val i / 2 ^ m % 2 = 1
      · rw [decide_eq_true c, Bool.toNat_true]; omega
      · rw [decide_eq_false c, Bool.toNat_false]; omega
    rw [e]
    unfold stepG
    simp only
    rw [e2]
    rcases Nat.eq_zero_or_pos m with c | c
    · subst c
      rw [show k + 1 = sz i by omega, Nat.pow_zero, Nat.div_one, h5]
      simp only
      rw [if_neg (by omega)]
      rfl
    · have h6 := pre_lim (i := i) (by omega) m c (by omega)
      rw [show sz i - m = k + 1 by omega] at h6
      rw [(sym_none (n := k + 1) (by omega) (by unfold lim at h6; omega)).2 h6]
      exact ih (k + 1) c (by omega)
theorem vals_all : (List.range 256).all (fun i => decide (val i < 2 ^ sz i)) = true := by decide +kernel
theorem word_all_lt (c : By) : val c.toNat < 2 ^ sz c.toNat := by
  have := List.all_eq_true.1 vals_all c.toNat (List.mem_range.2 c.isLt)
  exact of_decide_eq_true this
theorem run_txt (t s : List By) : runG (some (t, 0, 0)) (txt s) = some (t ++ s, 0, 0) := by
  induction s generalizing t with
  | nil => simp [txt, runG]
  | cons c s ih =>
    have h := word_ok (i := c.toNat) (by have := c.isLt; omega)
    have hv : val c.toNat / 2 ^ sz c.toNat = 0 := by
      have hz := pre_lim (i := c.toNat) (by have := c.isLt; omega) (sz c.toNat) (by omega) (Nat.le_refl _)
      apply Nat.div_eq_of_lt
      have hw := word_all_lt c
      exact hw
    have e : txt (c :: s) = wb c.toNat ++ txt s := by simp [txt]
    have h2 := run_word t (i := c.toNat) c.isLt (sz c.toNat) 0 (by omega) (by omega)
    rw [hv] at h2
    rw [e, runG_append, wb, h2, ih, BitVec.ofNat_toNat]
    simp
end Hf
end Go.Proofs.YtiecpkkklefjdaaGreatDoor
