/-
  Frames as bytes, on lists: what was put is got; what was got may be put; what is cut off is short. No program in sight.
-/
import Derived.Test.YtohoieleakieeaaGe1
namespace Go.Proofs.Ytohoieleakieeaa.Fr
open Go

/-! ### Numbers -/
def szN (n : Nat) : Nat := if n < 64 then 1 else if n < 16384 then 2 else if n < 1073741824 then 4 else 8
def beN (x : Nat) : Nat → List By
  | 0 => []
  | k + 1 => BitVec.ofNat 8 (x / 256 ^ k) :: beN x k
def pfN (n : Nat) : Nat := if n < 64 then 0 else if n < 16384 then 16384 else if n < 1073741824 then 2147483648 else 13835058055282163712
def numL (n : Nat) : List By := beN (n + pfN n) (szN n)
def beV (acc : Nat) : List By → Nat
  | [] => acc
  | c :: r => beV (256 * acc + c.toNat) r
def getN : List By → Option (Nat × Nat)
  | [] => none
  | c :: r => if (c :: r).length < 2 ^ (c.toNat / 64) then none else some (beV (c.toNat % 64) (r.take (2 ^ (c.toNat / 64) - 1)), 2 ^ (c.toNat / 64))
theorem beN_length (x : Nat) : ∀ k, (beN x k).length = k
  | 0 => rfl
  | k + 1 => by rw [beN, List.length_cons, beN_length x k]
theorem numL_length (n : Nat) : (numL n).length = szN n := beN_length _ _
theorem szN_pos (n : Nat) : 1 ≤ szN n := by unfold szN; split <;> (try split) <;> (try split) <;> omega
theorem szN_le (n : Nat) : szN n ≤ 8 := by unfold szN; split <;> (try split) <;> (try split) <;> omega
/-- What a number's bytes are, spelled. -/
theorem numL_1 (n : Nat) (h : n < 64) : numL n = [BitVec.ofNat 8 n] := by
  unfold numL szN pfN
  rw [if_pos h, if_pos h]
  simp [beN]
theorem numL_2 (n : Nat) (h0 : ¬ n < 64) (h : n < 16384) : numL n = [BitVec.ofNat 8 ((n + 16384) / 256), BitVec.ofNat 8 (n + 16384)] := by
  unfold numL szN pfN
  rw [if_neg h0, if_pos h, if_neg h0, if_pos h]
  simp [beN]
theorem numL_4 (n : Nat) (h0 : ¬ n < 64) (h1 : ¬ n < 16384) (h : n < 1073741824) : numL n = [BitVec.ofNat 8 ((n + 2147483648) / 16777216), BitVec.ofNat 8 ((n + 2147483648) / 65536), BitVec.ofNat 8 ((n + 2147483648) / 256), BitVec.ofNat 8 (n + 2147483648)] := by
  unfold numL szN pfN
  rw [if_neg h0, if_neg h1, if_pos h, if_neg h0, if_neg h1, if_pos h]
  simp [beN]
theorem numL_8 (n : Nat) (h0 : ¬ n < 64) (h1 : ¬ n < 16384) (h2 : ¬ n < 1073741824) : numL n = [BitVec.ofNat 8 ((n + 13835058055282163712) / 72057594037927936), BitVec.ofNat 8 ((n + 13835058055282163712) / 281474976710656), BitVec.ofNat 8 ((n + 13835058055282163712) / 1099511627776), BitVec.ofNat 8 ((n + 13835058055282163712) / 4294967296), BitVec.ofNat 8 ((n + 13835058055282163712) / 16777216), BitVec.ofNat 8 ((n + 13835058055282163712) / 65536), BitVec.ofNat 8 ((n + 13835058055282163712) / 256), BitVec.ofNat 8 (n + 13835058055282163712)] := by
  unfold numL szN pfN
  rw [if_neg h0, if_neg h1, if_neg h2, if_neg h0, if_neg h1, if_neg h2]
  simp [beN]
/-- The first byte of a number tells how many there are. -/
theorem numL_head (n : Nat) (hn : n ≤ 4611686018427387903) : ∃ c t, numL n = c :: t ∧ 2 ^ (c.toNat / 64) = szN n ∧ t.length = szN n - 1 ∧ beV (c.toNat % 64) t = n ∧ (0 < n → n < 64 → c ≠ 0) := by
  by_cases h0 : n < 64
  · refine ⟨_, _, numL_1 n h0, ?_, ?_, ?_, ?_⟩
    · unfold szN; rw [if_pos h0, BitVec.toNat_ofNat, show n % 2 ^ 8 / 64 = 0 by omega]
    · unfold szN; rw [if_pos h0]; rfl
    · simp only [beV, BitVec.toNat_ofNat]; omega
    · intro hp _ e
      have := congrArg BitVec.toNat e
      rw [BitVec.toNat_ofNat] at this
      simp at this
      omega
  by_cases h1 : n < 16384
  · refine ⟨_, _, numL_2 n h0 h1, ?_, ?_, ?_, fun _ h => absurd h h0⟩
    · unfold szN; rw [if_neg h0, if_pos h1, BitVec.toNat_ofNat, show (n + 16384) / 256 % 2 ^ 8 / 64 = 1 by omega]
    · unfold szN; rw [if_neg h0, if_pos h1]; rfl
    · simp only [beV, BitVec.toNat_ofNat]; omega
  by_cases h2 : n < 1073741824
  · refine ⟨_, _, numL_4 n h0 h1 h2, ?_, ?_, ?_, fun _ h => absurd h h0⟩
    · unfold szN; rw [if_neg h0, if_neg h1, if_pos h2, BitVec.toNat_ofNat, show (n + 2147483648) / 16777216 % 2 ^ 8 / 64 = 2 by omega]
    · unfold szN; rw [if_neg h0, if_neg h1, if_pos h2]; rfl
    · simp only [beV, BitVec.toNat_ofNat]; omega
  · refine ⟨_, _, numL_8 n h0 h1 h2, ?_, ?_, ?_, fun _ h => absurd h h0⟩
    · unfold szN; rw [if_neg h0, if_neg h1, if_neg h2, BitVec.toNat_ofNat, show (n + 13835058055282163712) / 72057594037927936 % 2 ^ 8 / 64 = 3 by omega]
    · unfold szN; rw [if_neg h0, if_neg h1, if_neg h2]; rfl
    · simp only [beV, BitVec.toNat_ofNat]; omega
theorem getN_num (n : Nat) (hn : n ≤ 4611686018427387903) (r : List By) : getN (numL n ++ r) = some (n, szN n) := by
  obtain ⟨c, t, e, h1, h2, h3, _⟩ := numL_head n hn
  have hp := szN_pos n
  rw [e, List.cons_append, getN, h1, if_neg (by simp only [List.length_cons, List.length_append]; omega), List.take_append_of_le_length (by omega), List.take_of_length_le (by omega), h3]
theorem getN_cut (n : Nat) (hn : n ≤ 4611686018427387903) (j : Nat) (hj : j < szN n) : getN ((numL n).take j) = none := by
  obtain ⟨c, t, e, h1, h2, h3, _⟩ := numL_head n hn
  rw [e]
  cases j with
  | zero => rfl
  | succ j =>
    rw [List.take_succ_cons, getN, h1, if_pos (by simp only [List.length_cons, List.length_take]; omega)]
theorem beV_lt (l : List By) : ∀ acc, beV acc l < (acc + 1) * 256 ^ l.length := by
  induction l with
  | nil => intro acc; simp [beV]
  | cons c r ih =>
    intro acc
    rw [beV]
    refine Nat.lt_of_lt_of_le (ih _) ?_
    rw [List.length_cons, Nat.pow_succ, Nat.mul_comm (256 ^ r.length) 256, ← Nat.mul_assoc]
    exact Nat.mul_le_mul_right _ (by have := c.isLt; omega)
/-- What is read fits, in as many bytes as it has at most. -/
theorem getN_some {b : List By} {n k : Nat} (h : getN b = some (n, k)) : 1 ≤ k ∧ k ≤ b.length ∧ n ≤ 4611686018427387903 ∧ szN n ≤ k := by
  cases b with
  | nil => cases h
  | cons c r =>
    rw [getN] at h
    split at h
    · cases h
    · rename_i hlt
      simp only [Option.some.injEq, Prod.mk.injEq] at h
      obtain ⟨h1, h2⟩ := h
      have hc := c.isLt
      have hq : c.toNat / 64 = 0 ∨ c.toNat / 64 = 1 ∨ c.toNat / 64 = 2 ∨ c.toNat / 64 = 3 := by omega
      have hl := beV_lt (r.take (2 ^ (c.toNat / 64) - 1)) (c.toNat % 64)
      rw [h1, List.length_take] at hl
      have hm : c.toNat % 64 + 1 ≤ 64 := by omega
      have hl2 : n < 64 * 256 ^ (min (2 ^ (c.toNat / 64) - 1) r.length) := Nat.lt_of_lt_of_le hl (Nat.mul_le_mul_right _ hm)
      have hmin : min (2 ^ (c.toNat / 64) - 1) r.length = 2 ^ (c.toNat / 64) - 1 := by simp only [List.length_cons] at hlt; omega
      rw [hmin] at hl2
      subst h2
      refine ⟨Nat.pow_pos (by decide), by omega, ?_⟩
      rcases hq with q | q | q | q <;> rw [q] at hl2 ⊢ <;> simp at hl2 ⊢ <;> unfold szN <;> split <;> (try split) <;> (try split) <;> omega
/-! ### Reading -/
def R (α : Type) : Type := List By → Except Nat (α × List By)
def numR : R Nat := fun b => match getN b with
  | none => .error 4
  | some (n, k) => .ok (n, b.drop k)
def dataR (n : Nat) : R (List By) := fun b => if b.length < n then .error 4 else .ok (b.take n, b.drop n)
def thenR {α β : Type} (m : R α) (f : α → R β) : R β := fun b => match m b with
  | .ok (a, b') => f a b'
  | .error e => .error e
def okR {α : Type} (a : α) : R α := fun b => .ok (a, b)
def noR {α : Type} (e : Nat) : R α := fun _ => .error e
theorem numR_num (n : Nat) (hn : n ≤ 4611686018427387903) (r : List By) : numR (numL n ++ r) = .ok (n, r) := by
  unfold numR
  rw [getN_num n hn]
  simp only
  rw [← numL_length n, List.drop_left]
theorem numR_cut (n : Nat) (hn : n ≤ 4611686018427387903) (j : Nat) (hj : j < szN n) : numR ((numL n).take j) = .error 4 := by
  unfold numR
  rw [getN_cut n hn j hj]
theorem dataR_data (d r : List By) : dataR d.length (d ++ r) = .ok (d, r) := by
  unfold dataR
  rw [if_neg (by rw [List.length_append]; omega), List.take_left, List.drop_left]
theorem thenR_num {β : Type} (n : Nat) (hn : n ≤ 4611686018427387903) (f : Nat → R β) (r : List By) : thenR numR f (numL n ++ r) = f n r := by
  unfold thenR
  rw [numR_num n hn]
theorem thenR_num' {β : Type} (n : Nat) (hn : n ≤ 4611686018427387903) (f : Nat → R β) : thenR numR f (numL n) = f n [] := by
  have := thenR_num n hn f []
  rwa [List.append_nil] at this

/-! ### Frames -/
structure Frame where
  kind : Nat
  stream : Nat
  offset : Nat
  limit : Nat
  code : Nat
  fin : Bool
  data : List By
  ranges : List (Nat × Nat)
def f0 : Frame := ⟨0, 0, 0, 0, 0, false, [], []⟩
/-- Ranges that are a set. -/
def setL : List (Nat × Nat) → Prop
  | [] => True
  | [(a, b)] => a ≤ b ∧ b ≤ 4611686018427387903
  | (a, b) :: (c, d) :: r => a ≤ b ∧ b ≤ 4611686018427387903 ∧ b + 1 < c ∧ setL ((c, d) :: r)
def bareF (f : Frame) (st off lim co fi da ra : Bool) : Prop :=
  (st = true ∨ f.stream = 0) ∧ (off = true ∨ f.offset = 0) ∧ (lim = true ∨ f.limit = 0) ∧ (co = true ∨ f.code = 0) ∧ (fi = true ∨ f.fin = false) ∧ (da = true ∨ f.data = []) ∧ (ra = true ∨ f.ranges = [])
def numsF (f : Frame) : Prop :=
  f.stream ≤ 4611686018427387903 ∧ f.offset ≤ 4611686018427387903 ∧ f.limit ≤ 4611686018427387903 ∧ f.code ≤ 4611686018427387903 ∧ f.offset + f.data.length ≤ 4611686018427387903
def mayF (f : Frame) : Prop := numsF f ∧
  match f.kind with
  | 1 => bareF f false false true false false false false ∧ 1 ≤ f.limit ∧ f.limit ≤ 65536
  | 2 => bareF f false false false false false false false
  | 3 => bareF f false false true false false false true ∧ f.ranges ≠ [] ∧ f.ranges.length ≤ 64 ∧ setL f.ranges
  | 4 => bareF f true false true true false false false
  | 5 => bareF f true false false true false false false
  | 6 => bareF f false true false false false true false
  | 7 => bareF f true true false false true true false
  | 8 => bareF f false false true false false false false
  | 9 => bareF f true false true false false false false
  | 10 => bareF f false false true false true false false ∧ f.limit ≤ 1152921504606846976
  | 11 => bareF f false false true false false false false
  | 12 => bareF f true false true false false false false
  | 13 => bareF f false false false true true true false
  | 14 => bareF f false false false false false false false
  | _ => False

/-- The ranges of an answer, from the last one back. -/
def ackT : Nat → List (Nat × Nat) → List By
  | _, [] => []
  | from_, (a, b) :: r => numL (from_ - b - 2) ++ (numL (b - a) ++ ackT a r)
def ackB (lim : Nat) : List (Nat × Nat) → List By
  | [] => []
  | (a, b) :: r => numL b ++ (numL lim ++ (numL r.length ++ (numL (b - a) ++ ackT a r)))
def sizedL (d : List By) : List By := numL d.length ++ d
def putF (f : Frame) : List By :=
  match f.kind with
  | 1 => List.replicate f.limit 0
  | 2 => numL 1
  | 3 => numL 2 ++ ackB f.limit f.ranges.reverse
  | 4 => numL 4 ++ (numL f.stream ++ (numL f.code ++ numL f.limit))
  | 5 => numL 5 ++ (numL f.stream ++ numL f.code)
  | 6 => numL 6 ++ (numL f.offset ++ sizedL f.data)
  | 7 => numL ((if 0 < f.offset then 14 else 10) + (if f.fin then 1 else 0)) ++ (numL f.stream ++ ((if 0 < f.offset then numL f.offset else []) ++ sizedL f.data))
  | 8 => numL 16 ++ numL f.limit
  | 9 => numL 17 ++ (numL f.stream ++ numL f.limit)
  | 10 => numL (18 + (if f.fin then 1 else 0)) ++ numL f.limit
  | 11 => numL 20 ++ numL f.limit
  | 12 => numL 21 ++ (numL f.stream ++ numL f.limit)
  | 13 => numL (28 + (if f.fin then 1 else 0)) ++ (numL f.code ++ ((if f.fin then [] else numL 0) ++ sizedL f.data))
  | _ => numL 30

def ackLoop : Nat → Nat → R (List (Nat × Nat))
  | 0, to => thenR numR fun k => if to < k then noR 5 else okR [(to - k, to)]
  | m + 1, to => thenR numR fun k => if to < k then noR 5 else thenR numR fun gap => if to - k < gap + 2 then noR 5 else thenR (ackLoop m (to - k - gap - 2)) fun l => okR ((to - k, to) :: l)
def placedR (offset : Nat) : R (List By) := thenR numR fun n => if 4611686018427387903 < offset + n then noR 5 else dataR n
def restR (offset : Nat) : R (List By) := fun b => if 4611686018427387903 < offset + b.length then .error 5 else .ok (b, [])
def ackR : R Frame := thenR numR fun to => thenR numR fun lim => thenR numR fun n => if 64 ≤ n then noR 3 else thenR (ackLoop n to) fun l => okR { f0 with kind := 3, limit := lim, ranges := l.reverse }
def streamR (k : Nat) : R Frame := thenR numR fun st => thenR (if k / 4 % 2 = 1 then numR else okR 0) fun off => thenR (if k / 2 % 2 = 1 then placedR off else restR off) fun d => okR { f0 with kind := 7, stream := st, offset := off, fin := decide (k % 2 = 1), data := d }
def bodyR (k : Nat) : R Frame :=
  match k with
  | 0 => okR { f0 with kind := 1, limit := 1 }
  | 1 => okR { f0 with kind := 2 }
  | 2 => ackR
  | 4 => thenR numR fun st => thenR numR fun co => thenR numR fun lim => okR { f0 with kind := 4, stream := st, code := co, limit := lim }
  | 5 => thenR numR fun st => thenR numR fun co => okR { f0 with kind := 5, stream := st, code := co }
  | 6 => thenR numR fun off => thenR (placedR off) fun d => okR { f0 with kind := 6, offset := off, data := d }
  | 8 => streamR 8
  | 9 => streamR 9
  | 10 => streamR 10
  | 11 => streamR 11
  | 12 => streamR 12
  | 13 => streamR 13
  | 14 => streamR 14
  | 15 => streamR 15
  | 16 => thenR numR fun lim => okR { f0 with kind := 8, limit := lim }
  | 17 => thenR numR fun st => thenR numR fun lim => okR { f0 with kind := 9, stream := st, limit := lim }
  | 18 => thenR numR fun lim => if 1152921504606846976 < lim then noR 5 else okR { f0 with kind := 10, limit := lim }
  | 19 => thenR numR fun lim => if 1152921504606846976 < lim then noR 5 else okR { f0 with kind := 10, limit := lim, fin := true }
  | 20 => thenR numR fun lim => okR { f0 with kind := 11, limit := lim }
  | 21 => thenR numR fun st => thenR numR fun lim => okR { f0 with kind := 12, stream := st, limit := lim }
  | 28 => thenR numR fun co => thenR numR fun z => if z = 0 then thenR (placedR 0) fun d => okR { f0 with kind := 13, code := co, data := d } else noR 5
  | 29 => thenR numR fun co => thenR (placedR 0) fun d => okR { f0 with kind := 13, code := co, data := d, fin := true }
  | 30 => okR { f0 with kind := 14 }
  | _ => noR 5
def frameR : R Frame := fun b => match getN b with
  | none => .error 4
  | some (n, k) => if k = szN n then bodyR n (b.drop k) else .error 5
theorem frameR_num (n : Nat) (hn : n ≤ 4611686018427387903) (r : List By) : frameR (numL n ++ r) = bodyR n r := by
  unfold frameR
  rw [getN_num n hn]
  simp only [if_true]
  rw [← numL_length n, List.drop_left]

/-! ### What was put is got -/
theorem placedR_sized (off : Nat) (d r : List By) (h : off + d.length ≤ 4611686018427387903) : placedR off (sizedL d ++ r) = .ok (d, r) := by
  unfold placedR sizedL
  rw [List.append_assoc, thenR_num _ (by omega), if_neg (by omega), dataR_data]
/-- A set from its end. -/
def setR : List (Nat × Nat) → Prop
  | [] => True
  | [(a, b)] => a ≤ b ∧ b ≤ 4611686018427387903
  | (a, b) :: (c, d) :: r => a ≤ b ∧ b ≤ 4611686018427387903 ∧ d + 1 < a ∧ setR ((c, d) :: r)
theorem setR_tail {x : Nat × Nat} {r : List (Nat × Nat)} (h : setR (x :: r)) : setR r := by
  obtain ⟨a, b⟩ := x
  cases r with
  | nil => trivial
  | cons y r => obtain ⟨c, d⟩ := y; exact h.2.2.2
theorem setR_head {a b : Nat} {r : List (Nat × Nat)} (h : setR ((a, b) :: r)) : a ≤ b ∧ b ≤ 4611686018427387903 := by
  cases r with
  | nil => exact h
  | cons y r => obtain ⟨c, d⟩ := y; exact ⟨h.1, h.2.1⟩
theorem ackLoop_put : ∀ (r : List (Nat × Nat)) (a b : Nat) (rest : List By), setR ((a, b) :: r) → ackLoop r.length b (numL (b - a) ++ (ackT a r ++ rest)) = .ok ((a, b) :: r, rest)
  | [], a, b, rest, h => by
    obtain ⟨h1, h2⟩ := setR_head h
    rw [List.length_nil, ackLoop, thenR_num _ (by omega), if_neg (by omega), ackT, List.nil_append, show b - (b - a) = a by omega]
    rfl
  | (c, d) :: r, a, b, rest, h => by
    obtain ⟨h1, h2⟩ := setR_head h
    have h3 : d + 1 < a := h.2.2.1
    have ih := ackLoop_put r c d rest (setR_tail h)
    rw [List.length_cons, ackLoop, thenR_num _ (by omega), if_neg (by omega), ackT, List.append_assoc, thenR_num _ (by omega), if_neg (by omega), List.append_assoc]
    rw [show b - (b - a) - (a - d - 2) - 2 = d by omega, show b - (b - a) = a by omega]
    unfold thenR
    rw [ih]
    rfl
theorem setR_snoc : ∀ (r : List (Nat × Nat)) (a b : Nat), setR r → (∀ x, r.getLast? = some x → b + 1 < x.1) → a ≤ b → b ≤ 4611686018427387903 → setR (r ++ [(a, b)])
  | [], _, _, _, _, h1, h2 => ⟨h1, h2⟩
  | [(c, d)], a, b, h, hl, h1, h2 => ⟨h.1, h.2, hl (c, d) rfl, h1, h2⟩
  | (c, d) :: (e, f) :: r, a, b, h, hl, h1, h2 => ⟨h.1, h.2.1, h.2.2.1, setR_snoc ((e, f) :: r) a b h.2.2.2 (fun x hx => hl x (by rw [List.getLast?_cons_cons]; exact hx)) h1 h2⟩
theorem setL_tail {x : Nat × Nat} {r : List (Nat × Nat)} (h : setL (x :: r)) : setL r := by
  obtain ⟨a, b⟩ := x
  cases r with
  | nil => trivial
  | cons y r => obtain ⟨c, d⟩ := y; exact h.2.2.2
theorem setL_head {a b : Nat} {r : List (Nat × Nat)} (h : setL ((a, b) :: r)) : a ≤ b ∧ b ≤ 4611686018427387903 := by
  cases r with
  | nil => exact h
  | cons y r => obtain ⟨c, d⟩ := y; exact ⟨h.1, h.2.1⟩
theorem setR_reverse : ∀ (l : List (Nat × Nat)), setL l → setR l.reverse
  | [], _ => trivial
  | (a, b) :: r, h => by
    rw [List.reverse_cons]
    obtain ⟨h1, h2⟩ := setL_head h
    refine setR_snoc _ a b (setR_reverse r (setL_tail h)) (fun x hx => ?_) h1 h2
    rw [List.getLast?_reverse] at hx
    cases r with
    | nil => cases hx
    | cons y r =>
      obtain ⟨c, d⟩ := y
      simp only [List.head?_cons, Option.some.injEq] at hx
      subst hx
      exact h.2.2.1
theorem fr_eq {f : Frame} {k st off lim co : Nat} {fi : Bool} {d : List By} {ra : List (Nat × Nat)} (h0 : f.kind = k) (h1 : f.stream = st) (h2 : f.offset = off) (h3 : f.limit = lim) (h4 : f.code = co) (h5 : f.fin = fi) (h6 : f.data = d) (h7 : f.ranges = ra) : (⟨k, st, off, lim, co, fi, d, ra⟩ : Frame) = f := by
  cases f
  simp_all
theorem or_false_left {p : Prop} (h : false = true ∨ p) : p := h.resolve_left (by decide)

theorem ackR_put (f : Frame) (hk : f.kind = 3) (h : mayF f) (r : List By) : ackR (ackB f.limit f.ranges.reverse ++ r) = .ok (f, r) := by
  obtain ⟨⟨n1, n2, n3, n4, n5⟩, hm⟩ := h
  rw [hk] at hm
  obtain ⟨hb, hne, hl, hs⟩ := hm
  obtain ⟨b1, b2, b3, b4, b5, b6, b7⟩ := hb
  have hs' := setR_reverse _ hs
  have hrl : f.ranges.reverse.length = f.ranges.length := List.length_reverse
  cases hR : f.ranges.reverse with
  | nil =>
    rw [hR] at hrl
    exact absurd (List.eq_nil_of_length_eq_zero hrl.symm) hne
  | cons x t =>
    obtain ⟨a, b⟩ := x
    rw [hR] at hs' hrl
    rw [List.length_cons] at hrl
    obtain ⟨h1, h2⟩ := setR_head hs'
    unfold ackR ackB
    simp only [List.append_assoc]
    rw [thenR_num _ (by omega), thenR_num _ (by omega), thenR_num _ (by omega), if_neg (by omega)]
    unfold thenR
    rw [ackLoop_put t a b r hs']
    simp only [okR, f0]
    rw [← hR, List.reverse_reverse]
    exact congrArg (fun q => Except.ok (q, r)) (fr_eq hk (or_false_left b1) (or_false_left b2) rfl (or_false_left b4) (or_false_left b5) (or_false_left b6) rfl)

theorem frame_put (f : Frame) (hk1 : f.kind ≠ 1) (h : mayF f) (r : List By) : frameR (putF f ++ r) = .ok (f, r) := by
  have hmay := h
  obtain ⟨⟨n1, n2, n3, n4, n5⟩, hm⟩ := h
  by_cases k3 : f.kind = 3
  · have := ackR_put f k3 hmay r
    unfold putF
    rw [k3]
    simp only [List.append_assoc]
    rw [frameR_num _ (by omega)]
    exact this
  have hk : f.kind = 2 ∨ f.kind = 4 ∨ f.kind = 5 ∨ f.kind = 6 ∨ f.kind = 7 ∨ f.kind = 8 ∨ f.kind = 9 ∨ f.kind = 10 ∨ f.kind = 11 ∨ f.kind = 12 ∨ f.kind = 13 ∨ f.kind = 14 := by
    revert hm hk1 k3
    match f.kind with
    | 0 => intro _ h _; cases h
    | 1 => intro h _ _; exact absurd rfl h
    | 2 => intro _ _ _; omega
    | 3 => intro _ _ h; exact absurd rfl h
    | 4 => intro _ _ _; omega
    | 5 => intro _ _ _; omega
    | 6 => intro _ _ _; omega
    | 7 => intro _ _ _; omega
    | 8 => intro _ _ _; omega
    | 9 => intro _ _ _; omega
    | 10 => intro _ _ _; omega
    | 11 => intro _ _ _; omega
    | 12 => intro _ _ _; omega
    | 13 => intro _ _ _; omega
    | 14 => intro _ _ _; omega
    | _ + 15 => intro _ h _; cases h
  rcases hk with k | k | k | k | k | k | k | k | k | k | k | k <;> rw [k] at hm <;> unfold putF <;> rw [k] <;> simp only [List.append_assoc]
  · obtain ⟨b1, b2, b3, b4, b5, b6, b7⟩ := hm
    rw [frameR_num _ (by omega), bodyR]
    exact congrArg (fun q => Except.ok (q, r)) (fr_eq k (or_false_left b1) (or_false_left b2) (or_false_left b3) (or_false_left b4) (or_false_left b5) (or_false_left b6) (or_false_left b7))
  · obtain ⟨b1, b2, b3, b4, b5, b6, b7⟩ := hm
    rw [frameR_num _ (by omega), bodyR, thenR_num _ n1, thenR_num _ n4, thenR_num _ n3]
    exact congrArg (fun q => Except.ok (q, r)) (fr_eq k rfl (or_false_left b2) rfl rfl (or_false_left b5) (or_false_left b6) (or_false_left b7))
  · obtain ⟨b1, b2, b3, b4, b5, b6, b7⟩ := hm
    rw [frameR_num _ (by omega), bodyR, thenR_num _ n1, thenR_num _ n4]
    exact congrArg (fun q => Except.ok (q, r)) (fr_eq k rfl (or_false_left b2) (or_false_left b3) rfl (or_false_left b5) (or_false_left b6) (or_false_left b7))
  · obtain ⟨b1, b2, b3, b4, b5, b6, b7⟩ := hm
    rw [frameR_num _ (by omega), bodyR, thenR_num _ n2]
    unfold thenR
    rw [placedR_sized _ _ _ n5]
    exact congrArg (fun q => Except.ok (q, r)) (fr_eq k (or_false_left b1) rfl (or_false_left b3) (or_false_left b4) (or_false_left b5) rfl (or_false_left b7))
  · obtain ⟨b1, b2, b3, b4, b5, b6, b7⟩ := hm
    have key : ∀ (K : Nat), bodyR K = streamR K → K / 2 % 2 = 1 → (K / 4 % 2 = 1 ↔ 0 < f.offset) → decide (K % 2 = 1) = f.fin → frameR (numL K ++ (numL f.stream ++ ((if 0 < f.offset then numL f.offset else []) ++ (sizedL f.data ++ r)))) = .ok (f, r) ∨ 4611686018427387903 < K := by
      intro K hK h2 h4 h1
      by_cases hK6 : K ≤ 4611686018427387903
      · left
        rw [frameR_num _ hK6, hK, streamR, thenR_num _ n1]
        by_cases ho : 0 < f.offset
        · rw [if_pos (h4.2 ho), if_pos ho, thenR_num _ n2, if_pos h2]
          unfold thenR
          rw [placedR_sized _ _ _ n5]
          exact congrArg (fun q => Except.ok (q, r)) (fr_eq k rfl rfl (or_false_left b3) (or_false_left b4) h1.symm rfl (or_false_left b7))
        · rw [if_neg (fun e => ho (h4.1 e)), if_neg ho, List.nil_append]
          have hz : f.offset = 0 := by omega
          show thenR (if K / 2 % 2 = 1 then placedR 0 else restR 0) _ _ = _
          rw [if_pos h2]
          unfold thenR
          rw [placedR_sized _ _ _ (by omega)]
          exact congrArg (fun q => Except.ok (q, r)) (fr_eq k rfl hz (or_false_left b3) (or_false_left b4) h1.symm rfl (or_false_left b7))
      · right; omega
    by_cases ho : 0 < f.offset <;> cases hf : f.fin
    · have := (key 14 rfl (by decide) (by simp [ho]) (by rw [hf]; rfl)).resolve_right (by omega)
      simpa [ho, hf] using this
    · have := (key 15 rfl (by decide) (by simp [ho]) (by rw [hf]; rfl)).resolve_right (by omega)
      simpa [ho, hf] using this
    · have := (key 10 rfl (by decide) (by simp [ho]) (by rw [hf]; rfl)).resolve_right (by omega)
      simpa [ho, hf] using this
    · have := (key 11 rfl (by decide) (by simp [ho]) (by rw [hf]; rfl)).resolve_right (by omega)
      simpa [ho, hf] using this
  · obtain ⟨b1, b2, b3, b4, b5, b6, b7⟩ := hm
    rw [frameR_num _ (by omega), bodyR, thenR_num _ n3]
    exact congrArg (fun q => Except.ok (q, r)) (fr_eq k (or_false_left b1) (or_false_left b2) rfl (or_false_left b4) (or_false_left b5) (or_false_left b6) (or_false_left b7))
  · obtain ⟨b1, b2, b3, b4, b5, b6, b7⟩ := hm
    rw [frameR_num _ (by omega), bodyR, thenR_num _ n1, thenR_num _ n3]
    exact congrArg (fun q => Except.ok (q, r)) (fr_eq k rfl (or_false_left b2) rfl (or_false_left b4) (or_false_left b5) (or_false_left b6) (or_false_left b7))
  · obtain ⟨⟨b1, b2, b3, b4, b5, b6, b7⟩, hl⟩ := hm
    cases hf : f.fin
    · rw [show (18 + if false = true then 1 else 0) = 18 from rfl, frameR_num _ (by omega), bodyR, thenR_num _ n3, if_neg (by omega)]
      exact congrArg (fun q => Except.ok (q, r)) (fr_eq k (or_false_left b1) (or_false_left b2) rfl (or_false_left b4) hf (or_false_left b6) (or_false_left b7))
    · rw [show (18 + if true = true then 1 else 0) = 19 from rfl, frameR_num _ (by omega), bodyR, thenR_num _ n3, if_neg (by omega)]
      exact congrArg (fun q => Except.ok (q, r)) (fr_eq k (or_false_left b1) (or_false_left b2) rfl (or_false_left b4) hf (or_false_left b6) (or_false_left b7))
  · obtain ⟨b1, b2, b3, b4, b5, b6, b7⟩ := hm
    rw [frameR_num _ (by omega), bodyR, thenR_num _ n3]
    exact congrArg (fun q => Except.ok (q, r)) (fr_eq k (or_false_left b1) (or_false_left b2) rfl (or_false_left b4) (or_false_left b5) (or_false_left b6) (or_false_left b7))
  · obtain ⟨b1, b2, b3, b4, b5, b6, b7⟩ := hm
    rw [frameR_num _ (by omega), bodyR, thenR_num _ n1, thenR_num _ n3]
    exact congrArg (fun q => Except.ok (q, r)) (fr_eq k rfl (or_false_left b2) rfl (or_false_left b4) (or_false_left b5) (or_false_left b6) (or_false_left b7))
  · obtain ⟨b1, b2, b3, b4, b5, b6, b7⟩ := hm
    cases hf : f.fin
    · rw [show (28 + if false = true then 1 else 0) = 28 from rfl, if_neg (by decide), frameR_num _ (by omega), bodyR, thenR_num _ n4, thenR_num _ (by omega), if_pos rfl]
      unfold thenR
      rw [placedR_sized _ _ _ (by omega)]
      exact congrArg (fun q => Except.ok (q, r)) (fr_eq k (or_false_left b1) (or_false_left b2) (or_false_left b3) rfl hf rfl (or_false_left b7))
    · rw [show (28 + if true = true then 1 else 0) = 29 from rfl, if_pos rfl, List.nil_append, frameR_num _ (by omega), bodyR, thenR_num _ n4]
      unfold thenR
      rw [placedR_sized _ _ _ (by omega)]
      exact congrArg (fun q => Except.ok (q, r)) (fr_eq k (or_false_left b1) (or_false_left b2) (or_false_left b3) rfl hf rfl (or_false_left b7))
  · obtain ⟨b1, b2, b3, b4, b5, b6, b7⟩ := hm
    rw [frameR_num _ (by omega), bodyR]
    exact congrArg (fun q => Except.ok (q, r)) (fr_eq k (or_false_left b1) (or_false_left b2) (or_false_left b3) (or_false_left b4) (or_false_left b5) (or_false_left b6) (or_false_left b7))

/-! ### All frames -/
def putAll : List Frame → List By
  | [] => []
  | f :: l => putF f ++ putAll l
/-- No padding meets another one. -/
def sepL : Bool → List Frame → Prop
  | _, [] => True
  | p, f :: l => ¬ (p = true ∧ f.kind = 1) ∧ sepL (f.kind == 1) l
def padded : List Frame → Bool
  | [] => false
  | f :: _ => f.kind == 1
def more (f : Frame) : Frame := { f with limit := f.limit + 1 }
def getLoop : Nat → List By → List Frame → Except Nat (List Frame)
  | _, [], acc => .ok acc
  | 0, _ :: _, _ => .error 0
  | fuel + 1, c :: b, acc =>
    if c = 0 ∧ padded acc = true then (if (acc.headD f0).limit = 65536 then .error 3 else getLoop fuel b (more (acc.headD f0) :: acc.tail))
    else if acc.length = 1024 then .error 3
    else match frameR (c :: b) with
      | .error e => .error e
      | .ok (f, b') => getLoop fuel b' (f :: acc)
def getAll (b : List By) : Except Nat (List Frame) :=
  if 1048576 < b.length then .error 3 else match getLoop b.length b [] with
    | .error e => .error e
    | .ok l => .ok l.reverse

/-! What is read gets less. -/
def Shr {α : Type} (m : R α) : Prop := ∀ b a b', m b = .ok (a, b') → b'.length ≤ b.length
theorem shr_num : Shr numR := by
  intro b a b' h
  unfold numR at h
  split at h
  · cases h
  · injection h with h
    injection h with _ h
    rw [← h, List.length_drop]
    omega
theorem shr_ok {α : Type} (a : α) : Shr (okR a) := by
  intro b x b' h
  injection h with h
  injection h with _ h
  rw [h]
  exact Nat.le_refl _
theorem shr_no {α : Type} (e : Nat) : Shr (noR e : R α) := by
  intro b a b' h
  cases h
theorem shr_then {α β : Type} {m : R α} {f : α → R β} (hm : Shr m) (hf : ∀ a, Shr (f a)) : Shr (thenR m f) := by
  intro b a b' h
  unfold thenR at h
  split at h
  · rename_i x y e
    exact Nat.le_trans (hf _ _ _ _ h) (hm _ _ _ e)
  · cases h
theorem shr_ite {α : Type} {c : Prop} [Decidable c] {m n : R α} (hm : Shr m) (hn : Shr n) : Shr (if c then m else n) := by
  split
  · exact hm
  · exact hn
theorem shr_data (n : Nat) : Shr (dataR n) := by
  intro b a b' h
  unfold dataR at h
  split at h
  · cases h
  · injection h with h
    injection h with _ h
    rw [← h, List.length_drop]
    omega
theorem shr_placed (o : Nat) : Shr (placedR o) := shr_then shr_num fun _ => shr_ite (shr_no _) (shr_data _)
theorem shr_rest (o : Nat) : Shr (restR o) := by
  intro b a b' h
  unfold restR at h
  split at h
  · cases h
  · injection h with h
    injection h with _ h
    rw [← h]
    exact Nat.zero_le _
theorem shr_ackLoop : ∀ m to, Shr (ackLoop m to)
  | 0, _ => shr_then shr_num fun _ => shr_ite (shr_no _) (shr_ok _)
  | m + 1, _ => shr_then shr_num fun _ => shr_ite (shr_no _) (shr_then shr_num fun _ => shr_ite (shr_no _) (shr_then (shr_ackLoop m _) fun _ => shr_ok _))
theorem shr_ack : Shr ackR := shr_then shr_num fun _ => shr_then shr_num fun _ => shr_then shr_num fun _ => shr_ite (shr_no _) (shr_then (shr_ackLoop _ _) fun _ => shr_ok _)
theorem shr_stream (k : Nat) : Shr (streamR k) := shr_then shr_num fun _ => shr_then (shr_ite shr_num (shr_ok _)) fun _ => shr_then (shr_ite (shr_placed _) (shr_rest _)) fun _ => shr_ok _
theorem shr_body (k : Nat) : Shr (bodyR k) := by
  unfold bodyR
  split
  all_goals first
    | exact shr_ok _
    | exact shr_no _
    | exact shr_ack
    | exact shr_stream _
    | exact shr_then shr_num fun _ => shr_ok _
    | exact shr_then shr_num fun _ => shr_then shr_num fun _ => shr_ok _
    | exact shr_then shr_num fun _ => shr_then shr_num fun _ => shr_then shr_num fun _ => shr_ok _
    | exact shr_then shr_num fun _ => shr_then (shr_placed _) fun _ => shr_ok _
    | exact shr_then shr_num fun _ => shr_ite (shr_no _) (shr_ok _)
    | exact shr_then shr_num fun _ => shr_then shr_num fun _ => shr_ite (shr_then (shr_placed _) fun _ => shr_ok _) (shr_no _)
theorem frameR_less {b : List By} {f : Frame} {b' : List By} (h : frameR b = .ok (f, b')) : b'.length < b.length := by
  unfold frameR at h
  split at h
  · cases h
  · rename_i n k e
    obtain ⟨h1, h2, _⟩ := getN_some e
    split at h
    · have := shr_body n _ _ _ h
      rw [List.length_drop] at this
      omega
    · cases h
theorem getLoop_fuel : ∀ (fuel fuel' : Nat) (b : List By) (acc : List Frame), b.length ≤ fuel → b.length ≤ fuel' → getLoop fuel b acc = getLoop fuel' b acc
  | _, _, [], _, _, _ => by rw [getLoop, getLoop]
  | 0, _, _ :: _, _, h, _ => by simp at h
  | _, 0, _ :: _, _, _, h => by simp at h
  | fuel + 1, fuel' + 1, c :: b, acc, h1, h2 => by
    simp only [List.length_cons] at h1 h2
    rw [getLoop, getLoop, getLoop_fuel fuel fuel' b _ (by omega) (by omega)]
    split
    · rfl
    · split
      · rfl
      · cases hf : frameR (c :: b) with
        | error e => rfl
        | ok x =>
          obtain ⟨f, b'⟩ := x
          have := frameR_less hf
          simp only [List.length_cons] at this
          exact getLoop_fuel fuel fuel' b' _ (by omega) (by omega)

/-! What was put is got. -/
theorem numL_ne (n : Nat) (h0 : 0 < n) (h : n < 64) : ∃ c t, numL n = c :: t ∧ c ≠ 0 := by
  obtain ⟨c, t, e, _, _, _, hc⟩ := numL_head n (by omega)
  exact ⟨c, t, e, hc h0 h⟩
theorem putF_head (f : Frame) (hk : f.kind ≠ 1) : ∃ c t, putF f = c :: t ∧ c ≠ 0 := by
  have key : ∀ (n : Nat) (r : List By), 0 < n → n < 64 → ∃ c t, numL n ++ r = c :: t ∧ c ≠ 0 := by
    intro n r h0 h
    obtain ⟨c, t, e, hc⟩ := numL_ne n h0 h
    exact ⟨c, t ++ r, by rw [e]; rfl, hc⟩
  have key0 : ∀ (n : Nat), 0 < n → n < 64 → ∃ c t, numL n = c :: t ∧ c ≠ 0 := numL_ne
  unfold putF
  split
  · rename_i h; exact absurd h hk
  all_goals first
    | exact key _ _ (by omega) (by omega)
    | exact key0 _ (by omega) (by omega)
    | (refine key _ _ ?_ ?_ <;> (split <;> split <;> omega))
    | (refine key _ _ ?_ ?_ <;> (split <;> omega))
theorem pad_loop : ∀ (m fuel : Nat) (rest : List By) (f : Frame) (acc : List Frame), f.kind = 1 → f.limit + m ≤ 65536 → m + rest.length ≤ fuel → getLoop fuel (List.replicate m 0 ++ rest) (f :: acc) = getLoop fuel rest ({ f with limit := f.limit + m } :: acc)
  | 0, fuel, rest, f, acc, _, _, _ => by rw [List.replicate_zero, List.nil_append, Nat.add_zero]
  | m + 1, 0, rest, f, acc, _, _, h => by omega
  | m + 1, fuel + 1, rest, f, acc, hk, hl, h => by
    rw [List.replicate_succ, List.cons_append, getLoop, if_pos ⟨rfl, by simp [padded, hk]⟩]
    rw [if_neg (show ¬ ((f :: acc).headD f0).limit = 65536 from (show ¬ f.limit = 65536 by omega))]
    show getLoop fuel (List.replicate m 0 ++ rest) (more f :: acc) = _
    rw [pad_loop m fuel rest (more f) acc hk (by show f.limit + 1 + m ≤ 65536; omega) (by omega)]
    rw [getLoop_fuel fuel (fuel + 1) rest _ (by omega) (by omega)]
    congr 2
    simp only [more]
    congr 1
    omega
theorem loop_put : ∀ (l : List Frame) (acc : List Frame) (rest : List By) (fuel : Nat), (∀ f ∈ l, mayF f) → sepL (padded acc) l → acc.length + l.length ≤ 1024 → (putAll l ++ rest).length ≤ fuel → getLoop fuel (putAll l ++ rest) acc = getLoop fuel rest (l.reverse ++ acc)
  | [], acc, rest, fuel, _, _, _, _ => rfl
  | f :: l, acc, rest, fuel, hm, hs, hn, hf => by
    rw [putAll, List.append_assoc] at hf ⊢
    have hmf := hm f (by simp)
    have ih : ∀ fuel', (putAll l ++ rest).length ≤ fuel' → getLoop fuel' (putAll l ++ rest) (f :: acc) = getLoop fuel' rest (l.reverse ++ (f :: acc)) := fun fuel' h => loop_put l (f :: acc) rest fuel' (fun g hg => hm g (by simp [hg])) hs.2 (by simp only [List.length_cons] at hn ⊢; omega) h
    have hrl : rest.length ≤ (putAll l ++ rest).length := by rw [List.length_append]; omega
    rw [List.reverse_cons, List.append_assoc, List.singleton_append]
    simp only [List.length_append] at hf
    by_cases hk : f.kind = 1
    · obtain ⟨⟨n1, n2, n3, n4, n5⟩, hx⟩ := hmf
      rw [hk] at hx
      obtain ⟨⟨b1, b2, b3, b4, b5, b6, b7⟩, l1, l2⟩ := hx
      have hp : putF f = List.replicate f.limit 0 := by unfold putF; rw [hk]; rfl
      obtain ⟨m, hm'⟩ : ∃ m, f.limit = m + 1 := ⟨f.limit - 1, by omega⟩
      rw [hp, hm', List.length_replicate] at hf
      rw [hp, hm', List.replicate_succ, List.cons_append]
      cases fuel with
      | zero => omega
      | succ fuel =>
        have hnp : ¬ (padded acc = true) := fun e => hs.1 ⟨e, hk⟩
        have h1 : frameR ((0 : By) :: (List.replicate m 0 ++ (putAll l ++ rest))) = .ok ({ f0 with kind := 1, limit := 1 }, List.replicate m 0 ++ (putAll l ++ rest)) := by
          have := frameR_num 0 (by omega) (List.replicate m 0 ++ (putAll l ++ rest))
          rw [numL_1 0 (by omega)] at this
          exact this
        rw [getLoop, if_neg (fun e => hnp e.2), if_neg (by simp only [List.length_cons] at hn; omega), h1]
        simp only
        rw [pad_loop m fuel _ _ acc rfl (by show 1 + m ≤ 65536; omega) (by rw [List.length_append]; omega)]
        have e : ({ f0 with kind := 1, limit := 1 + m } : Frame) = f := fr_eq hk (or_false_left b1) (or_false_left b2) (by omega) (or_false_left b4) (or_false_left b5) (or_false_left b6) (or_false_left b7)
        have e' : ({ ({ f0 with kind := 1, limit := 1 } : Frame) with limit := ({ f0 with kind := 1, limit := 1 } : Frame).limit + m } : Frame) = f := e
        rw [e', ih fuel (by rw [List.length_append]; omega)]
        exact getLoop_fuel _ _ _ _ (by omega) (by omega)
    · obtain ⟨c, t, hc, hc0⟩ := putF_head f hk
      have hfp := frame_put f hk hmf (putAll l ++ rest)
      rw [hc, List.cons_append] at hfp ⊢
      rw [hc, List.length_cons] at hf
      cases fuel with
      | zero => omega
      | succ fuel =>
        rw [getLoop, if_neg (fun e => hc0 e.1), if_neg (by simp only [List.length_cons] at hn; omega), hfp]
        simp only
        rw [ih fuel (by rw [List.length_append]; omega)]
        exact getLoop_fuel _ _ _ _ (by omega) (by omega)
/-- FrameBack, FrameJoins. -/
theorem get_put (l : List Frame) (hm : ∀ f ∈ l, mayF f) (hs : sepL false l) (hn : l.length ≤ 1024) (hb : (putAll l).length ≤ 1048576) : getAll (putAll l) = .ok l := by
  unfold getAll
  rw [if_neg (by omega)]
  have := loop_put l [] [] (putAll l).length hm hs (by simpa using hn) (by simp)
  rw [List.append_nil, List.append_nil] at this
  rw [this, getLoop]
  simp
theorem putAll_append : ∀ (l m : List Frame), putAll (l ++ m) = putAll l ++ putAll m
  | [], _ => rfl
  | f :: l, m => by rw [List.cons_append, putAll, putAll, putAll_append l m, List.append_assoc]

/-! ### What was got may be put -/
theorem thenR_inv {α β : Type} {m : R α} {f : α → R β} {b : List By} {x : β} {b' : List By} (h : thenR m f b = .ok (x, b')) : ∃ a b1, m b = .ok (a, b1) ∧ f a b1 = .ok (x, b') := by
  unfold thenR at h
  split at h
  · rename_i a b1 e
    exact ⟨a, b1, e, h⟩
  · cases h
theorem okR_inv {α : Type} {a x : α} {b b' : List By} (h : okR a b = .ok (x, b')) : x = a ∧ b' = b := by
  injection h with h
  injection h with h1 h2
  exact ⟨h1.symm, h2.symm⟩
theorem noR_inv {α : Type} {e : Nat} {x : α} {b b' : List By} (h : (noR e : R α) b = .ok (x, b')) : False := by cases h
theorem numR_inv {b : List By} {n : Nat} {b' : List By} (h : numR b = .ok (n, b')) : n ≤ 4611686018427387903 ∧ szN n + b'.length ≤ b.length := by
  unfold numR at h
  split at h
  · cases h
  · rename_i x k e
    injection h with h
    injection h with h1 h2
    obtain ⟨q1, q2, q3, q4⟩ := getN_some e
    subst h1
    rw [← h2, List.length_drop]
    exact ⟨q3, by omega⟩
theorem dataR_inv {n : Nat} {b : List By} {d b' : List By} (h : dataR n b = .ok (d, b')) : d.length = n ∧ d.length + b'.length = b.length := by
  unfold dataR at h
  split at h
  · cases h
  · injection h with h
    injection h with h1 h2
    rw [← h1, ← h2, List.length_take, List.length_drop]
    omega
theorem placedR_inv {o : Nat} {b : List By} {d b' : List By} (h : placedR o b = .ok (d, b')) : o + d.length ≤ 4611686018427387903 ∧ (sizedL d).length + b'.length ≤ b.length := by
  unfold placedR at h
  obtain ⟨n, b1, h1, h2⟩ := thenR_inv h
  obtain ⟨q1, q2⟩ := numR_inv h1
  split at h2
  · cases h2
  · obtain ⟨q3, q4⟩ := dataR_inv h2
    unfold sizedL
    rw [List.length_append, numL_length, q3]
    omega
theorem restR_inv {o : Nat} {b : List By} {d b' : List By} (h : restR o b = .ok (d, b')) : o + d.length ≤ 4611686018427387903 ∧ d = b ∧ b' = [] := by
  unfold restR at h
  split at h
  · cases h
  · injection h with h
    injection h with h1 h2
    subst h1 h2
    exact ⟨by omega, rfl, rfl⟩
theorem setL_snoc : ∀ (r : List (Nat × Nat)) (a b : Nat), setL r → (∀ x, r.getLast? = some x → x.2 + 1 < a) → a ≤ b → b ≤ 4611686018427387903 → setL (r ++ [(a, b)])
  | [], _, _, _, _, h1, h2 => ⟨h1, h2⟩
  | [(c, d)], a, b, h, hl, h1, h2 => ⟨h.1, h.2, hl (c, d) rfl, h1, h2⟩
  | (c, d) :: (e, f) :: r, a, b, h, hl, h1, h2 => ⟨h.1, h.2.1, h.2.2.1, setL_snoc ((e, f) :: r) a b h.2.2.2 (fun x hx => hl x (by rw [List.getLast?_cons_cons]; exact hx)) h1 h2⟩
theorem setL_reverse : ∀ (l : List (Nat × Nat)), setR l → setL l.reverse
  | [], _ => trivial
  | (a, b) :: r, h => by
    rw [List.reverse_cons]
    obtain ⟨h1, h2⟩ := setR_head h
    refine setL_snoc _ a b (setL_reverse r (setR_tail h)) (fun x hx => ?_) h1 h2
    rw [List.getLast?_reverse] at hx
    cases r with
    | nil => cases hx
    | cons y r =>
      obtain ⟨c, d⟩ := y
      simp only [List.head?_cons, Option.some.injEq] at hx
      subst hx
      exact h.2.2.1
theorem ackLoop_inv : ∀ (m to : Nat) (b : List By) (l : List (Nat × Nat)) (b' : List By), to ≤ 4611686018427387903 → ackLoop m to b = .ok (l, b') → ∃ a r, l = (a, to) :: r ∧ r.length = m ∧ setR l ∧ szN (to - a) + (ackT a r).length + b'.length ≤ b.length
  | 0, to, b, l, b', ht, h => by
    rw [ackLoop] at h
    obtain ⟨k, b1, h1, h2⟩ := thenR_inv h
    obtain ⟨q1, q2⟩ := numR_inv h1
    split at h2
    · cases h2
    · obtain ⟨e1, e2⟩ := okR_inv h2
      subst e1 e2
      refine ⟨to - k, [], rfl, rfl, ⟨by omega, ht⟩, ?_⟩
      rw [show to - (to - k) = k by omega, ackT, List.length_nil]
      omega
  | m + 1, to, b, l, b', ht, h => by
    rw [ackLoop] at h
    obtain ⟨k, b1, h1, h2⟩ := thenR_inv h
    obtain ⟨q1, q2⟩ := numR_inv h1
    split at h2
    · cases h2
    · obtain ⟨gap, b2, h3, h4⟩ := thenR_inv h2
      obtain ⟨q3, q4⟩ := numR_inv h3
      split at h4
      · cases h4
      · obtain ⟨l', b3, h5, h6⟩ := thenR_inv h4
        obtain ⟨a, r, e, hl, hs, hq⟩ := ackLoop_inv m _ _ _ _ (by omega) h5
        obtain ⟨e1, e2⟩ := okR_inv h6
        subst e1 e2 e
        refine ⟨to - k, (a, to - k - gap - 2) :: r, rfl, by rw [List.length_cons, hl], ⟨by omega, ht, by omega, hs⟩, ?_⟩
        rw [show to - (to - k) = k by omega, ackT, List.length_append, List.length_append, numL_length, numL_length, show to - k - (to - k - gap - 2) - 2 = gap by omega]
        omega
theorem bare_all {f : Frame} {st off lim co fi da ra : Bool} (h1 : st = true ∨ f.stream = 0) (h2 : off = true ∨ f.offset = 0) (h3 : lim = true ∨ f.limit = 0) (h4 : co = true ∨ f.code = 0) (h5 : fi = true ∨ f.fin = false) (h6 : da = true ∨ f.data = []) (h7 : ra = true ∨ f.ranges = []) : bareF f st off lim co fi da ra := ⟨h1, h2, h3, h4, h5, h6, h7⟩
/-- What a body tells may be; its bytes are no more than those that were read, but for one without a length. -/
def Told (k : Nat) (b : List By) (f : Frame) (b' : List By) : Prop := mayF f ∧ ((putF f).length + b'.length ≤ szN k + b.length ∨ b' = [] ∧ (putF f).length ≤ szN k + b.length + 8) ∧ (f.kind = 1 → k = 0)
theorem szN_small {n : Nat} (h : n < 64) : szN n = 1 := by unfold szN; rw [if_pos h]
theorem told_ack {b : List By} {f : Frame} {b' : List By} (h : ackR b = .ok (f, b')) : Told 2 b f b' := by
  unfold ackR at h
  obtain ⟨to, b1, h1, h⟩ := thenR_inv h
  obtain ⟨lim, b2, h2, h⟩ := thenR_inv h
  obtain ⟨n, b3, h3, h⟩ := thenR_inv h
  obtain ⟨q1, q2⟩ := numR_inv h1
  obtain ⟨q3, q4⟩ := numR_inv h2
  obtain ⟨q5, q6⟩ := numR_inv h3
  split at h
  · cases h
  · rename_i hn
    obtain ⟨l, b4, h4, h⟩ := thenR_inv h
    obtain ⟨a, r, e, hl, hs, hq⟩ := ackLoop_inv n to b3 l b4 q1 h4
    obtain ⟨e1, e2⟩ := okR_inv h
    subst e1 e2 e
    refine ⟨⟨⟨by simp [f0], by simp [f0], q3, by simp [f0], by simp [f0]⟩, bare_all (.inr rfl) (.inr rfl) (.inl rfl) (.inr rfl) (.inr rfl) (.inr rfl) (.inl rfl), ?_, ?_, setL_reverse _ hs⟩, .inl ?_, fun e => by cases e⟩
    · intro e
      have := congrArg List.length e
      simp at this
    · show ((a, to) :: r).reverse.length ≤ 64
      rw [List.length_reverse, List.length_cons]
      omega
    · show (numL 2 ++ ackB lim ((a, to) :: r).reverse.reverse).length + _ ≤ _
      rw [List.reverse_reverse, ackB]
      simp only [List.length_append, numL_length]
      rw [hl]
      omega
theorem told_stream (k : Nat) (hk : k < 64) {b : List By} {f : Frame} {b' : List By} (h : streamR k b = .ok (f, b')) : Told k b f b' := by
  unfold streamR at h
  obtain ⟨st, b1, h1, h⟩ := thenR_inv h
  obtain ⟨off, b2, h2, h⟩ := thenR_inv h
  obtain ⟨d, b3, h3, h⟩ := thenR_inv h
  obtain ⟨e1, e2⟩ := okR_inv h
  obtain ⟨q1, q2⟩ := numR_inv h1
  subst e1 e2
  have hoff : off ≤ 4611686018427387903 ∧ (if 0 < off then szN off else 0) + b2.length ≤ b1.length := by
    split at h2
    · obtain ⟨q3, q4⟩ := numR_inv h2
      exact ⟨q3, by split <;> omega⟩
    · obtain ⟨e3, e4⟩ := okR_inv h2
      subst e3 e4
      exact ⟨by omega, by simp⟩
  have hput : (putF { f0 with kind := 7, stream := st, offset := off, fin := decide (k % 2 = 1), data := d }).length = 1 + (szN st + ((if 0 < off then szN off else 0) + (szN d.length + d.length))) := by
    show (numL ((if 0 < off then 14 else 10) + (if decide (k % 2 = 1) = true then 1 else 0)) ++ (numL st ++ ((if 0 < off then numL off else []) ++ sizedL d))).length = _
    rw [List.length_append, List.length_append, List.length_append, numL_length, numL_length, szN_small (by split <;> split <;> omega)]
    unfold sizedL
    rw [List.length_append, numL_length]
    split
    · rw [numL_length]
    · rfl
  have hsk := szN_small hk
  have hnum : ∀ (hd : off + d.length ≤ 4611686018427387903), mayF { f0 with kind := 7, stream := st, offset := off, fin := decide (k % 2 = 1), data := d } := fun hd =>
    ⟨⟨q1, hoff.1, by simp [f0], by simp [f0], hd⟩, bare_all (.inl rfl) (.inl rfl) (.inr rfl) (.inr rfl) (.inl rfl) (.inl rfl) (.inr rfl)⟩
  split at h3
  · obtain ⟨p1, p2⟩ := placedR_inv h3
    refine ⟨hnum p1, .inl ?_, fun e => by cases e⟩
    rw [hput]
    unfold sizedL at p2
    rw [List.length_append, numL_length] at p2
    omega
  · obtain ⟨p1, p2, p3⟩ := restR_inv h3
    subst p2 p3
    refine ⟨hnum p1, .inr ⟨rfl, ?_⟩, fun e => by cases e⟩
    rw [hput]
    have := szN_le d.length
    omega
theorem told_body (k : Nat) {b : List By} {f : Frame} {b' : List By} (h : bodyR k b = .ok (f, b')) : Told k b f b' := by
  unfold bodyR at h
  split at h
  · obtain ⟨e1, e2⟩ := okR_inv h
    subst e1 e2
    exact ⟨⟨⟨by simp [f0], by simp [f0], by simp, by simp [f0], by simp [f0]⟩, bare_all (.inr rfl) (.inr rfl) (.inl rfl) (.inr rfl) (.inr rfl) (.inr rfl) (.inr rfl), by simp, by simp⟩, .inl (by show (List.replicate 1 (0 : By)).length + _ ≤ _; rw [List.length_replicate, szN_small (by omega)]; omega), fun _ => rfl⟩
  · obtain ⟨e1, e2⟩ := okR_inv h
    subst e1 e2
    exact ⟨⟨⟨by simp [f0], by simp [f0], by simp [f0], by simp [f0], by simp [f0]⟩, bare_all (.inr rfl) (.inr rfl) (.inr rfl) (.inr rfl) (.inr rfl) (.inr rfl) (.inr rfl)⟩, .inl (by show (numL 1).length + _ ≤ _; rw [numL_length]; omega), fun e => by cases e⟩
  · exact told_ack h
  · obtain ⟨st, b1, h1, h⟩ := thenR_inv h
    obtain ⟨co, b2, h2, h⟩ := thenR_inv h
    obtain ⟨lim, b3, h3, h⟩ := thenR_inv h
    obtain ⟨e1, e2⟩ := okR_inv h
    obtain ⟨q1, q2⟩ := numR_inv h1
    obtain ⟨q3, q4⟩ := numR_inv h2
    obtain ⟨q5, q6⟩ := numR_inv h3
    subst e1 e2
    exact ⟨⟨⟨q1, by simp [f0], q5, q3, by simp [f0]⟩, bare_all (.inl rfl) (.inr rfl) (.inl rfl) (.inl rfl) (.inr rfl) (.inr rfl) (.inr rfl)⟩, .inl (by show (numL 4 ++ (numL st ++ (numL co ++ numL lim))).length + _ ≤ _; simp only [List.length_append, numL_length]; omega), fun e => by cases e⟩
  · obtain ⟨st, b1, h1, h⟩ := thenR_inv h
    obtain ⟨co, b2, h2, h⟩ := thenR_inv h
    obtain ⟨e1, e2⟩ := okR_inv h
    obtain ⟨q1, q2⟩ := numR_inv h1
    obtain ⟨q3, q4⟩ := numR_inv h2
    subst e1 e2
    exact ⟨⟨⟨q1, by simp [f0], by simp [f0], q3, by simp [f0]⟩, bare_all (.inl rfl) (.inr rfl) (.inr rfl) (.inl rfl) (.inr rfl) (.inr rfl) (.inr rfl)⟩, .inl (by show (numL 5 ++ (numL st ++ numL co)).length + _ ≤ _; simp only [List.length_append, numL_length]; omega), fun e => by cases e⟩
  · obtain ⟨off, b1, h1, h⟩ := thenR_inv h
    obtain ⟨d, b2, h2, h⟩ := thenR_inv h
    obtain ⟨e1, e2⟩ := okR_inv h
    obtain ⟨q1, q2⟩ := numR_inv h1
    obtain ⟨q3, q4⟩ := placedR_inv h2
    subst e1 e2
    exact ⟨⟨⟨by simp [f0], q1, by simp [f0], by simp [f0], q3⟩, bare_all (.inr rfl) (.inl rfl) (.inr rfl) (.inr rfl) (.inr rfl) (.inl rfl) (.inr rfl)⟩, .inl (by show (numL 6 ++ (numL off ++ sizedL d)).length + _ ≤ _; simp only [List.length_append, numL_length]; omega), fun e => by cases e⟩
  · exact told_stream 8 (by omega) h
  · exact told_stream 9 (by omega) h
  · exact told_stream 10 (by omega) h
  · exact told_stream 11 (by omega) h
  · exact told_stream 12 (by omega) h
  · exact told_stream 13 (by omega) h
  · exact told_stream 14 (by omega) h
  · exact told_stream 15 (by omega) h
  · obtain ⟨lim, b1, h1, h⟩ := thenR_inv h
    obtain ⟨e1, e2⟩ := okR_inv h
    obtain ⟨q1, q2⟩ := numR_inv h1
    subst e1 e2
    exact ⟨⟨⟨by simp [f0], by simp [f0], q1, by simp [f0], by simp [f0]⟩, bare_all (.inr rfl) (.inr rfl) (.inl rfl) (.inr rfl) (.inr rfl) (.inr rfl) (.inr rfl)⟩, .inl (by show (numL 16 ++ numL lim).length + _ ≤ _; simp only [List.length_append, numL_length]; omega), fun e => by cases e⟩
  · obtain ⟨st, b1, h1, h⟩ := thenR_inv h
    obtain ⟨lim, b2, h2, h⟩ := thenR_inv h
    obtain ⟨e1, e2⟩ := okR_inv h
    obtain ⟨q1, q2⟩ := numR_inv h1
    obtain ⟨q3, q4⟩ := numR_inv h2
    subst e1 e2
    exact ⟨⟨⟨q1, by simp [f0], q3, by simp [f0], by simp [f0]⟩, bare_all (.inl rfl) (.inr rfl) (.inl rfl) (.inr rfl) (.inr rfl) (.inr rfl) (.inr rfl)⟩, .inl (by show (numL 17 ++ (numL st ++ numL lim)).length + _ ≤ _; simp only [List.length_append, numL_length]; omega), fun e => by cases e⟩
  · obtain ⟨lim, b1, h1, h⟩ := thenR_inv h
    obtain ⟨q1, q2⟩ := numR_inv h1
    split at h
    · cases h
    · obtain ⟨e1, e2⟩ := okR_inv h
      subst e1 e2
      exact ⟨⟨⟨by simp [f0], by simp [f0], q1, by simp [f0], by simp [f0]⟩, bare_all (.inr rfl) (.inr rfl) (.inl rfl) (.inr rfl) (.inl rfl) (.inr rfl) (.inr rfl), by show lim ≤ _; omega⟩, .inl (by show (numL 18 ++ numL lim).length + _ ≤ _; simp only [List.length_append, numL_length]; omega), fun e => by cases e⟩
  · obtain ⟨lim, b1, h1, h⟩ := thenR_inv h
    obtain ⟨q1, q2⟩ := numR_inv h1
    split at h
    · cases h
    · obtain ⟨e1, e2⟩ := okR_inv h
      subst e1 e2
      exact ⟨⟨⟨by simp [f0], by simp [f0], q1, by simp [f0], by simp [f0]⟩, bare_all (.inr rfl) (.inr rfl) (.inl rfl) (.inr rfl) (.inl rfl) (.inr rfl) (.inr rfl), by show lim ≤ _; omega⟩, .inl (by show (numL 19 ++ numL lim).length + _ ≤ _; simp only [List.length_append, numL_length]; omega), fun e => by cases e⟩
  · obtain ⟨lim, b1, h1, h⟩ := thenR_inv h
    obtain ⟨e1, e2⟩ := okR_inv h
    obtain ⟨q1, q2⟩ := numR_inv h1
    subst e1 e2
    exact ⟨⟨⟨by simp [f0], by simp [f0], q1, by simp [f0], by simp [f0]⟩, bare_all (.inr rfl) (.inr rfl) (.inl rfl) (.inr rfl) (.inr rfl) (.inr rfl) (.inr rfl)⟩, .inl (by show (numL 20 ++ numL lim).length + _ ≤ _; simp only [List.length_append, numL_length]; omega), fun e => by cases e⟩
  · obtain ⟨st, b1, h1, h⟩ := thenR_inv h
    obtain ⟨lim, b2, h2, h⟩ := thenR_inv h
    obtain ⟨e1, e2⟩ := okR_inv h
    obtain ⟨q1, q2⟩ := numR_inv h1
    obtain ⟨q3, q4⟩ := numR_inv h2
    subst e1 e2
    exact ⟨⟨⟨q1, by simp [f0], q3, by simp [f0], by simp [f0]⟩, bare_all (.inl rfl) (.inr rfl) (.inl rfl) (.inr rfl) (.inr rfl) (.inr rfl) (.inr rfl)⟩, .inl (by show (numL 21 ++ (numL st ++ numL lim)).length + _ ≤ _; simp only [List.length_append, numL_length]; omega), fun e => by cases e⟩
  · obtain ⟨co, b1, h1, h⟩ := thenR_inv h
    obtain ⟨z, b2, h2, h⟩ := thenR_inv h
    obtain ⟨q1, q2⟩ := numR_inv h1
    obtain ⟨q3, q4⟩ := numR_inv h2
    split at h
    · rename_i hz
      subst hz
      obtain ⟨d, b3, h3, h⟩ := thenR_inv h
      obtain ⟨e1, e2⟩ := okR_inv h
      obtain ⟨q5, q6⟩ := placedR_inv h3
      subst e1 e2
      exact ⟨⟨⟨by simp [f0], by simp [f0], by simp [f0], q1, by simpa [f0] using q5⟩, bare_all (.inr rfl) (.inr rfl) (.inr rfl) (.inl rfl) (.inl rfl) (.inl rfl) (.inr rfl)⟩, .inl (by show (numL 28 ++ (numL co ++ (numL 0 ++ sizedL d))).length + _ ≤ _; simp only [List.length_append, numL_length]; omega), fun e => by cases e⟩
    · cases h
  · obtain ⟨co, b1, h1, h⟩ := thenR_inv h
    obtain ⟨d, b3, h3, h⟩ := thenR_inv h
    obtain ⟨q1, q2⟩ := numR_inv h1
    obtain ⟨e1, e2⟩ := okR_inv h
    obtain ⟨q5, q6⟩ := placedR_inv h3
    subst e1 e2
    exact ⟨⟨⟨by simp [f0], by simp [f0], by simp [f0], q1, by simpa [f0] using q5⟩, bare_all (.inr rfl) (.inr rfl) (.inr rfl) (.inl rfl) (.inl rfl) (.inl rfl) (.inr rfl)⟩, .inl (by show (numL 29 ++ (numL co ++ ([] ++ sizedL d))).length + _ ≤ _; simp only [List.length_append, numL_length, List.length_nil]; omega), fun e => by cases e⟩
  · obtain ⟨e1, e2⟩ := okR_inv h
    subst e1 e2
    exact ⟨⟨⟨by simp [f0], by simp [f0], by simp [f0], by simp [f0], by simp [f0]⟩, bare_all (.inr rfl) (.inr rfl) (.inr rfl) (.inr rfl) (.inr rfl) (.inr rfl) (.inr rfl)⟩, .inl (by show (numL 30).length + _ ≤ _; rw [numL_length]; omega), fun e => by cases e⟩
  · cases h
theorem frame_told {b : List By} {f : Frame} {b' : List By} (h : frameR b = .ok (f, b')) : mayF f ∧ ((putF f).length + b'.length ≤ b.length ∨ b' = [] ∧ (putF f).length ≤ b.length + 8) ∧ (f.kind = 1 → ∃ t, b = (0 : By) :: t) := by
  unfold frameR at h
  split at h
  · cases h
  · rename_i n k e
    obtain ⟨q1, q2, q3, q4⟩ := getN_some e
    split at h
    · rename_i hk
      obtain ⟨h1, h2, h3⟩ := told_body n h
      rw [List.length_drop] at h2
      refine ⟨h1, ?_, fun e1 => ?_⟩
      · rcases h2 with h2 | ⟨h2, h4⟩
        · left; omega
        · right; exact ⟨h2, by omega⟩
      · have hn := h3 e1
        subst hn
        cases b with
        | nil => cases e
        | cons c t =>
          rw [getN] at e
          split at e
          · cases e
          · injection e with e
            injection e with e2 e3
            rw [hk, szN_small (by omega)] at e3
            have hc := c.isLt
            have hc0 : c.toNat / 64 = 0 := by
              have hq : c.toNat / 64 = 0 ∨ c.toNat / 64 = 1 ∨ c.toNat / 64 = 2 ∨ c.toNat / 64 = 3 := by omega
              rcases hq with q | q | q | q
              · exact q
              · rw [q] at e3; cases e3
              · rw [q] at e3; cases e3
              · rw [q] at e3; cases e3
            rw [hc0] at e2
            simp only [Nat.pow_zero, Nat.sub_self, List.take_zero, beV] at e2
            have : c = 0 := by
              apply BitVec.eq_of_toNat_eq
              show c.toNat = 0
              omega
            rw [this]
            exact ⟨t, rfl⟩
    · cases h
theorem more_may {f : Frame} (hk : f.kind = 1) (h : mayF f) (hl : f.limit ≠ 65536) : mayF (more f) := by
  obtain ⟨⟨n1, n2, n3, n4, n5⟩, hx⟩ := h
  rw [hk] at hx
  obtain ⟨⟨b1, b2, b3, b4, b5, b6, b7⟩, l1, l2⟩ := hx
  refine ⟨⟨n1, n2, by show f.limit + 1 ≤ _; omega, n4, n5⟩, ?_⟩
  rw [show (more f).kind = 1 from hk]
  exact ⟨⟨b1, b2, .inl rfl, b4, b5, b6, b7⟩, by show 1 ≤ f.limit + 1; omega, by show f.limit + 1 ≤ 65536; omega⟩
theorem put_more {f : Frame} (hk : f.kind = 1) : (putF (more f)).length = (putF f).length + 1 := by
  have h1 : putF (more f) = List.replicate (f.limit + 1) 0 := by unfold putF; rw [show (more f).kind = 1 from hk]; rfl
  have h2 : putF f = List.replicate f.limit 0 := by unfold putF; rw [hk]; rfl
  rw [h1, h2, List.length_replicate, List.length_replicate]
/-- The last first: no padding meets another one. -/
def sepA : List Frame → Prop
  | [] => True
  | f :: l => ¬ (padded l = true ∧ f.kind = 1) ∧ sepA l
def lenA : List Frame → Nat
  | [] => 0
  | f :: l => (putF f).length + lenA l
theorem lenA_put : ∀ (l : List Frame), (putAll l.reverse).length = lenA l
  | [] => rfl
  | f :: l => by
    rw [List.reverse_cons, putAll_append, List.length_append, lenA_put l, lenA, putAll, putAll, List.append_nil]
    omega
theorem sepL_snoc : ∀ (l : List Frame) (p : Bool) (f : Frame), sepL p l → ¬ ((match l.getLast? with | none => p | some g => g.kind == 1) = true ∧ f.kind = 1) → sepL p (l ++ [f])
  | [], _, _, _, h => ⟨h, trivial⟩
  | [g], _, _, hs, h => ⟨hs.1, h, trivial⟩
  | g :: g' :: l, p, f, hs, h => ⟨hs.1, sepL_snoc (g' :: l) (g.kind == 1) f hs.2 (by rw [List.getLast?_cons_cons] at h; rw [show (g' :: l).getLast? = some ((g' :: l).getLast (by simp)) from List.getLast?_eq_some_getLast (by simp)] at h ⊢; exact h)⟩
theorem sepA_L : ∀ (l : List Frame), sepA l → sepL false l.reverse
  | [], _ => trivial
  | f :: l, h => by
    rw [List.reverse_cons]
    refine sepL_snoc _ false f (sepA_L l h.2) ?_
    rw [List.getLast?_reverse]
    cases l with
    | nil => simp
    | cons g l => exact h.1
theorem loop_told : ∀ (fuel : Nat) (b : List By) (acc l : List Frame), getLoop fuel b acc = .ok l → (∀ f ∈ acc, mayF f) → sepA acc → acc.length ≤ 1024 → (∀ f ∈ l, mayF f) ∧ sepA l ∧ l.length ≤ 1024 ∧ lenA l ≤ lenA acc + b.length + 8
  | _, [], acc, l, h, hm, hs, hn => by
    rw [getLoop] at h
    injection h with h
    subst h
    exact ⟨hm, hs, hn, by omega⟩
  | 0, _ :: _, _, _, h, _, _, _ => by rw [getLoop] at h; cases h
  | fuel + 1, c :: b, acc, l, h, hm, hs, hn => by
    rw [getLoop] at h
    split at h
    · rename_i hc
      split at h
      · cases h
      · rename_i hl
        cases acc with
        | nil => exact absurd hc.2 (by simp [padded])
        | cons f acc =>
          have hk : f.kind = 1 := by have := hc.2; simpa [padded] using this
          have hl' : f.limit ≠ 65536 := hl
          have h' : getLoop fuel b (more f :: acc) = .ok l := h
          obtain ⟨a1, a2, a3, a4⟩ := loop_told fuel b _ l h' (fun g hg => by
            rcases List.mem_cons.1 hg with rfl | hg
            · exact more_may hk (hm f (by simp)) hl'
            · exact hm g (by simp [hg])) ⟨fun e => hs.1 ⟨e.1, hk⟩, hs.2⟩ hn
          refine ⟨a1, a2, a3, ?_⟩
          rw [lenA, put_more hk] at a4
          rw [lenA, List.length_cons]
          omega
    · rename_i hc
      split at h
      · cases h
      · rename_i hl
        cases hf : frameR (c :: b) with
        | error e => rw [hf] at h; cases h
        | ok x =>
          obtain ⟨f, b'⟩ := x
          rw [hf] at h
          simp only at h
          obtain ⟨t1, t2, t3⟩ := frame_told hf
          have hsep : sepA (f :: acc) := ⟨fun e => hc ⟨by
            obtain ⟨t, ht⟩ := t3 e.2
            injection ht, e.1⟩, hs⟩
          obtain ⟨a1, a2, a3, a4⟩ := loop_told fuel b' _ l h (fun g hg => by
            rcases List.mem_cons.1 hg with rfl | hg
            · exact t1
            · exact hm g hg) hsep (by rw [List.length_cons]; omega)
          refine ⟨a1, a2, a3, ?_⟩
          rw [lenA] at a4
          rcases t2 with t2 | ⟨t2, t4⟩
          · omega
          · subst t2
            cases fuel with
            | zero =>
              rw [getLoop] at h
              injection h with h
              subst h
              rw [lenA]
              omega
            | succ fuel =>
              rw [getLoop] at h
              injection h with h
              subst h
              rw [lenA]
              omega
/-- FrameAgain: what was got may be put. -/
theorem get_told {b : List By} {l : List Frame} (h : getAll b = .ok l) : (∀ f ∈ l, mayF f) ∧ sepL false l ∧ l.length ≤ 1024 ∧ (putAll l).length ≤ b.length + 8 ∧ b.length ≤ 1048576 := by
  unfold getAll at h
  split at h
  · cases h
  · cases hl : getLoop b.length b [] with
    | error e => rw [hl] at h; cases h
    | ok m =>
      rw [hl] at h
      simp only at h
      injection h with h
      subst h
      obtain ⟨a1, a2, a3, a4⟩ := loop_told _ _ _ _ hl (fun f hf => by cases hf) trivial (by simp)
      refine ⟨fun f hf => a1 f (by simpa using hf), sepA_L m a2, by rw [List.length_reverse]; exact a3, ?_, by omega⟩
      rw [lenA_put]
      rw [lenA] at a4
      omega

/-! ### The last byte is missing -/
theorem dropLast_app {α : Type} (a b : List α) (h : b ≠ []) : (a ++ b).dropLast = a ++ b.dropLast := List.dropLast_append_of_ne_nil h
theorem numL_nil (n : Nat) : numL n ≠ [] := by
  intro e
  have := congrArg List.length e
  rw [numL_length] at this
  have := szN_pos n
  simp at *
  omega
theorem thenR_err {α β : Type} {m : R α} {f : α → R β} {b : List By} {e : Nat} (h : m b = .error e) : thenR m f b = .error e := by
  unfold thenR
  rw [h]
theorem numR_last (n : Nat) (hn : n ≤ 4611686018427387903) : numR (numL n).dropLast = .error 4 := by
  rw [List.dropLast_eq_take, numL_length]
  exact numR_cut n hn _ (by have := szN_pos n; omega)
theorem placedR_last (off : Nat) (d : List By) (h : off + d.length ≤ 4611686018427387903) : placedR off (sizedL d).dropLast = .error 4 := by
  unfold sizedL
  cases d with
  | nil =>
    rw [List.append_nil]
    exact thenR_err (numR_last _ (by omega))
  | cons c t =>
    rw [dropLast_app _ _ (by simp)]
    unfold placedR
    rw [thenR_num _ (by omega), if_neg (by omega)]
    unfold dataR
    rw [if_pos (by rw [List.length_dropLast, List.length_cons]; omega)]
theorem sizedL_nil (d : List By) : sizedL d ≠ [] := by
  unfold sizedL
  intro e
  exact numL_nil _ (List.append_eq_nil_iff.1 e).1
theorem ackLoop_last : ∀ (r : List (Nat × Nat)) (a b : Nat), setR ((a, b) :: r) → ackLoop r.length b (numL (b - a) ++ ackT a r).dropLast = .error 4
  | [], a, b, h => by
    obtain ⟨h1, h2⟩ := setR_head h
    rw [ackT, List.append_nil, List.length_nil, ackLoop]
    exact thenR_err (numR_last _ (by omega))
  | (c, d) :: r, a, b, h => by
    obtain ⟨h1, h2⟩ := setR_head h
    have h3 : d + 1 < a := h.2.2.1
    have ih := ackLoop_last r c d (setR_tail h)
    rw [ackT, dropLast_app _ _ (fun e => numL_nil _ (List.append_eq_nil_iff.1 e).1), dropLast_app _ _ (fun e => numL_nil _ (List.append_eq_nil_iff.1 e).1), List.length_cons, ackLoop, thenR_num _ (by omega), if_neg (by omega), thenR_num _ (by omega), if_neg (by omega)]
    rw [show b - (b - a) - (a - d - 2) - 2 = d by omega]
    exact thenR_err ih
theorem app_nil {n : Nat} {r : List By} : numL n ++ r ≠ [] := fun e => numL_nil _ (List.append_eq_nil_iff.1 e).1
theorem frame_cut (f : Frame) (h1 : f.kind ≠ 1) (h2 : f.kind ≠ 2) (h14 : f.kind ≠ 14) (h : mayF f) : frameR (putF f).dropLast = .error 4 ∧ ∃ c t, (putF f).dropLast = c :: t ∧ c ≠ 0 := by
  have hmay := h
  obtain ⟨⟨n1, n2, n3, n4, n5⟩, hm⟩ := h
  have first : ∀ (n : Nat) (r : List By), 0 < n → n < 64 → r ≠ [] → ∃ c t, (numL n ++ r).dropLast = c :: t ∧ c ≠ 0 := by
    intro n r p0 p1 hr
    obtain ⟨c, t, e, hc⟩ := numL_ne n p0 p1
    exact ⟨c, t ++ r.dropLast, by rw [dropLast_app _ _ hr, e]; rfl, hc⟩
  have step : ∀ (n : Nat) (r : List By), 0 < n → n < 64 → r ≠ [] → bodyR n r.dropLast = .error 4 → frameR (numL n ++ r).dropLast = .error 4 ∧ ∃ c t, (numL n ++ r).dropLast = c :: t ∧ c ≠ 0 := by
    intro n r p0 p1 hr hb
    refine ⟨?_, first n r p0 p1 hr⟩
    rw [dropLast_app _ _ hr, frameR_num _ (by omega), hb]
  by_cases k3 : f.kind = 3
  · rw [k3] at hm
    obtain ⟨hb, hne, hl, hs⟩ := hm
    have hs' := setR_reverse _ hs
    have hrl : f.ranges.reverse.length = f.ranges.length := List.length_reverse
    have hp : putF f = numL 2 ++ ackB f.limit f.ranges.reverse := by unfold putF; rw [k3]; rfl
    rw [hp]
    cases hR : f.ranges.reverse with
    | nil =>
      rw [hR] at hrl
      exact absurd (List.eq_nil_of_length_eq_zero hrl.symm) hne
    | cons x t =>
      obtain ⟨a, b⟩ := x
      rw [hR] at hs' hrl
      rw [List.length_cons] at hrl
      obtain ⟨q1, q2⟩ := setR_head hs'
      refine step 2 _ (by omega) (by omega) app_nil ?_
      rw [ackB, dropLast_app _ _ app_nil, dropLast_app _ _ app_nil, dropLast_app _ _ app_nil, bodyR]
      unfold ackR
      rw [thenR_num _ (by omega), thenR_num _ (by omega), thenR_num _ (by omega), if_neg (by omega)]
      exact thenR_err (ackLoop_last t a b hs')
  have hk : f.kind = 4 ∨ f.kind = 5 ∨ f.kind = 6 ∨ f.kind = 7 ∨ f.kind = 8 ∨ f.kind = 9 ∨ f.kind = 10 ∨ f.kind = 11 ∨ f.kind = 12 ∨ f.kind = 13 := by
    clear hmay first step
    revert hm h1 h2 h14 k3
    match f.kind with
    | 0 => intro _ _ _ h _; cases h
    | 1 => intro h _ _ _ _; exact absurd rfl h
    | 2 => intro _ h _ _ _; exact absurd rfl h
    | 3 => intro _ _ _ _ h; exact absurd rfl h
    | 4 => intro _ _ _ _ _; omega
    | 5 => intro _ _ _ _ _; omega
    | 6 => intro _ _ _ _ _; omega
    | 7 => intro _ _ _ _ _; omega
    | 8 => intro _ _ _ _ _; omega
    | 9 => intro _ _ _ _ _; omega
    | 10 => intro _ _ _ _ _; omega
    | 11 => intro _ _ _ _ _; omega
    | 12 => intro _ _ _ _ _; omega
    | 13 => intro _ _ _ _ _; omega
    | 14 => intro _ _ h _ _; exact absurd rfl h
    | _ + 15 => intro _ _ _ h _; cases h
  rcases hk with k | k | k | k | k | k | k | k | k | k <;> rw [k] at hm
  · have hp : putF f = numL 4 ++ (numL f.stream ++ (numL f.code ++ numL f.limit)) := by unfold putF; rw [k]; rfl
    rw [hp]
    refine step 4 _ (by omega) (by omega) app_nil ?_
    rw [dropLast_app _ _ app_nil, dropLast_app _ _ (numL_nil _), bodyR, thenR_num _ n1, thenR_num _ n4]
    exact thenR_err (numR_last _ n3)
  · have hp : putF f = numL 5 ++ (numL f.stream ++ numL f.code) := by unfold putF; rw [k]; rfl
    rw [hp]
    refine step 5 _ (by omega) (by omega) app_nil ?_
    rw [dropLast_app _ _ (numL_nil _), bodyR, thenR_num _ n1]
    exact thenR_err (numR_last _ n4)
  · have hp : putF f = numL 6 ++ (numL f.offset ++ sizedL f.data) := by unfold putF; rw [k]; rfl
    rw [hp]
    refine step 6 _ (by omega) (by omega) app_nil ?_
    rw [dropLast_app _ _ (sizedL_nil _), bodyR, thenR_num _ n2]
    exact thenR_err (placedR_last _ _ n5)
  · have key : ∀ (K : Nat), 0 < K → K < 64 → bodyR K = streamR K → K / 2 % 2 = 1 → (K / 4 % 2 = 1 ↔ 0 < f.offset) → bodyR K (numL f.stream ++ ((if 0 < f.offset then numL f.offset else []) ++ sizedL f.data)).dropLast = .error 4 := by
      intro K p0 p1 hK h2 h4
      rw [dropLast_app _ _ (fun e => sizedL_nil _ (List.append_eq_nil_iff.1 e).2), dropLast_app _ _ (sizedL_nil _), hK, streamR, thenR_num _ n1]
      by_cases ho : 0 < f.offset
      · rw [if_pos (h4.2 ho), if_pos ho, thenR_num _ n2, if_pos h2]
        exact thenR_err (placedR_last _ _ n5)
      · rw [if_neg (fun e => ho (h4.1 e)), if_neg ho, List.nil_append]
        show thenR (if K / 2 % 2 = 1 then placedR 0 else restR 0) _ _ = _
        rw [if_pos h2]
        exact thenR_err (placedR_last _ _ (by omega))
    have hp : putF f = numL ((if 0 < f.offset then 14 else 10) + (if f.fin then 1 else 0)) ++ (numL f.stream ++ ((if 0 < f.offset then numL f.offset else []) ++ sizedL f.data)) := by unfold putF; rw [k]; rfl
    rw [hp]
    refine step _ _ (by split <;> split <;> omega) (by split <;> split <;> omega) app_nil ?_
    by_cases ho : 0 < f.offset <;> cases hf : f.fin
    · have := key 14 (by omega) (by omega) rfl (by decide) (by simp [ho])
      simpa [ho] using this
    · have := key 15 (by omega) (by omega) rfl (by decide) (by simp [ho])
      simpa [ho] using this
    · have := key 10 (by omega) (by omega) rfl (by decide) (by simp [ho])
      simpa [ho] using this
    · have := key 11 (by omega) (by omega) rfl (by decide) (by simp [ho])
      simpa [ho] using this
  · have hp : putF f = numL 16 ++ numL f.limit := by unfold putF; rw [k]; rfl
    rw [hp]
    exact step 16 _ (by omega) (by omega) (numL_nil _) (by rw [bodyR]; exact thenR_err (numR_last _ n3))
  · have hp : putF f = numL 17 ++ (numL f.stream ++ numL f.limit) := by unfold putF; rw [k]; rfl
    rw [hp]
    refine step 17 _ (by omega) (by omega) app_nil ?_
    rw [dropLast_app _ _ (numL_nil _), bodyR, thenR_num _ n1]
    exact thenR_err (numR_last _ n3)
  · have hp : putF f = numL (18 + (if f.fin then 1 else 0)) ++ numL f.limit := by unfold putF; rw [k]; rfl
    rw [hp]
    refine step _ _ (by split <;> omega) (by split <;> omega) (numL_nil _) ?_
    cases hf : f.fin
    · show bodyR 18 _ = _
      rw [bodyR]; exact thenR_err (numR_last _ n3)
    · show bodyR 19 _ = _
      rw [bodyR]; exact thenR_err (numR_last _ n3)
  · have hp : putF f = numL 20 ++ numL f.limit := by unfold putF; rw [k]; rfl
    rw [hp]
    exact step 20 _ (by omega) (by omega) (numL_nil _) (by rw [bodyR]; exact thenR_err (numR_last _ n3))
  · have hp : putF f = numL 21 ++ (numL f.stream ++ numL f.limit) := by unfold putF; rw [k]; rfl
    rw [hp]
    refine step 21 _ (by omega) (by omega) app_nil ?_
    rw [dropLast_app _ _ (numL_nil _), bodyR, thenR_num _ n1]
    exact thenR_err (numR_last _ n3)
  · have hp : putF f = numL (28 + (if f.fin then 1 else 0)) ++ (numL f.code ++ ((if f.fin then [] else numL 0) ++ sizedL f.data)) := by unfold putF; rw [k]; rfl
    rw [hp]
    refine step _ _ (by split <;> omega) (by split <;> omega) app_nil ?_
    rw [dropLast_app _ _ (fun e => sizedL_nil _ (List.append_eq_nil_iff.1 e).2), dropLast_app _ _ (sizedL_nil _)]
    cases hf : f.fin
    · show bodyR 28 (numL f.code ++ (numL 0 ++ _)) = _
      rw [bodyR, thenR_num _ n4, thenR_num _ (by omega), if_pos rfl]
      exact thenR_err (placedR_last _ _ (by omega))
    · show bodyR 29 (numL f.code ++ ([] ++ _)) = _
      rw [bodyR, thenR_num _ n4, List.nil_append]
      exact thenR_err (placedR_last _ _ (by omega))
/-- FrameCut. -/
theorem get_cut (l : List Frame) (f : Frame) (hm : ∀ g ∈ l ++ [f], mayF g) (hs : sepL false (l ++ [f])) (hn : (l ++ [f]).length ≤ 1024) (hb : (putAll (l ++ [f])).length ≤ 1048576) (h1 : f.kind ≠ 1) (h2 : f.kind ≠ 2) (h14 : f.kind ≠ 14) : getAll (putAll (l ++ [f])).dropLast = .error 4 := by
  obtain ⟨c1, c, t, e, hc⟩ := frame_cut f h1 h2 h14 (hm f (by simp))
  have hne : putF f ≠ [] := by
    intro q
    rw [q] at e
    cases e
  have hp : (putAll (l ++ [f])).dropLast = putAll l ++ (putF f).dropLast := by
    rw [putAll_append, putAll, putAll, List.append_nil, dropLast_app _ _ hne]
  have hpl : (putAll (l ++ [f])).dropLast.length ≤ 1048576 := by rw [List.length_dropLast]; omega
  have hsl : ∀ (l : List Frame) (p : Bool), sepL p (l ++ [f]) → sepL p l := by
    intro l
    induction l with
    | nil => intro _ _; trivial
    | cons g l ih => intro p h; exact ⟨h.1, ih _ h.2⟩
  unfold getAll
  rw [if_neg (by omega), hp, loop_put l [] _ _ (fun g hg => hm g (by simp [hg])) (hsl l false hs) (by simp at hn ⊢; omega) (Nat.le_refl _)]
  rw [e]
  have hfuel : ∃ fu, (putAll l ++ (c :: t)).length = fu + 1 := ⟨(putAll l).length + t.length, by simp; omega⟩
  obtain ⟨fu, hfu⟩ := hfuel
  rw [hfu, getLoop, if_neg (fun q => hc q.1), if_neg (by simp at hn ⊢; omega), ← e, c1]

/-! ### An answer -/
/-- FrameAcks: bytes that begin with an answer's type. -/
theorem loop_first : ∀ (fuel : Nat) (b : List By) (acc l : List Frame) (f : Frame), getLoop fuel b acc = .ok l → acc.getLast? = some f → f.kind ≠ 1 → l.getLast? = some f
  | _, [], acc, l, f, h, hl, _ => by
    rw [getLoop] at h
    injection h with h
    subst h
    exact hl
  | 0, _ :: _, _, _, _, h, _, _ => by rw [getLoop] at h; cases h
  | fuel + 1, c :: b, acc, l, f, h, hl, hk => by
    rw [getLoop] at h
    split at h
    · rename_i hc
      split at h
      · cases h
      · cases acc with
        | nil => cases hl
        | cons g acc =>
          have hgk : g.kind = 1 := by have := hc.2; simpa [padded] using this
          cases acc with
          | nil =>
            simp only [List.getLast?_singleton, Option.some.injEq] at hl
            subst hl
            exact absurd hgk hk
          | cons g' acc =>
            exact loop_first fuel b _ l f h (by rw [List.getLast?_cons_cons] at hl; show (more g :: g' :: acc).getLast? = _; rw [List.getLast?_cons_cons]; exact hl) hk
    · split at h
      · cases h
      · cases hf : frameR (c :: b) with
        | error e => rw [hf] at h; cases h
        | ok x =>
          obtain ⟨g, b'⟩ := x
          rw [hf] at h
          exact loop_first fuel b' _ l f h (by
            cases acc with
            | nil => cases hl
            | cons g' acc => rw [List.getLast?_cons_cons]; exact hl) hk
theorem get_ack {b : List By} {l : List Frame} (h : getAll ((2 : By) :: b) = .ok l) : ∃ f r, l = f :: r ∧ f.kind = 3 ∧ f.ranges ≠ [] ∧ f.ranges.length ≤ 64 ∧ setL f.ranges := by
  have hm := (get_told h).1
  unfold getAll at h
  split at h
  · cases h
  · cases hl : getLoop ((2 : By) :: b).length ((2 : By) :: b) [] with
    | error e => rw [hl] at h; cases h
    | ok m =>
      rw [hl] at h
      simp only at h
      injection h with h
      subst h
      rw [List.length_cons, getLoop, if_neg (by simp [padded]), if_neg (by simp)] at hl
      have h2 : frameR ((2 : By) :: b) = ackR b := by
        have := frameR_num 2 (by omega) b
        rw [numL_1 2 (by omega)] at this
        exact this
      rw [h2] at hl
      cases hf : ackR b with
      | error e => rw [hf] at hl; cases hl
      | ok x =>
        obtain ⟨f, b'⟩ := x
        rw [hf] at hl
        simp only at hl
        have hk : f.kind = 3 := by
          unfold ackR at hf
          obtain ⟨to, b1, h1, hf⟩ := thenR_inv hf
          obtain ⟨lim, b2, h2, hf⟩ := thenR_inv hf
          obtain ⟨n, b3, h3, hf⟩ := thenR_inv hf
          split at hf
          · cases hf
          · obtain ⟨l', b4, h4, hf⟩ := thenR_inv hf
            rw [(okR_inv hf).1]
        have hlast := loop_first _ _ _ _ f hl rfl (by rw [hk]; decide)
        have hhead : m.reverse.head? = some f := by rw [List.head?_reverse]; exact hlast
        cases hr : m.reverse with
        | nil => rw [hr] at hhead; cases hhead
        | cons g r =>
          rw [hr] at hhead hm
          simp only [List.head?_cons, Option.some.injEq] at hhead
          subst hhead
          have := (hm g (by simp)).2
          rw [hk] at this
          exact ⟨g, r, rfl, hk, this.2⟩
end Go.Proofs.Ytohoieleakieeaa.Fr
