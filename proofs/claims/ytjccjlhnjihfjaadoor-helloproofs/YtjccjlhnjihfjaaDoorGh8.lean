/-
  Out of FrPlain, HePlain.
-/
import Derived.Test.YtjccjlhnjihfjaaDoorGh1

/-! Frames as bytes, on lists: what was put is got; what was got may be put; what is cut off is short. No program in sight. -/
namespace Go.Proofs.YtjccjlhnjihfjaaDoor.Fr
open Go

/-! ### Numbers -/
def szN (n : Nat) : Nat := if n < 64 then 1 else if n < 16384 then 2 else if n < 1073741824 then 4 else 8
def beN (x : Nat) : Nat → List By
  | 0 => []
  | k + 1 => BitVec.ofNat 8 (x / 256 ^ k) :: beN x k
def pfN (n : Nat) : Nat := if n < 64 then 0 else if n < 16384 then 16384 else if n < 1073741824 then 2147483648 else 13835058055282163712
def numL (n : Nat) : List By := beN (n + pfN n) (szN n)
def beV (acc : Nat) : List By → Nat
  | [] => acc
  | c :: r => beV (256 * acc + c.toNat) r
def getN : List By → Option (Nat × Nat)
  | [] => none
  | c :: r => if (c :: r).length < 2 ^ (c.toNat / 64) then none else some (beV (c.toNat % 64) (r.take (2 ^ (c.toNat / 64) - 1)), 2 ^ (c.toNat / 64))
theorem beN_length (x : Nat) : ∀ k, (beN x k).length = k
  | 0 => rfl
  | k + 1 => by rw [beN, List.length_cons, beN_length x k]
theorem numL_length (n : Nat) : (numL n).length = szN n := beN_length _ _
theorem szN_pos (n : Nat) : 1 ≤ szN n := by unfold szN; split <;> (try split) <;> (try split) <;> omega
theorem szN_le (n : Nat) : szN n ≤ 8 := by unfold szN; split <;> (try split) <;> (try split) <;> omega
/-- What a number's bytes are, spelled. -/
theorem numL_1 (n : Nat) (h : n < 64) : numL n = [BitVec.ofNat 8 n] := by
  unfold numL szN pfN
  rw [if_pos h, if_pos h]
  simp [beN]
theorem numL_2 (n : Nat) (h0 : ¬ n < 64) (h : n < 16384) : numL n = [BitVec.ofNat 8 ((n + 16384) / 256), BitVec.ofNat 8 (n + 16384)] := by
  unfold numL szN pfN
  rw [if_neg h0, if_pos h, if_neg h0, if_pos h]
  simp [beN]
theorem numL_4 (n : Nat) (h0 : ¬ n < 64) (h1 : ¬ n < 16384) (h : n < 1073741824) : numL n = [BitVec.ofNat 8 ((n + 2147483648) / 16777216), BitVec.ofNat 8 ((n + 2147483648) / 65536), BitVec.ofNat 8 ((n + 2147483648) / 256), BitVec.ofNat 8 (n + 2147483648)] := by
  unfold numL szN pfN
  rw [if_neg h0, if_neg h1, if_pos h, if_neg h0, if_neg h1, if_pos h]
  simp [beN]
theorem numL_8 (n : Nat) (h0 : ¬ n < 64) (h1 : ¬ n < 16384) (h2 : ¬ n < 1073741824) : numL n = [BitVec.ofNat 8 ((n + 13835058055282163712) / 72057594037927936), BitVec.ofNat 8 ((n + 13835058055282163712) / 281474976710656), BitVec.ofNat 8 ((n + 13835058055282163712) / 1099511627776), BitVec.ofNat 8 ((n + 13835058055282163712) / 4294967296), BitVec.ofNat 8 ((n + 13835058055282163712) / 16777216), BitVec.ofNat 8 ((n + 13835058055282163712) / 65536), BitVec.ofNat 8 ((n + 13835058055282163712) / 256), BitVec.ofNat 8 (n + 13835058055282163712)] := by
  unfold numL szN pfN
  rw [if_neg h0, if_neg h1, if_neg h2, if_neg h0, if_neg h1, if_neg h2]
  simp [beN]
/-- The first byte of a number tells how many there are. -/
theorem numL_head (n : Nat) (hn : n ≤ 4611686018427387903) : ∃ c t, numL n = c :: t ∧ 2 ^ (c.toNat / 64) = szN n ∧ t.length = szN n - 1 ∧ beV (c.toNat % 64) t = n ∧ (0 < n → n < 64 → c ≠ 0) := by
  by_cases h0 : n < 64
  · refine ⟨_, _, numL_1 n h0, ?_, ?_, ?_, ?_⟩
    · unfold szN; rw [if_pos h0, BitVec.toNat_ofNat, show n % 2 ^ 8 / 64 = 0 by omega]
    · unfold szN; rw [if_pos h0]; rfl
    · simp only [beV, BitVec.toNat_ofNat]; omega
    · intro hp _ e
      have := congrArg BitVec.toNat e
      rw [BitVec.toNat_ofNat] at this
      simp at this
      omega
  by_cases h1 : n < 16384
  · refine ⟨_, _, numL_2 n h0 h1, ?_, ?_, ?_, fun _ h => absurd h h0⟩
    · unfold szN; rw [if_neg h0, if_pos h1, BitVec.toNat_ofNat, show (n + 16384) / 256 % 2 ^ 8 / 64 = 1 by omega]
    · unfold szN; rw [if_neg h0, if_pos h1]; rfl
    · simp only [beV, BitVec.toNat_ofNat]; omega
  by_cases h2 : n < 1073741824
  · refine ⟨_, _, numL_4 n h0 h1 h2, ?_, ?_, ?_, fun _ h => absurd h h0⟩
    · unfold szN; rw [if_neg h0, if_neg h1, if_pos h2, BitVec.toNat_ofNat, show (n + 2147483648) / 16777216 % 2 ^ 8 / 64 = 2 by omega]
    · unfold szN; rw [if_neg h0, if_neg h1, if_pos h2]; rfl
    · simp only [beV, BitVec.toNat_ofNat]; omega
  · refine ⟨_, _, numL_8 n h0 h1 h2, ?_, ?_, ?_, fun _ h => absurd h h0⟩
    · unfold szN; rw [if_neg h0, if_neg h1, if_neg h2, BitVec.toNat_ofNat, show (n + 13835058055282163712) / 72057594037927936 % 2 ^ 8 / 64 = 3 by omega]
    · unfold szN; rw [if_neg h0, if_neg h1, if_neg h2]; rfl
    · simp only [beV, BitVec.toNat_ofNat]; omega
theorem getN_num (n : Nat) (hn : n ≤ 4611686018427387903) (r : List By) : getN (numL n ++ r) = some (n, szN n) := by
  obtain ⟨c, t, e, h1, h2, h3, _⟩ := numL_head n hn
  have hp := szN_pos n
  rw [e, List.cons_append, getN, h1, if_neg (by simp only [List.length_cons, List.length_append]; omega), List.take_append_of_le_length (by omega), List.take_of_length_le (by omega), h3]
theorem getN_cut (n : Nat) (hn : n ≤ 4611686018427387903) (j : Nat) (hj : j < szN n) : getN ((numL n).take j) = none := by
  obtain ⟨c, t, e, h1, h2, h3, _⟩ := numL_head n hn
  rw [e]
  cases j with
  | zero => rfl
  | succ j =>
    rw [List.take_succ_cons, getN, h1, if_pos (by simp only [List.length_cons, List.length_take]; omega)]
theorem beV_lt (l : List By) : ∀ acc, beV acc l < (acc + 1) * 256 ^ l.length := by
  induction l with
  | nil => intro acc; simp [beV]
  | cons c r ih =>
    intro acc
    rw [beV]
    refine Nat.lt_of_lt_of_le (ih _) ?_
    rw [List.length_cons, Nat.pow_succ, Nat.mul_comm (256 ^ r.length) 256, ← Nat.mul_assoc]
    exact Nat.mul_le_mul_right _ (by have := c.isLt; omega)
/-- What is read fits, in as many bytes as it has at most. -/
theorem getN_some {b : List By} {n k : Nat} (h : getN b = some (n, k)) : 1 ≤ k ∧ k ≤ b.length ∧ n ≤ 4611686018427387903 ∧ szN n ≤ k := by
  cases b with
  | nil => cases h
  | cons c r =>
    rw [getN] at h
    split at h
    · cases h
    · rename_i hlt
      simp only [Option.some.injEq, Prod.mk.injEq] at h
      obtain ⟨h1, h2⟩ := h
      have hc := c.isLt
      have hq : c.toNat / 64 = 0 ∨ c.toNat / 64 = 1 ∨ c.toNat / 64 = 2 ∨ c.toNat / 64 = 3 := by omega
      have hl := beV_lt (r.take (2 ^ (c.toNat / 64) - 1)) (c.toNat % 64)
      rw [h1, List.length_take] at hl
      have hm : c.toNat % 64 + 1 ≤ 64 := by omega
      have hl2 : n < 64 * 256 ^ (min (2 ^ (c.toNat / 64) - 1) r.length) := Nat.lt_of_lt_of_le hl (Nat.mul_le_mul_right _ hm)
      have hmin : min (2 ^ (c.toNat / 64) - 1) r.length = 2 ^ (c.toNat / 64) - 1 := by simp only [List.length_cons] at hlt; omega
      rw [hmin] at hl2
      subst h2
      refine ⟨Nat.pow_pos (by decide), by omega, ?_⟩
      rcases hq with q | q | q | q <;> rw [q] at hl2 ⊢ <;> simp at hl2 ⊢ <;> unfold szN <;> split <;> (try split) <;> (try split) <;> omega
/-! ### Reading -/
def R (α : Type) : Type := List By → Except Nat (α × List By)
/-! ### Frames -/
structure Frame where
  kind : Nat
  stream : Nat
  offset : Nat
  limit : Nat
  code : Nat
  fin : Bool
  data : List By
  ranges : List (Nat × Nat)
def f0 : Frame := ⟨0, 0, 0, 0, 0, false, [], []⟩
/-- Ranges that are a set. -/
def setL : List (Nat × Nat) → Prop
  | [] => True
  | [(a, b)] => a ≤ b ∧ b ≤ 4611686018427387903
  | (a, b) :: (c, d) :: r => a ≤ b ∧ b ≤ 4611686018427387903 ∧ b + 1 < c ∧ setL ((c, d) :: r)
def bareF (f : Frame) (st off lim co fi da ra : Bool) : Prop :=
  (st = true ∨ f.stream = 0) ∧ (off = true ∨ f.offset = 0) ∧ (lim = true ∨ f.limit = 0) ∧ (co = true ∨ f.code = 0) ∧ (fi = true ∨ f.fin = false) ∧ (da = true ∨ f.data = []) ∧ (ra = true ∨ f.ranges = [])
def numsF (f : Frame) : Prop :=
  f.stream ≤ 4611686018427387903 ∧ f.offset ≤ 4611686018427387903 ∧ f.limit ≤ 4611686018427387903 ∧ f.code ≤ 4611686018427387903 ∧ f.offset + f.data.length ≤ 4611686018427387903
def mayF (f : Frame) : Prop := numsF f ∧
  match f.kind with
  | 1 => bareF f false false true false false false false ∧ 1 ≤ f.limit ∧ f.limit ≤ 65536
  | 2 => bareF f false false false false false false false
  | 3 => bareF f false false true false false false true ∧ f.ranges ≠ [] ∧ f.ranges.length ≤ 64 ∧ setL f.ranges
  | 4 => bareF f true false true true false false false
  | 5 => bareF f true false false true false false false
  | 6 => bareF f false true false false false true false
  | 7 => bareF f true true false false true true false
  | 8 => bareF f false false true false false false false
  | 9 => bareF f true false true false false false false
  | 10 => bareF f false false true false true false false ∧ f.limit ≤ 1152921504606846976
  | 11 => bareF f false false true false false false false
  | 12 => bareF f true false true false false false false
  | 13 => bareF f false false false true true true false
  | 14 => bareF f false false false false false false false
  | _ => False

/-- The ranges of an answer, from the last one back. -/
def ackT : Nat → List (Nat × Nat) → List By
  | _, [] => []
  | from_, (a, b) :: r => numL (from_ - b - 2) ++ (numL (b - a) ++ ackT a r)
def ackB (lim : Nat) : List (Nat × Nat) → List By
  | [] => []
  | (a, b) :: r => numL b ++ (numL lim ++ (numL r.length ++ (numL (b - a) ++ ackT a r)))
def sizedL (d : List By) : List By := numL d.length ++ d
def putF (f : Frame) : List By :=
  match f.kind with
  | 1 => List.replicate f.limit 0
  | 2 => numL 1
  | 3 => numL 2 ++ ackB f.limit f.ranges.reverse
  | 4 => numL 4 ++ (numL f.stream ++ (numL f.code ++ numL f.limit))
  | 5 => numL 5 ++ (numL f.stream ++ numL f.code)
  | 6 => numL 6 ++ (numL f.offset ++ sizedL f.data)
  | 7 => numL ((if 0 < f.offset then 14 else 10) + (if f.fin then 1 else 0)) ++ (numL f.stream ++ ((if 0 < f.offset then numL f.offset else []) ++ sizedL f.data))
  | 8 => numL 16 ++ numL f.limit
  | 9 => numL 17 ++ (numL f.stream ++ numL f.limit)
  | 10 => numL (18 + (if f.fin then 1 else 0)) ++ numL f.limit
  | 11 => numL 20 ++ numL f.limit
  | 12 => numL 21 ++ (numL f.stream ++ numL f.limit)
  | 13 => numL (28 + (if f.fin then 1 else 0)) ++ (numL f.code ++ ((if f.fin then [] else numL 0) ++ sizedL f.data))
  | _ => numL 30

/-! ### What was put is got -/
/-! ### All frames -/
def putAll : List Frame → List By
  | [] => []
  | f :: l => putF f ++ putAll l
/-- No padding meets another one. -/
def sepL : Bool → List Frame → Prop
  | _, [] => True
  | p, f :: l => ¬ (p = true ∧ f.kind = 1) ∧ sepL (f.kind == 1) l
/-! What is read gets less. -/
/-! What was put is got. -/
/-! ### What was got may be put -/
/-- What a body tells may be; its bytes are no more than those that were read, but for one without a length. -/
def Told (k : Nat) (b : List By) (f : Frame) (b' : List By) : Prop := mayF f ∧ ((putF f).length + b'.length ≤ szN k + b.length ∨ b' = [] ∧ (putF f).length ≤ szN k + b.length + 8) ∧ (f.kind = 1 → k = 0)
/-! ### The last byte is missing -/
/-! ### An answer -/
end Go.Proofs.YtjccjlhnjihfjaaDoor.Fr

/-! Greetings as bytes, on lists: what was put is got, with whatever stands behind it; what was got is put as the bytes that it had; what is cut off is short. No program in sight. -/
namespace Go.Proofs.YtjccjlhnjihfjaaDoor.He
open Go
open Go.Proofs.YtjccjlhnjihfjaaDoor.Fr

/-! ### Parsers with their printers -/
abbrev Pr (α : Type) := List By → Option (α × List By)
/-- A parser that a printer belongs to: what is read has a printing that is no longer than the bytes that it had, and is just they, if it is as long; a printing is read with whatever stands behind it; one that is cut off is not. -/
structure Good {α : Type} (p : Pr α) (q : α → List By) (ok : α → Prop) : Prop where
  back : ∀ {b : List By} {a : α} {r : List By}, p b = some (a, r) → ok a ∧ (∃ n, r = b.drop n) ∧ (q a).length + r.length ≤ b.length ∧ ((q a).length + r.length = b.length → b = q a ++ r)
  on : ∀ {a : α} (m : List By), ok a → p (q a ++ m) = some (a, m)
  cut : ∀ {a : α} {i : Nat}, ok a → i < (q a).length → p ((q a).take i) = none

def pairP {α β : Type} (p : Pr α) (p' : Pr β) : Pr (α × β) := fun b => match p b with
  | none => none
  | some (a, r) => match p' r with
    | none => none
    | some (c, r') => some ((a, c), r')

theorem Good.pair {α β : Type} {p : Pr α} {q : α → List By} {ok : α → Prop} {p' : Pr β} {q' : β → List By} {ok' : β → Prop} (h : Good p q ok) (h' : Good p' q' ok') :
    Good (pairP p p') (fun x => q x.1 ++ q' x.2) (fun x => ok x.1 ∧ ok' x.2) where
  back := by
    intro b a r e
    unfold pairP at e
    cases hp : p b with
    | none => rw [hp] at e; cases e
    | some x =>
      obtain ⟨a1, r1⟩ := x
      rw [hp] at e
      simp only at e
      cases hp' : p' r1 with
      | none => rw [hp'] at e; cases e
      | some y =>
        obtain ⟨c1, r2⟩ := y
        rw [hp'] at e
        simp only [Option.some.injEq, Prod.mk.injEq] at e
        obtain ⟨ea, er⟩ := e
        subst ea
        subst er
        obtain ⟨o1, ⟨n1, d1⟩, l1, w1⟩ := h.back hp
        obtain ⟨o2, ⟨n2, d2⟩, l2, w2⟩ := h'.back hp'
        refine ⟨⟨o1, o2⟩, ⟨n1 + n2, by rw [d2, d1, List.drop_drop]⟩, by show (q a1 ++ q' c1).length + r2.length ≤ b.length; rw [List.length_append]; omega, fun hl => ?_⟩
        have hl' : (q a1 ++ q' c1).length + r2.length = b.length := hl
        rw [List.length_append] at hl'
        show b = q a1 ++ q' c1 ++ r2
        rw [List.append_assoc, ← w2 (by omega)]
        exact w1 (by omega)
  on := by
    intro a m ha
    unfold pairP
    rw [List.append_assoc, h.on _ ha.1]
    simp only
    rw [h'.on m ha.2]
  cut := by
    intro a i ha hi
    unfold pairP
    by_cases hc : i < (q a.1).length
    · rw [List.take_append_of_le_length (by omega), h.cut ha.1 hc]
    · rw [List.take_append, List.take_of_length_le (by omega), h.on _ ha.1]
      simp only
      rw [h'.cut ha.2 (by rw [List.length_append] at hi; omega)]

/-! ### The fields -/
def zs : List By := List.replicate 32 0
def fieldP : Pr (List By) := fun b => if b.length < 32 then none else some (b.take 32, b.drop 32)
def limP : Pr Nat := fun b => match getN b with
  | none => none
  | some (n, k) => some (n, b.drop k)

theorem field_good : Good fieldP id (fun a => a.length = 32) where
  back := by
    intro b a r e
    unfold fieldP at e
    split at e
    · cases e
    · simp only [Option.some.injEq, Prod.mk.injEq] at e
      obtain ⟨ea, er⟩ := e
      subst ea
      subst er
      exact ⟨by rw [List.length_take]; omega, ⟨32, rfl⟩, by simp only [id, List.length_take, List.length_drop]; omega, fun _ => (List.take_append_drop 32 b).symm⟩
  on := by
    intro a m ha
    unfold fieldP
    rw [if_neg (by rw [List.length_append]; simp only [id]; omega)]
    simp only [id]
    rw [← ha, List.take_left, List.drop_left]
  cut := by
    intro a i ha hi
    unfold fieldP
    rw [if_pos (by simp only [id, List.length_take] at hi ⊢; omega)]

theorem beV_inj (l : List By) : ∀ (l' : List By) (a a' : Nat), l.length = l'.length → beV a l = beV a' l' → a = a' ∧ l = l' := by
  induction l with
  | nil =>
    intro l' a a' hl h
    cases l' with
    | nil => exact ⟨h, rfl⟩
    | cons => cases hl
  | cons c r ih =>
    intro l' a a' hl h
    cases l' with
    | nil => cases hl
    | cons c' r' =>
      simp only [beV] at h
      obtain ⟨h1, h2⟩ := ih r' _ _ (by simpa using hl) h
      have b1 := c.isLt
      have b2 := c'.isLt
      refine ⟨by omega, ?_⟩
      rw [h2, BitVec.eq_of_toNat_eq (x := c) (y := c') (by omega)]

/-- A number that was read from as few bytes as it needs has just these. -/
theorem getN_least {b : List By} {n : Nat} (h : getN b = some (n, szN n)) (hn : n ≤ 4611686018427387903) : b = numL n ++ b.drop (szN n) := by
  cases b with
  | nil => cases h
  | cons c r =>
    rw [getN] at h
    split at h
    · cases h
    · rename_i hlt
      simp only [Option.some.injEq, Prod.mk.injEq] at h
      obtain ⟨h1, h2⟩ := h
      obtain ⟨c', t', e, k1, k2, k3, _⟩ := numL_head n hn
      rw [h2] at h1 hlt
      have hp := szN_pos n
      have hlen : (r.take (szN n - 1)).length = szN n - 1 := by
        rw [List.length_take]
        simp only [List.length_cons] at hlt
        omega
      obtain ⟨i1, i2⟩ := beV_inj _ _ _ _ (by rw [hlen, k2]) (h1.trans k3.symm)
      have b1 := c.isLt
      have b2 := c'.isLt
      have hq : c.toNat / 64 = c'.toNat / 64 := by
        have hx : c.toNat / 64 = 0 ∨ c.toNat / 64 = 1 ∨ c.toNat / 64 = 2 ∨ c.toNat / 64 = 3 := by omega
        have hy : c'.toNat / 64 = 0 ∨ c'.toNat / 64 = 1 ∨ c'.toNat / 64 = 2 ∨ c'.toNat / 64 = 3 := by omega
        rw [← k1] at h2
        rcases hx with x | x | x | x <;> rcases hy with y | y | y | y <;> rw [x, y] at h2 <;> first | (rw [x, y]; done) | (exfalso; revert h2; decide)
      have hc : c = c' := BitVec.eq_of_toNat_eq (by omega)
      rw [e, ← i2, hc]
      obtain ⟨j, hj⟩ : ∃ j, szN n = j + 1 := ⟨szN n - 1, by omega⟩
      rw [hj, Nat.add_sub_cancel, List.drop_succ_cons, List.cons_append, List.take_append_drop]

theorem lim_good : Good limP numL (fun n => n ≤ 4611686018427387903) where
  back := by
    intro b a r e
    unfold limP at e
    cases hg : getN b with
    | none => rw [hg] at e; cases e
    | some x =>
      obtain ⟨n, k⟩ := x
      rw [hg] at e
      simp only [Option.some.injEq, Prod.mk.injEq] at e
      obtain ⟨ea, er⟩ := e
      subst ea
      subst er
      obtain ⟨h1, h2, h3, h4⟩ := getN_some hg
      refine ⟨h3, ⟨k, rfl⟩, by rw [numL_length, List.length_drop]; omega, fun hl => ?_⟩
      rw [numL_length, List.length_drop] at hl
      obtain rfl : k = szN n := by omega
      exact getN_least hg h3
  on := by
    intro a m ha
    unfold limP
    rw [getN_num a ha]
    simp only
    rw [← numL_length a, List.drop_left]
  cut := by
    intro a i ha hi
    unfold limP
    rw [getN_cut a ha i (by rwa [numL_length] at hi)]

/-! ### Greetings -/
/-- The four limits. -/
abbrev Q4 := Nat × Nat × Nat × Nat
def z4 : Q4 := (0, 0, 0, 0)
def lims : Pr Q4 := pairP limP (pairP limP (pairP limP limP))
def limsL (l : Q4) : List By := numL l.1 ++ (numL l.2.1 ++ (numL l.2.2.1 ++ numL l.2.2.2))
def Q4.Fit (l : Q4) : Prop := l.1 ≤ 4611686018427387903 ∧ l.2.1 ≤ 4611686018427387903 ∧ l.2.2.1 ≤ 4611686018427387903 ∧ l.2.2.2 ≤ 4611686018427387903
theorem lims_good : Good lims limsL Q4.Fit := lim_good.pair (lim_good.pair (lim_good.pair lim_good))

structure H where
  k : By
  nn : List By
  l : Q4
  pf : List By
instance : DecidableEq H := fun x y =>
  if h : x.k = y.k ∧ x.nn = y.nn ∧ x.l = y.l ∧ x.pf = y.pf then
    .isTrue (by
      obtain ⟨a, b, c, d⟩ := x
      obtain ⟨a', b', c', d'⟩ := y
      obtain ⟨h1, h2, h3, h4⟩ := h
      simp only at h1 h2 h3 h4
      rw [h1, h2, h3, h4])
  else .isFalse fun e => h (by subst e; exact ⟨rfl, rfl, rfl, rfl⟩)
def H0 : H := ⟨0, zs, z4, zs⟩
def opn (k : By) : Bool := k == 1 || k == 2
def prv (k : By) : Bool := k == 2 || k == 3
def isK (k : By) : Bool := opn k || prv k
structure H.Fine (h : H) : Prop where
  n32 : h.nn.length = 32
  p32 : h.pf.length = 32
/-- Of a greeting what its kind has. -/
def H.had (h : H) : H := ⟨h.k, if opn h.k then h.nn else zs, if opn h.k then h.l else z4, if prv h.k then h.pf else zs⟩
def H.may (h : H) : Prop := isK h.k = true ∧ h = h.had ∧ h.l.Fit
instance (l : Q4) : Decidable l.Fit := by unfold Q4.Fit; infer_instance
def H.bytes (h : H) : List By := h.k :: ((if opn h.k then h.nn ++ limsL h.l else []) ++ (if prv h.k then h.pf else []))

open Classical in
noncomputable def putO (h : H) : List By := if h.may then h.bytes else []
open Classical in
noncomputable def putE (h : H) : Nat := if h.may then 0 else 1

/-! ### Reading, by a reader that remembers that bytes were missing -/
abbrev S := List By × Bool
def stp {α : Type} (p : Pr α) (z : α) (s : S) : α × S := match p s.1 with
  | none => (z, (s.1, true))
  | some (a, r) => (a, (r, s.2))
def rN : S → List By × S := stp fieldP zs
def rL : S → Nat × S := stp limP 0
def r4 (s : S) : Q4 × S := (((rL s).1, (rL (rL s).2).1, (rL (rL (rL s).2).2).1, (rL (rL (rL (rL s).2).2).2).1), (rL (rL (rL (rL s).2).2).2).2)
def rO (k : By) (s : S) : (List By × Q4) × S := if opn k then (((rN s).1, (r4 (rN s).2).1), (r4 (rN s).2).2) else ((zs, z4), s)
def rP (k : By) (s : S) : List By × S := if prv k then rN s else (zs, s)
/-- The greeting, and what is left. -/
def rH (k : By) (t : List By) : H × S := (⟨k, (rO k (t, false)).1.1, (rO k (t, false)).1.2, (rP k (rO k (t, false)).2).1⟩, (rP k (rO k (t, false)).2).2)
open Classical in
noncomputable def got (b : List By) : H × Nat × Nat := match b with
  | [] => (H0, 0, 4)
  | k :: t => if isK k = false then (H0, 0, 5) else if (rH k t).2.2 = true then (H0, 0, 4) else
      if (rH k t).1.may ∧ (rH k t).1.bytes.length = b.length - (rH k t).2.1.length then ((rH k t).1, b.length - (rH k t).2.1.length, 0) else (H0, 0, 5)

/-! #### What it comes to -/
theorem stp_short {α : Type} (p : Pr α) (z : α) (s : S) (h : s.2 = true) : (stp p z s).2.2 = true := by
  unfold stp
  split
  · rfl
  · exact h
theorem stp_some {α : Type} {p : Pr α} {z a : α} {b r : List By} (h : p b = some (a, r)) (f : Bool) : stp p z (b, f) = (a, (r, f)) := by
  unfold stp
  simp only [h]
theorem stp_none {α : Type} {p : Pr α} (z : α) {b : List By} (h : p b = none) (f : Bool) : stp p z (b, f) = (z, (b, true)) := by
  unfold stp
  simp only [h]
/-- A reader's step holds against a parser: what the parser reads is read; what it doesn't is short; what was short stays so. -/
structure Stps {α : Type} (f : S → α × S) (p : Pr α) : Prop where
  yes : ∀ {b : List By} {a : α} {r : List By}, p b = some (a, r) → f (b, false) = (a, (r, false))
  no : ∀ {b : List By}, p b = none → (f (b, false)).2.2 = true
  stays : ∀ {s : S}, s.2 = true → (f s).2.2 = true
theorem Stps.one {α : Type} (p : Pr α) (z : α) : Stps (stp p z) p where
  yes h := stp_some h false
  no h := by rw [stp_none z h false]
  stays h := stp_short p z _ h
theorem Stps.pair {α β : Type} {f : S → α × S} {p : Pr α} {f' : S → β × S} {p' : Pr β} (h : Stps f p) (h' : Stps f' p') : Stps (fun s => (((f s).1, (f' (f s).2).1), (f' (f s).2).2)) (pairP p p') where
  yes := by
    intro b a r e
    unfold pairP at e
    cases hp : p b with
    | none => rw [hp] at e; cases e
    | some x =>
      obtain ⟨a1, r1⟩ := x
      rw [hp] at e
      simp only at e
      cases hp' : p' r1 with
      | none => rw [hp'] at e; cases e
      | some y =>
        obtain ⟨c1, r2⟩ := y
        rw [hp'] at e
        simp only [Option.some.injEq, Prod.mk.injEq] at e
        obtain ⟨ea, er⟩ := e
        subst ea
        subst er
        simp only [h.yes hp, h'.yes hp']
  no := by
    intro b e
    unfold pairP at e
    cases hp : p b with
    | none => exact h'.stays (h.no hp)
    | some x =>
      obtain ⟨a1, r1⟩ := x
      rw [hp] at e
      simp only at e
      cases hp' : p' r1 with
      | none =>
        simp only [h.yes hp]
        exact h'.no hp'
      | some y => rw [hp'] at e; cases e
  stays := fun hs => h'.stays (h.stays hs)
theorem rN_stps : Stps rN fieldP := Stps.one _ _
theorem rL_stps : Stps rL limP := Stps.one _ _
theorem r4_stps : Stps r4 lims := rL_stps.pair (rL_stps.pair (rL_stps.pair rL_stps))

/-- What a kind's greeting is read by, behind its first byte, and what it is told as. -/
def kH (k : By) (x : (List By × Q4) × List By) : H := ⟨k, x.1.1, x.1.2, x.2⟩
def body (k : By) : Pr ((List By × Q4) × List By) :=
  pairP (if opn k then pairP fieldP lims else fun b => some ((zs, z4), b)) (if prv k then fieldP else fun b => some (zs, b))
theorem non_good {α : Type} (z : α) : Good (fun b => some (z, b)) (fun _ => []) (fun x => x = z) where
  back := by
    intro b a r e
    simp only [Option.some.injEq, Prod.mk.injEq] at e
    obtain ⟨rfl, rfl⟩ := e
    exact ⟨rfl, ⟨0, rfl⟩, by simp, fun _ => rfl⟩
  on := by
    intro a m ha
    subst ha
    rfl
  cut := by
    intro a i _ hi
    simp at hi
theorem non_stps {α : Type} (z : α) : Stps (fun s => (z, s)) (fun b => some (z, b)) where
  yes := by
    intro b a r e
    simp only [Option.some.injEq, Prod.mk.injEq] at e
    obtain ⟨rfl, rfl⟩ := e
    rfl
  no := by
    intro b e
    cases e
  stays := fun h => h
def bodyQ (k : By) (x : (List By × Q4) × List By) : List By := (if opn k then x.1.1 ++ limsL x.1.2 else []) ++ (if prv k then x.2 else [])
def bodyOk (k : By) (x : (List By × Q4) × List By) : Prop := (if opn k then x.1.1.length = 32 ∧ x.1.2.Fit else x.1 = (zs, z4)) ∧ (if prv k then x.2.length = 32 else x.2 = zs)
theorem body_good (k : By) : Good (body k) (bodyQ k) (bodyOk k) := by
  unfold body bodyQ bodyOk
  refine Good.pair (q := fun y => if opn k then y.1 ++ limsL y.2 else []) (q' := fun y => if prv k then y else []) (ok := fun y => if opn k then y.1.length = 32 ∧ y.2.Fit else y = (zs, z4)) (ok' := fun y => if prv k then y.length = 32 else y = zs) ?_ ?_
  · cases opn k
    · exact non_good _
    · exact field_good.pair lims_good
  · cases prv k
    · exact non_good _
    · exact field_good
theorem rH_stps (k : By) : Stps (fun s => (((rO k s).1, (rP k (rO k s).2).1), (rP k (rO k s).2).2)) (body k) := by
  unfold body
  refine Stps.pair (f := rO k) (f' := rP k) ?_ ?_
  · unfold rO
    cases opn k
    · exact non_stps _
    · exact rN_stps.pair r4_stps
  · unfold rP
    cases prv k
    · exact non_stps _
    · exact rN_stps
theorem rH_some {k : By} {t : List By} {x : (List By × Q4) × List By} {r : List By} (h : body k t = some (x, r)) : rH k t = (kH k x, (r, false)) := by
  have e := (rH_stps k).yes h
  simp only [Prod.mk.injEq] at e
  obtain ⟨e1, e2⟩ := e
  unfold rH kH
  rw [e2, ← e1]
theorem rH_none {k : By} {t : List By} (h : body k t = none) : (rH k t).2.2 = true := (rH_stps k).no h
theorem bytes_body (k : By) (x : (List By × Q4) × List By) : (kH k x).bytes = k :: bodyQ k x := rfl
theorem body_may {k : By} {x : (List By × Q4) × List By} (hk : isK k = true) (h : bodyOk k x) : (kH k x).may ∧ (kH k x).Fine := by
  obtain ⟨⟨n, l⟩, p⟩ := x
  unfold bodyOk at h
  obtain ⟨h1, h2⟩ := h
  refine ⟨⟨hk, ?_, ?_⟩, ⟨?_, ?_⟩⟩
  · unfold H.had kH
    simp only
    simp only at h1 h2
    cases ho : opn k <;> cases hp : prv k <;> simp only [ho, hp, if_true, Bool.false_eq_true, if_false] at h1 h2 ⊢ <;> (try simp only [Prod.mk.injEq] at h1) <;> simp [h1, h2]
  · simp only [kH]
    cases ho : opn k <;> simp only [ho, if_true, Bool.false_eq_true, if_false] at h1
    · simp only [Prod.mk.injEq] at h1
      rw [h1.2]
      decide
    · exact h1.2
  · simp only [kH]
    cases ho : opn k <;> simp only [ho, if_true, Bool.false_eq_true, if_false] at h1
    · simp only [Prod.mk.injEq] at h1
      rw [h1.1]
      rfl
    · exact h1.1
  · simp only [kH]
    cases hp : prv k <;> simp only [hp, if_true, Bool.false_eq_true, if_false] at h2
    · rw [h2]
      rfl
    · exact h2
theorem may_body {h : H} (hm : h.may) (hf : h.Fine) : bodyOk h.k ((h.nn, h.l), h.pf) := by
  obtain ⟨_, e, hl⟩ := hm
  obtain ⟨k, n, l, p⟩ := h
  unfold H.had at e
  simp only [H.mk.injEq] at e hl
  obtain ⟨_, e1, e2, e3⟩ := e
  have f1 := hf.n32
  have f2 := hf.p32
  simp only at f1 f2
  unfold bodyOk
  simp only
  cases ho : opn k <;> cases hp : prv k <;> simp only [ho, hp, if_true, Bool.false_eq_true, if_false] at e1 e2 e3 ⊢
  · exact ⟨by rw [e1, e2], e3⟩
  · exact ⟨by rw [e1, e2], f2⟩
  · exact ⟨⟨f1, hl⟩, e3⟩
  · exact ⟨⟨f1, hl⟩, f2⟩

/-- What was put is got, with whatever stands behind it. -/
theorem got_put {h : H} (hm : h.may) (hf : h.Fine) (m : List By) : got (h.bytes ++ m) = (h, h.bytes.length, 0) := by
  have hb : body h.k (bodyQ h.k ((h.nn, h.l), h.pf) ++ m) = some (((h.nn, h.l), h.pf), m) := (body_good h.k).on m (may_body hm hf)
  have hr := rH_some hb
  have e : h.bytes ++ m = h.k :: (bodyQ h.k ((h.nn, h.l), h.pf) ++ m) := rfl
  rw [e]
  unfold got
  simp only
  rw [if_neg (by rw [hm.1]; decide), hr]
  simp only
  have e2 : kH h.k ((h.nn, h.l), h.pf) = h := rfl
  have e3 : (h.k :: (bodyQ h.k ((h.nn, h.l), h.pf) ++ m)).length - m.length = h.bytes.length := by
    rw [← e, List.length_append]
    omega
  rw [e2, e3, if_neg (by decide), if_pos ⟨hm, rfl⟩]

/-- What was got may be, and is put as the bytes that it had; a shorter beginning of them is short. -/
theorem got_done {b : List By} {h : H} {n : Nat} (hg : got b = (h, n, 0)) : h.may ∧ h.Fine ∧ n ≤ b.length ∧ h.bytes = b.take n ∧ ∀ i, i < n → (got (b.take i)).2.2 = 4 := by
  cases b with
  | nil => simp [got] at hg
  | cons k t =>
    unfold got at hg
    simp only at hg
    split at hg
    · simp at hg
    · rename_i hk
      have hk' : isK k = true := by cases h' : isK k <;> simp_all
      cases hb : body k t with
      | none =>
        rw [if_pos (rH_none hb)] at hg
        simp at hg
      | some x =>
        obtain ⟨x, r⟩ := x
        rw [rH_some hb] at hg
        simp only at hg
        rw [if_neg (by decide)] at hg
        split at hg
        · rename_i hc
          simp only [Prod.mk.injEq] at hg
          obtain ⟨e1, e2, _⟩ := hg
          obtain ⟨o, ⟨j, hj⟩, l, w⟩ := (body_good k).back hb
          obtain ⟨m, f⟩ := body_may hk' o
          rw [bytes_body, List.length_cons, List.length_cons] at hc
          rw [List.length_cons] at e2
          have hw := w (by omega)
          subst e1
          have hn : n = (bodyQ k x).length + 1 := by omega
          refine ⟨m, f, by rw [List.length_cons]; omega, ?_, ?_⟩
          · rw [bytes_body, hn, List.take_succ_cons]
            congr 1
            conv => rhs; rw [hw]
            rw [List.take_left]
          · intro i hi
            cases i with
            | zero => rfl
            | succ i =>
              have hi' : i < (bodyQ k x).length := by omega
              have ht : t.take i = (bodyQ k x).take i := by
                rw [hw, List.take_append_of_le_length (by omega)]
              rw [List.take_succ_cons, ht]
              unfold got
              simp only
              rw [if_neg hk, if_pos (rH_none ((body_good k).cut o hi'))]
        · simp at hg
theorem got_err {b : List By} (he : (got b).2.2 ≠ 0) : got b = (H0, 0, (got b).2.2) := by
  unfold got at he ⊢
  cases b with
  | nil => rfl
  | cons k t =>
    simp only at he ⊢
    split
    · rfl
    · split
      · rfl
      · split
        · rename_i h1 h2 h3
          rw [if_neg h1, if_neg h2, if_pos h3] at he
          exact absurd rfl he
        · rfl
end Go.Proofs.YtjccjlhnjihfjaaDoor.He
