/-
  Texts behind the highest bits of a byte: no program in sight.
-/
import Derived.Test.YtiecpkkklefjdaaGreatDoorGuTxVarM
import Derived.Test.YtiecpkkklefjdaaGreatDoorGuHfPack
import Derived.Test.YtiecpkkklefjdaaGreatDoorGu1
namespace Go.Proofs.YtiecpkkklefjdaaGreatDoor.Tx
open Go Go.RowKit

/-- bits from 2 to 8; M is the number whose bits - 1 lowest bits are set. -/
def Bt (B M : Int) : Prop := (B = 2 ∧ M = 1) ∨ (B = 3 ∧ M = 3) ∨ (B = 4 ∧ M = 7) ∨ (B = 5 ∧ M = 15) ∨ (B = 6 ∧ M = 31) ∨ (B = 7 ∧ M = 63) ∨ (B = 8 ∧ M = 127)
theorem Bt.of (b : Int) (h0 : 2 ≤ b) (h1 : b ≤ 8) : ∃ M, Bt b M := by
  rcases (show b = 2 ∨ b = 3 ∨ b = 4 ∨ b = 5 ∨ b = 6 ∨ b = 7 ∨ b = 8 by omega) with h | h | h | h | h | h | h
  · exact ⟨1, .inl ⟨h, rfl⟩⟩
  · exact ⟨3, .inr (.inl ⟨h, rfl⟩)⟩
  · exact ⟨7, .inr (.inr (.inl ⟨h, rfl⟩))⟩
  · exact ⟨15, .inr (.inr (.inr (.inl ⟨h, rfl⟩)))⟩
  · exact ⟨31, .inr (.inr (.inr (.inr (.inl ⟨h, rfl⟩))))⟩
  · exact ⟨63, .inr (.inr (.inr (.inr (.inr (.inl ⟨h, rfl⟩)))))⟩
  · exact ⟨127, .inr (.inr (.inr (.inr (.inr (.inr ⟨h, rfl⟩)))))⟩
theorem Bt.bd {B M : Int} (h : Bt B M) : 2 ≤ B ∧ B ≤ 8 ∧ 1 ≤ M ∧ M ≤ 127 := by unfold Bt at h; omega
theorem Bt.low {B M : Int} (h : Bt B M) : Vi.IsMask (B - 1) M := by
  unfold Bt at h
  unfold Vi.IsMask
  rcases h with ⟨rfl, rfl⟩ | ⟨rfl, rfl⟩ | ⟨rfl, rfl⟩ | ⟨rfl, rfl⟩ | ⟨rfl, rfl⟩ | ⟨rfl, rfl⟩ | ⟨rfl, rfl⟩ <;> decide
theorem Bt.all {B M : Int} (h : Bt B M) : Vi.IsMask B (2 * M + 1) := by
  unfold Bt at h
  unfold Vi.IsMask
  rcases h with ⟨rfl, rfl⟩ | ⟨rfl, rfl⟩ | ⟨rfl, rfl⟩ | ⟨rfl, rfl⟩ | ⟨rfl, rfl⟩ | ⟨rfl, rfl⟩ | ⟨rfl, rfl⟩ <;> decide
theorem Bt.nat {B M : Int} (h : Bt B M) : ∃ k : Nat, k < 8 ∧ M + 1 = (2 ^ k : Nat) ∧ B = k + 1 := by
  unfold Bt at h
  rcases h with ⟨rfl, rfl⟩ | ⟨rfl, rfl⟩ | ⟨rfl, rfl⟩ | ⟨rfl, rfl⟩ | ⟨rfl, rfl⟩ | ⟨rfl, rfl⟩ | ⟨rfl, rfl⟩
  · exact ⟨1, by decide, rfl, rfl⟩
  · exact ⟨2, by decide, rfl, rfl⟩
  · exact ⟨3, by decide, rfl, rfl⟩
  · exact ⟨4, by decide, rfl, rfl⟩
  · exact ⟨5, by decide, rfl, rfl⟩
  · exact ⟨6, by decide, rfl, rfl⟩
  · exact ⟨7, by decide, rfl, rfl⟩

/-- What the mark counts, where it is set. -/
def mk (M : Int) (f : Bool) : Int := if f then M + 1 else 0
/-- Is the mark set? -/
def mkd (M A : Int) : Bool := decide (A / (M + 1) % 2 = 1)

theorem Bt.and8 {B M : Int} (h : Bt B M) (c : Int) (h0 : 0 ≤ c) (h1 : c ≤ 255) : bits .and .u8 c (2 * M + 1) = c % (2 * M + 2) := by
  obtain ⟨k, _, _, hk, _⟩ := h.all.nat
  have hb := h.bd
  rw [u8_and _ _ (by omega) (by omega) (by omega) (by omega)]
  have e : (2 * M + 1).toNat = 2 ^ k - 1 := by omega
  rw [e, Nat.and_two_pow_sub_one_eq_mod, show 2 * M + 2 = (2 ^ k : Nat) by omega, Vi.modNat c _ h0]
theorem and_bit : ∀ k, k < 8 → ∀ a, a < 256 → a &&& 2 ^ k = a / 2 ^ k % 2 * 2 ^ k := by decide +kernel
theorem andNot_bit : ∀ k, k < 8 → ∀ a, a < 256 → a &&& (255 - 2 ^ k) = a - a / 2 ^ k % 2 * 2 ^ k := by decide +kernel
theorem bit_le (a k : Nat) : a / 2 ^ k % 2 * 2 ^ k ≤ a := by
  have h1 : a / 2 ^ k % 2 ≤ a / 2 ^ k := Nat.mod_le _ _
  exact Nat.le_trans (Nat.mul_le_mul_right _ h1) (Nat.div_mul_le_self _ _)
theorem mk_nat {M A : Int} {k : Nat} (hk : M + 1 = (2 ^ k : Nat)) (h0 : 0 ≤ A) : mk M (mkd M A) = ((A.toNat / 2 ^ k % 2 * 2 ^ k : Nat) : Int) := by
  have e : A / (M + 1) % 2 = ((A.toNat / 2 ^ k % 2 : Nat) : Int) := by
    rw [hk, Int.natCast_emod, Int.natCast_ediv, Int.toNat_of_nonneg h0]
    rfl
  unfold mk mkd
  rw [e]
  have h2 : A.toNat / 2 ^ k % 2 < 2 := Nat.mod_lt _ (by decide)
  rcases (show A.toNat / 2 ^ k % 2 = 0 ∨ A.toNat / 2 ^ k % 2 = 1 by omega) with h | h
  · rw [h]; simp
  · rw [h]; simp [hk]
theorem Bt.andM {B M : Int} (h : Bt B M) (c : Int) (h0 : 0 ≤ c) (h1 : c ≤ 255) : bits .and .u8 c (M + 1) = mk M (mkd M c) := by
  obtain ⟨k, hk8, hk, _⟩ := h.nat
  have hb := h.bd
  rw [u8_and _ _ (by omega) (by omega) (by omega) (by omega), mk_nat hk h0]
  have e : (M + 1).toNat = 2 ^ k := by omega
  rw [e, and_bit k hk8 _ (by omega)]
theorem Bt.andNotM {B M : Int} (h : Bt B M) (c : Int) (h0 : 0 ≤ c) (h1 : c ≤ 255) : bits .andNot .u8 c (M + 1) = c - mk M (mkd M c) := by
  obtain ⟨k, hk8, hk, _⟩ := h.nat
  have hb := h.bd
  rw [u8_andNot _ _ (by omega) (by omega) (by omega) (by omega), mk_nat hk h0]
  have e : (M + 1).toNat = 2 ^ k := by omega
  rw [e, andNot_bit k hk8 _ (by omega)]
  have := bit_le c.toNat k
  omega
theorem Bt.orM {B M : Int} (h : Bt B M) (c : Int) (h0 : 0 ≤ c) (h1 : c ≤ 255) (hc : c % (2 * M + 2) = 0) : bits .or .u8 c (M + 1) = c + (M + 1) := by
  have hb := h.bd
  exact h.all.or8 c (M + 1) h0 h1 (by rw [show 2 * M + 1 + 1 = 2 * M + 2 by omega]; exact hc) (by omega) (by omega)
theorem mk_ne (M : Int) (h : 1 ≤ M) (f : Bool) : (mk M f != 0) = f := by
  unfold mk
  cases f
  · simp
  · simp; omega

/-- What a byte holds when the mark was laid upon it. -/
theorem Bt.laid {B M : Int} (h : Bt B M) (c : Int) (h0 : 0 ≤ c) (h1 : c ≤ 255) (hc : c % (2 * M + 2) = 0) (f : Bool) :
    0 ≤ c + mk M f ∧ c + mk M f ≤ 255 ∧ (c + mk M f) % (M + 1) = 0 ∧ mkd M (c + mk M f) = f := by
  unfold mk mkd
  unfold Bt at h
  rcases h with ⟨rfl, rfl⟩ | ⟨rfl, rfl⟩ | ⟨rfl, rfl⟩ | ⟨rfl, rfl⟩ | ⟨rfl, rfl⟩ | ⟨rfl, rfl⟩ | ⟨rfl, rfl⟩
  all_goals
    cases f
    · simp only [Bool.false_eq_true, if_false, decide_eq_false_iff_not]
      omega
    · simp only [if_true, decide_eq_true_eq]
      omega
/-- What is left of a byte without its mark. -/
theorem Bt.left {B M : Int} (h : Bt B M) (c : Int) (h0 : 0 ≤ c) (h1 : c ≤ 255) (hc : c % (M + 1) = 0) :
    0 ≤ c - mk M (mkd M c) ∧ c - mk M (mkd M c) ≤ 255 ∧ (c - mk M (mkd M c)) % (2 * M + 2) = 0 := by
  unfold mk mkd
  unfold Bt at h
  rcases h with ⟨rfl, rfl⟩ | ⟨rfl, rfl⟩ | ⟨rfl, rfl⟩ | ⟨rfl, rfl⟩ | ⟨rfl, rfl⟩ | ⟨rfl, rfl⟩ | ⟨rfl, rfl⟩
  all_goals
    simp only [decide_eq_true_eq]
    split <;> omega

/-- Bytes as numbers, and back. -/
def zs (b : List By) : List Int := b.map v8
def toB (l : List Int) : List By := l.map fun z => BitVec.ofNat 8 z.toNat
theorem zs_length (b : List By) : (zs b).length = b.length := by simp [zs]
theorem toB_length (l : List Int) : (toB l).length = l.length := by simp [toB]
theorem zs_append (a b : List By) : zs (a ++ b) = zs a ++ zs b := by simp [zs]
theorem zs_take (a : List By) (n : Nat) : zs (a.take n) = (zs a).take n := by simp [zs, List.map_take]
theorem zs_toB (l : List Int) (h : ∀ c ∈ l, 0 ≤ c ∧ c ≤ 255) : zs (toB l) = l := by
  unfold zs toB
  rw [List.map_map]
  refine (List.map_congr_left ?_).trans (List.map_id _)
  intro c hc
  have := h c hc
  show v8 (BitVec.ofNat 8 c.toNat) = c
  unfold v8
  rw [BitVec.toNat_ofNat, Nat.mod_eq_of_lt (by omega)]
  omega
theorem zs_byte (b : List By) (j : Nat) : 0 ≤ (zs b)[j]?.getD 0 ∧ (zs b)[j]?.getD 0 ≤ 255 := by
  unfold zs
  rw [List.getElem?_map]
  cases b[j]? with
  | none => simp
  | some c => exact ⟨v8_nn c, v8_le c⟩
theorem zs_gb (b : List By) (j : Nat) (h : j < b.length) : (zs b)[j]?.getD 0 = v8 (gb b j) := by
  unfold zs gb
  rw [List.getElem?_map, List.getElem?_eq_getElem h]
  rfl

/-- Is a text told in the code of few bits? How it is told. -/
def few (s : List By) : Bool := decide (Hf.packN (Hf.txt s) < s.length)
def told (s : List By) : List By := if few s then Hf.packL (Hf.txt s) else s
/-- Bytes behind the highest bits of a byte, marked or not. -/
def laid (first M : Int) (f : Bool) (t : List By) : List By := toB (Vi.putP (first + mk M f) M t.length) ++ t
def putX (first M : Int) (s : List By) : List By := laid first M (few s) (told s)
/-- The text of bytes, marked or not. -/
def read (f : Bool) (t : List By) : Option (List By) := if f then Hf.getT t else some t
def fin (a : Int) (n : Int) : Option (List By) → Int × List By × Int × Int
  | none => (0, [], 0, 5)
  | some s => if 65536 < s.length then (0, [], 0, 3) else (a, s, n, 0)
/-- What is got: what stands above, the text, how many bytes, the error. -/
def getX (M : Int) (b : List By) : Int × List By × Int × Int :=
  if (Vi.getP M (zs b)).2.2.2 ≠ 0 then (0, [], 0, (Vi.getP M (zs b)).2.2.2)
  else if 65536 < (Vi.getP M (zs b)).2.1 then (0, [], 0, 3)
  else if (b.length : Int) - (Vi.getP M (zs b)).2.2.1 < (Vi.getP M (zs b)).2.1 then (0, [], 0, 4)
  else fin ((Vi.getP M (zs b)).1 - mk M (mkd M (Vi.getP M (zs b)).1)) ((Vi.getP M (zs b)).2.2.1 + (Vi.getP M (zs b)).2.1) (read (mkd M (Vi.getP M (zs b)).1) ((b.drop (Vi.getP M (zs b)).2.2.1.toNat).take (Vi.getP M (zs b)).2.1.toNat))

theorem getX_err {M : Int} {b : List By} {e : Int} (h : Vi.getP M (zs b) = (0, 0, 0, e)) (he : e ≠ 0) : getX M b = (0, [], 0, e) := by
  unfold getX; rw [h, if_pos he]
theorem getX_big {M : Int} {b : List By} {a n k : Int} (h : Vi.getP M (zs b) = (a, n, k, 0)) (hn : 65536 < n) : getX M b = (0, [], 0, 3) := by
  unfold getX; rw [h, if_neg (by simp), if_pos hn]
theorem getX_short {M : Int} {b : List By} {a n k : Int} (h : Vi.getP M (zs b) = (a, n, k, 0)) (hn : ¬ 65536 < n) (hs : (b.length : Int) - k < n) : getX M b = (0, [], 0, 4) := by
  unfold getX; rw [h, if_neg (by simp), if_neg hn, if_pos hs]
theorem getX_fin {M : Int} {b : List By} {a : Int} {n k : Nat} (h : Vi.getP M (zs b) = (a, (n : Int), (k : Int), 0)) (hn : n ≤ 65536) (hs : k + n ≤ b.length) : getX M b = fin (a - mk M (mkd M a)) ((k + n : Nat) : Int) (read (mkd M a) ((b.drop k).take n)) := by
  unfold getX; rw [h, if_neg (by simp), if_neg (show ¬ (65536 : Int) < (n : Int) by omega), if_neg (show ¬ (b.length : Int) - (k : Int) < (n : Int) by omega)]
  rw [Int.toNat_natCast, Int.toNat_natCast, Int.natCast_add]

/-- What GetPrefix may answer. -/
theorem getP_nat {B M : Int} (h : Bt B M) (b : List By) : (∃ e : Int, Vi.getP M (zs b) = (0, 0, 0, e) ∧ 3 ≤ e ∧ e ≤ 5) ∨
    ∃ A n k : Nat, Vi.getP M (zs b) = ((A : Int), (n : Int), (k : Int), 0) ∧ Vi.MayPut A (B - 1) M n ∧ (Vi.putP A M n).length ≤ k ∧ 1 ≤ k ∧ k ≤ b.length ∧ k ≤ 11 := by
  rcases Vi.getP_again M (B - 1) (zs b) h.low (zs_byte b) with hx | ⟨ab, x, j, h1, h2, h3, h4, h5⟩
  · exact .inl hx
  · have hl : 1 ≤ (Vi.putP ab M x).length := (Vi.putP_len ab M x).1
    have h0 := h2.f0
    have hn0 := h2.n0
    rw [zs_length] at h4
    obtain ⟨A, rfl⟩ := Int.eq_ofNat_of_zero_le h0
    obtain ⟨n, rfl⟩ := Int.eq_ofNat_of_zero_le hn0
    obtain ⟨k, rfl⟩ := Int.eq_ofNat_of_zero_le (show 0 ≤ j by omega)
    exact .inr ⟨A, n, k, h1, h2, by omega, by omega, by omega, by omega⟩

theorem told_le (s : List By) : (told s).length ≤ s.length := by
  unfold told few
  by_cases h : Hf.packN (Hf.txt s) < s.length
  · rw [decide_eq_true h, if_pos rfl]
    show (Hf.packTo _ _).length ≤ _
    rw [Hf.packTo_length]
    omega
  · rw [decide_eq_false h, if_neg (by simp)]
    exact Nat.le_refl _
theorem told_few (s : List By) : (told s).length ≤ Hf.packN (Hf.txt s) := by
  unfold told few
  by_cases h : Hf.packN (Hf.txt s) < s.length
  · rw [decide_eq_true h, if_pos rfl]
    show (Hf.packTo _ _).length ≤ _
    rw [Hf.packTo_length]
    exact Nat.le_refl _
  · rw [decide_eq_false h, if_neg (by simp)]
    omega
theorem read_told (s : List By) : read (few s) (told s) = some s := by
  unfold read told
  by_cases h : few s = true
  · rw [h, if_pos rfl, if_pos rfl, Hf.get_put]
  · rw [if_neg h, if_neg h]

theorem laid_may {B M : Int} (h : Bt B M) {first : Int} (h0 : 0 ≤ first) (h1 : first ≤ 255) (hc : first % (2 * M + 2) = 0) (f : Bool) {n : Nat} (hn : n ≤ 262144) : Vi.MayPut (first + mk M f) (B - 1) M n := by
  obtain ⟨a, b, c, _⟩ := h.laid first h0 h1 hc f
  exact ⟨h.low, a, b, c, by omega, by omega⟩
theorem zs_laid {B M : Int} (h : Bt B M) {first : Int} (h0 : 0 ≤ first) (h1 : first ≤ 255) (hc : first % (2 * M + 2) = 0) (f : Bool) {t : List By} (hn : t.length ≤ 262144) : zs (laid first M f t) = Vi.putP (first + mk M f) M t.length ++ zs t := by
  unfold laid
  rw [zs_append, zs_toB _ (Vi.putP_bytes (laid_may h h0 h1 hc f hn))]
theorem laid_length (first M : Int) (f : Bool) (t : List By) : (laid first M f t).length = (Vi.putP (first + mk M f) M t.length).length + t.length := by
  unfold laid
  rw [List.length_append, toB_length]

/-- What was laid is got, whatever stands behind. -/
theorem get_laid {B M : Int} (h : Bt B M) {first : Int} (h0 : 0 ≤ first) (h1 : first ≤ 255) (hc : first % (2 * M + 2) = 0) (f : Bool) {t s : List By} (hn : t.length ≤ 65536) (hs : s.length ≤ 65536) (hr : read f t = some s) (more : List By) :
    getX M (laid first M f t ++ more) = (first, s, ((laid first M f t).length : Int), 0) := by
  have hm := laid_may h h0 h1 hc f (n := t.length) (by omega)
  have hp := Vi.getP_put hm (zs t ++ zs more)
  have hz : zs (laid first M f t ++ more) = Vi.putP (first + mk M f) M t.length ++ (zs t ++ zs more) := by rw [zs_append, zs_laid h h0 h1 hc f (by omega), List.append_assoc]
  rw [← hz] at hp
  have hd := (h.laid first h0 h1 hc f).2.2.2
  rw [getX_fin hp hn (by rw [List.length_append, laid_length]; omega), hd, laid_length]
  have e : ((laid first M f t ++ more).drop (Vi.putP (first + mk M f) M t.length).length).take t.length = t := by
    unfold laid
    rw [List.append_assoc, List.drop_append_of_le_length (by rw [toB_length]; exact Nat.le_refl _), List.drop_eq_nil_of_le (by rw [toB_length]; exact Nat.le_refl _), List.nil_append, List.take_left']
    rfl
  rw [e, hr]
  unfold fin
  simp only
  rw [if_neg (by omega), show first + mk M f - mk M f = first by omega]
theorem get_put {B M : Int} (h : Bt B M) {first : Int} (h0 : 0 ≤ first) (h1 : first ≤ 255) (hc : first % (2 * M + 2) = 0) {s : List By} (hs : s.length ≤ 65536) (more : List By) :
    getX M (putX first M s ++ more) = (first, s, ((putX first M s).length : Int), 0) :=
  get_laid h h0 h1 hc (few s) (by have := told_le s; omega) hs (read_told s) more

theorem putP_less {first b M n : Int} (h : Vi.MayPut first b M n) (c : Nat) (hc : c < (Vi.putP first M n).length) : Vi.getP M ((Vi.putP first M n).take c) = (0, 0, 0, 4) := by
  cases c with
  | zero => rw [List.take_zero]; rfl
  | succ c =>
    have hM := h.mask.bd
    by_cases hs : n < M
    · unfold Vi.putP at hc
      rw [if_pos hs] at hc
      simp at hc
    · have e : Vi.putP first M n = (first + M) :: Vi.sev 9 (n - M) := by unfold Vi.putP; rw [if_neg hs]
      rw [e] at hc ⊢
      rw [List.length_cons] at hc
      rw [List.take_succ_cons]
      obtain ⟨_, _, h3⟩ := Vi.sev_cnt [] 9 (n - M) (by omega) h.pw
      have hl := Vi.sev_len 9 (n - M)
      have hmod := h.mod M (by omega) (Int.le_refl _)
      generalize Vi.sev 9 (n - M) = l at *
      have hlt : (l.take c).length = c := by rw [List.length_take]; omega
      have hcnt : Vi.cnt (l.take c) = c := by
        refine Nat.le_antisymm (by have := Vi.cnt_le (l.take c); omega) (Vi.cnt_ge _ c (by omega) (fun j hj => ?_))
        have := Vi.cnt_ahead (l.take (l.length - 1)) j (by omega)
        rw [List.getElem?_take_of_lt (by omega)] at this
        rw [List.getElem?_take_of_lt hj]
        exact this
      unfold Vi.getP
      rw [if_neg (by simp), if_neg (by rw [show ((first + M) :: l.take c)[0]?.getD 0 = first + M from rfl, hmod]; omega)]
      rw [show ((first + M) :: l.take c).drop 1 = l.take c from rfl, hcnt, hlt, if_neg (by omega), if_pos rfl]
/-- Of fewer bytes, none. -/
theorem get_less {B M : Int} (h : Bt B M) {first : Int} (h0 : 0 ≤ first) (h1 : first ≤ 255) (hc : first % (2 * M + 2) = 0) {s : List By} (hs : s.length ≤ 65536) (c : Nat) (hlt : c < (putX first M s).length) :
    getX M ((putX first M s).take c) = (0, [], 0, 4) := by
  unfold putX at *
  have hn : (told s).length ≤ 65536 := by have := told_le s; omega
  have hm := laid_may h h0 h1 hc (few s) (n := (told s).length) (by omega)
  rw [laid_length] at hlt
  have hz := zs_laid h h0 h1 hc (few s) (t := told s) (by omega)
  by_cases hp : c < (Vi.putP (first + mk M (few s)) M (told s).length).length
  · refine getX_err ?_ (by decide)
    rw [zs_take, hz, List.take_append_of_le_length (by omega)]
    exact putP_less hm c hp
  · have hg := Vi.getP_put hm ((zs (told s)).take (c - (Vi.putP (first + mk M (few s)) M (told s).length).length))
    have hx : zs ((laid first M (few s) (told s)).take c) = Vi.putP (first + mk M (few s)) M (told s).length ++ (zs (told s)).take (c - (Vi.putP (first + mk M (few s)) M (told s).length).length) := by
      rw [zs_take, hz, List.take_append, List.take_of_length_le (by omega)]
    rw [← hx] at hg
    refine getX_short hg (by omega) ?_
    rw [List.length_take, laid_length]
    omega

theorem sev_mono : ∀ (f : Nat) (r r' : Int), r ≤ r' → (Vi.sev f r).length ≤ (Vi.sev f r').length
  | 0, r, r', _ => by simp [Vi.sev]
  | f + 1, r, r', h => by
    by_cases h1 : r' < 128
    · rw [Vi.sev_last _ r (by omega), Vi.sev_last _ r' h1]
      simp
    · by_cases h2 : r < 128
      · rw [Vi.sev_last _ r h2]
        exact (Vi.sev_len (f + 1) r').1
      · rw [Vi.sev_more f r (by omega), Vi.sev_more f r' (by omega), List.length_cons, List.length_cons]
        have := sev_mono f (r / 128) (r' / 128) (by omega)
        omega
theorem putP_mono (first first' M : Int) {n n' : Int} (h : n ≤ n') : (Vi.putP first M n).length ≤ (Vi.putP first' M n').length := by
  unfold Vi.putP
  by_cases h1 : n < M
  · rw [if_pos h1]
    have : 1 ≤ (if n' < M then [first' + n'] else (first' + M) :: Vi.sev 9 (n' - M)).length := by split <;> simp
    simpa using this
  · rw [if_neg h1, if_neg (by omega), List.length_cons, List.length_cons]
    have := sev_mono 9 (n - M) (n' - M) (by omega)
    omega
/-- At most four bytes more than the text. -/
theorem put_four {B M : Int} (h : Bt B M) (first : Int) {s : List By} (hs : s.length ≤ 65536) : (putX first M s).length ≤ s.length + 4 := by
  unfold putX
  rw [laid_length]
  have hl := told_le s
  have hb := h.bd
  have : (Vi.putP (first + mk M (few s)) M (told s).length).length ≤ 4 := by
    unfold Vi.putP
    by_cases h1 : ((told s).length : Int) < M
    · rw [if_pos h1]; simp
    · rw [if_neg h1, List.length_cons]
      have hp : (2 : Int) ^ (7 * (2 + 1)) = 2097152 := by decide
      have := Vi.sev_short 9 2 (((told s).length : Int) - M) (by omega) (by rw [hp]; omega)
      omega
  omega

/-- What is got. -/
theorem getX_cases {B M : Int} (h : Bt B M) (b : List By) : (∃ e : Int, getX M b = (0, [], 0, e) ∧ 3 ≤ e ∧ e ≤ 5) ∨
    ∃ (a : Int) (s : List By) (n : Nat), getX M b = (a, s, (n : Int), 0) ∧ 0 ≤ a ∧ a ≤ 255 ∧ a % (2 * M + 2) = 0 ∧ s.length ≤ 65536 ∧ n ≤ b.length ∧ (putX a M s).length ≤ n := by
  rcases getP_nat h b with ⟨e, h1, h2, h3⟩ | ⟨A, n, k, h1, h2, h3, h4, h5, h6⟩
  · exact .inl ⟨e, getX_err h1 (by omega), h2, h3⟩
  by_cases hn : 65536 < n
  · exact .inl ⟨3, getX_big h1 (by omega), by decide, by decide⟩
  by_cases hs : b.length < k + n
  · exact .inl ⟨4, getX_short h1 (by omega) (by omega), by decide, by decide⟩
  have hx := getX_fin h1 (by omega) (by omega)
  have hl : ((b.drop k).take n).length = n := by rw [List.length_take, List.length_drop]; omega
  cases hr : read (mkd M A) ((b.drop k).take n) with
  | none => rw [hr] at hx; exact .inl ⟨5, hx, by decide, by decide⟩
  | some s =>
    rw [hr] at hx
    unfold fin at hx
    simp only at hx
    by_cases hb : 65536 < s.length
    · rw [if_pos hb] at hx
      exact .inl ⟨3, hx, by decide, by decide⟩
    · rw [if_neg hb] at hx
      obtain ⟨l1, l2, l3⟩ := h.left A h2.f0 h2.f1 h2.fm
      refine .inr ⟨_, s, k + n, hx, l1, l2, l3, by omega, by omega, ?_⟩
      unfold putX
      rw [laid_length]
      have ht : (told s).length ≤ n := by
        unfold read at hr
        by_cases hf : mkd M A = true
        · rw [if_pos hf] at hr
          have := Hf.put_get hr
          have h7 := told_few s
          have h8 : (Hf.packL (Hf.txt s)).length = Hf.packN (Hf.txt s) := Hf.packTo_length _ _
          rw [this, hl] at h8
          omega
        · rw [if_neg hf] at hr
          have := Option.some.inj hr
          have h7 := told_le s
          rw [← this, hl] at h7
          exact this ▸ h7
      have hq := putP_mono ((A : Int) - mk M (mkd M A) + mk M (few s)) A M (n := (told s).length) (n' := n) (by omega)
      omega
end Go.Proofs.YtiecpkkklefjdaaGreatDoor.Tx
