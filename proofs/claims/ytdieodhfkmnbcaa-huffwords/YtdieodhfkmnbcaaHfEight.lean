/-
  What eight and bits answer (of the law's own).
-/
import Derived.Test.YtdieodhfkmnbcaaHfAlive
import Derived.Laws.AppendOwn
import Derived.OwnWalk
namespace Go.Proofs.Ytdieodhfkmnbcaa
open Go Go.RowKit

theorem txt_rep (b : List By) (k : Nat) : (Hf.txt ((List.replicate k b).flatten)).length = k * (Hf.txt b).length := by
  induction k with
  | zero => simp [Hf.txt]
  | succ k ih => rw [List.replicate_succ, List.flatten_cons, Hf.txt_append, List.length_append, ih, Nat.succ_mul]; omega
theorem rep_snoc (b : List By) (k : Nat) : (List.replicate (k + 1) b).flatten = (List.replicate k b).flatten ++ b := by
  rw [List.replicate_succ']
  simp
set_option maxRecDepth 20000 in
set_option maxHeartbeats 1000000 in
theorem eight_any (s : ByteArray) (w : World) (hs : s.size ≤ 10000) : Calls Try.prog 17 #[.string s] w fun e w' => e = .returned (.int .i64 ((Hf.txt (bOf s)).length : Int)) ∧ Below w.heap.size w w' := by
  go_enter Try.func17, Try.ntmps17
  go_wp2_with fail
  go_loopw [3, 4] (fun t i wr => ∃ (k : Nat) (u : ByteArray), k ≤ 8 ∧ i = .int .i64 (k : Int) ∧ t = .string u ∧ bOf u = (List.replicate k (bOf s)).flatten ∧ wr = w)
    (fun _ i _ => 8 - (intOf i).toNat)
  case atStart => exact ⟨0, ⟨#[]⟩, by omega, rfl, rfl, rfl, rfl⟩
  case round =>
    obtain ⟨k, u, hk, rfl, rfl, hu, rfl⟩ := hrel
    by_cases hlt : k < 8
    · have HU := veil (show bOf (u ++ s) = (List.replicate (k + 1) (bOf s)).flatten by rw [bOf_append, hu, rep_snoc])
      have husz : u.size = k * s.size := by
        have := congrArg List.length hu
        rw [bOf_length] at this
        simp [bOf_length] at this
        exact this
      have hcat : ¬ (9223372036854775807 < u.size + s.size) := by
        have : k * s.size ≤ 8 * s.size := Nat.mul_le_mul_right _ hk
        omega
      clear hu husz
      go_wp2_with fail
      go_roundw
      case rel => exact ⟨k + 1, u ++ s, by omega, by go_num, rfl, HU.out, by first | trivial | rfl⟩
      case measure => simp [intOf]; omega
    · obtain rfl : k = 8 := by omega
      have hsz : u.size ≤ 4194304 := by
        have := congrArg List.length hu
        rw [bOf_length] at this
        simp [bOf_length] at this
        omega
      have hlen : Hf.packN (Hf.txt (bOf u)) = (Hf.txt (bOf s)).length := by
        unfold Hf.packN
        rw [hu, txt_rep]
        omega
      have HL := veil hlen
      clear hlt hk hlen hu
      go_wp2_with fail
      refine (len_any u hsz wr).mono ?_
      rintro e1 w1 ⟨rfl, hb1⟩
      rw [HL.out]
      go_wp2_with fail
      go_ret
      exact ⟨rfl, hb1⟩

/-- Bits as bytes. -/
def toBy (b : Bool) : By := if b then 1 else 0
def bitBytes (B : List Bool) : List By := B.map toBy
theorem bitBytes_length (B : List Bool) : (bitBytes B).length = B.length := by simp [bitBytes]
theorem bitBytes_append (A B : List Bool) : bitBytes (A ++ B) = bitBytes A ++ bitBytes B := by simp [bitBytes]
set_option maxRecDepth 20000 in
set_option maxHeartbeats 1000000 in
theorem lawBits_any (s : ByteArray) (N : Nat) (w : World) (hs : s.size ≤ 65536) (hN : N = (Hf.txt (bOf s)).length) : Calls Try.prog 18 #[.string s, .int .i64 (N : Int)] w fun e w' => ∃ v, e = .returned v ∧ w'.ownsRow w.heap.size 5 1 v N (vb (bitBytes (Hf.txt (bOf s)))) ∧ Below w.heap.size w w' := by
  obtain ⟨i0, hi, hz0, hz1, hz2⟩ := info_parts (P := Try.prog) (e := 5) (z := .int .u8 0) (size := 1) (bytes := 1) (by kernel_rfl)
  have hT := Hf.txt_length_le (bOf s)
  rw [bOf_length, ← hN] at hT
  have hNm : N ≤ 1966080 := by omega
  have HN := veil hN
  clear hN hT
  go_enter Try.func18, Try.ntmps18
  go_wp2_with fail
  refine (put_sl s hs w).mono ?_
  rintro e1 w1 ⟨p, rfl, hp, hpb, hpl, hpm, hb1⟩
  have hN8 : N ≤ 8 * p.len := by rw [hpl, HN.out]; unfold Hf.packN; omega
  have HBITS := veil (show ∀ i, i < N → (Hf.bitsN 8 (gb p.b (i / 8)).toNat)[i % 8]? = (Hf.txt (bOf s))[i]? from fun i hi => by
    rw [← Hf.bitsB_get p.b i (by rw [hp.hb]; omega), hpb, Hf.bits_pack, List.getElem?_append_left (by rw [← HN.out]; exact hi)])
  have HP := veil hp
  have HB1 := veil hb1
  have hs1 := hb1.size
  clear hp hpb hpl hb1
  go_wp2_with fail
  go_loopw [7, 8] (fun v i wr => ∃ k : Nat, k ≤ N ∧ i = .int .i64 (k : Int) ∧ wr.ownsRow w1.heap.size 5 1 v k (vb (bitBytes ((Hf.txt (bOf s)).take k))) ∧ Below w1.heap.size w1 wr)
    (fun _ i _ => N - (intOf i).toNat)
  case atStart => exact ⟨0, by omega, rfl, ⟨rfl, .inl ⟨rfl, rfl⟩⟩, Below.refl _ _⟩
  case round =>
    obtain ⟨k, hk, rfl, hown, hbel⟩ := hrel
    by_cases hlt : k < N
    · have hd1 : decide ((k : Int) < 8 * (p.len : Int)) = true := by simp; omega
      have hd2 : decide ((k : Int) < (N : Int)) = true := by simp; omega
      have ha := HP.out.at_ (show 0 < p.len by omega)
      have hca := (HP.out.below hbel).cell (k / 8) (by omega)
      have hcap := HP.out.hcap
      have hx := (gb p.b (k / 8)).isLt
      have HG := veil (HBITS.out k hlt)
      have e8 : v8 (gb p.b (k / 8)) = ((gb p.b (k / 8)).toNat : Int) := rfl
      rw [e8] at hca
      generalize (gb p.b (k / 8)).toNat = x at *
      obtain ⟨q, r, hr, rfl⟩ : ∃ q r, r < 8 ∧ k = 8 * q + r := ⟨k / 8, k % 8, by omega, by omega⟩
      rw [show (8 * q + r) / 8 = q by omega] at *
      have e1 : (8 * (q : Int) + (r : Int)) / 8 = (q : Int) := by omega
      have e2 : (8 * (q : Int) + (r : Int)) % 8 = (r : Int) := by omega
      have HOWN := veil hown
      have HBEL := veil hbel
      clear hown hbel e8
      obtain ⟨pa, pl, pc, pg, po, pb⟩ := p
      simp only at *
      subst ha
      obtain ⟨va, vc, rfl⟩ := own_slice HOWN.out
      have hbv : bits .and .u8 ((x : Int) / 2 ^ (7 - r)) 1 = ((x / 2 ^ (7 - r) % 2 : Nat) : Int) := by
        have h1 : (x : Int) / 2 ^ (7 - r) = ((x / 2 ^ (7 - r) : Nat) : Int) := by simp
        have h2 : x / 2 ^ (7 - r) < 256 := Nat.lt_of_le_of_lt (Nat.div_le_self _ _) hx
        rw [h1]
        have := u8_and_nat (x / 2 ^ (7 - r)) 1 h2 (by decide)
        rw [Nat.and_one_is_mod] at this
        exact this
      have hnext : (Hf.txt (bOf s))[8 * q + r]? = some (decide (x / 2 ^ (7 - r) % 2 = 1)) := by
        rw [← HG.out, show (8 * q + r) % 8 = r by omega, Hf.bitsN_get 8 x r hr]
      have hby : ((x / 2 ^ (7 - r) % 2 : Nat) : Int) = v8 (toBy (decide (x / 2 ^ (7 - r) % 2 = 1))) := by
        by_cases c : x / 2 ^ (7 - r) % 2 = 1
        · rw [c]; rfl
        · rw [show x / 2 ^ (7 - r) % 2 = 0 by omega]; rfl
      have HTK := veil (show bitBytes ((Hf.txt (bOf s)).take (8 * q + r + 1)) = bitBytes ((Hf.txt (bOf s)).take (8 * q + r)) ++ [toBy (decide (x / 2 ^ (7 - r) % 2 = 1))] by
        rw [List.take_add_one, hnext, bitBytes_append]
        rfl)
      rw [hby] at hbv
      generalize toBy (decide (x / 2 ^ (7 - r) % 2 = 1)) = y at *
      have HLIT := veil (show ∀ i u, ([.int .u8 (v8 y)] : List Value)[i]? = some u → (wr.alloc (.cells #[.int .u8 (v8 y)] 5)).cell? ((⟨wr.heap.size, 0, none⟩ : Addr).add i) = some u from cell_one_new _ _ _)
      have hbs := HBEL.out.size
      clear hnext hby
      go_wp2_with (with_reducible (show wpList _ _ _ (⟨_, Op.call { callee := .builtin .append, args := _, argTypes := _ }, _, _, _, _⟩ :: _) _ _)
                   refine wpList_append_own _ rfl _ _ 22 rfl w1.heap.size 5 i0 (.int .u8 0) 1 1 Try.underlying22 hi hz0 hz1 hz2 rfl (by decide) (.slice va (8 * q + r) vc) (8 * q + r) _ rfl (HOWN.out.alloc _) ⟨wr.heap.size, 0, none⟩ 1 1 [.int .u8 (v8 y)] rfl rfl HLIT.out (by simp [Value.oneCell']) (by unfold maxLen; omega) (by omega) (by rw [World.size_alloc]; omega) ?_
                   intro v4 W4 hown4 hgrow4 _)
      have hb4 : Below w1.heap.size w1 W4 := (HBEL.out.alloc hbs _).grown hgrow4 (by rw [World.size_alloc]; omega) (fun g e => (HOWN.out.lt g e).1)
      go_wp2_with fail
      go_roundw
      case rel =>
        refine ⟨8 * q + r + 1, by omega, by go_num, ?_, hb4⟩
        rw [HTK.out, vb_append]
        exact hown4
      case measure => simp [intOf]; omega
    · obtain rfl : k = N := by omega
      have hd2 : decide ((k : Int) < (k : Int)) = false := by simp
      rw [List.take_of_length_le (by rw [← HN.out]; omega)] at hown
      have HOWN := veil (show wr.ownsRow w.heap.size 5 1 _ _ _ from own_low hown hs1)
      have HB := veil (HB1.out.trans (hbel.mono hs1))
      clear hown hbel hlt hk
      by_cases h8 : k < 8 * p.len
      · have hd1 : decide ((k : Int) < 8 * (p.len : Int)) = true := by simp; omega
        go_wp2_with fail
        go_ret
        exact ⟨_, rfl, HOWN.out, HB.out⟩
      · have hd1 : decide ((k : Int) < 8 * (p.len : Int)) = false := by simp; omega
        go_wp2_with fail
        go_ret
        exact ⟨_, rfl, HOWN.out, HB.out⟩
end Go.Proofs.Ytdieodhfkmnbcaa
