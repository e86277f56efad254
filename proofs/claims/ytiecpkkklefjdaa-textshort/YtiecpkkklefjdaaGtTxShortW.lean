/-
  TextShort, walked.
-/
import Derived.Test.YtiecpkkklefjdaaGtTxAlive
namespace Go.Proofs.Ytiecpkkklefjdaa
open Go Go.RowKit

set_option maxRecDepth 20000 in
set_option maxHeartbeats 2000000 in
theorem short_walk (first B : Int) (s : ByteArray) (cut : Nat) (w : World) (f0 : 0 ≤ first) (f1 : first ≤ 255) (hs : s.size ≤ 9223372036854775807) (hcut : cut < 4294967296) : Calls Try.prog 5 #[.agg #[.int .u8 first, .int .i64 B], .string s, .int .u32 (cut : Int)] w fun e w' => e = .returned (.bool true) ∧ Below w.heap.size w w' := by
  obtain ⟨W1, hW1⟩ : ∃ W, W = w.alloc (.cells #[.int .u8 first, .int .i64 B] 31) := ⟨_, rfl⟩
  have r1 : Row W1 w.heap.size 31 #[.int .u8 first, .int .i64 B] := by rw [hW1]; exact Row.new _ _ _
  have b1 : Below w.heap.size w W1 := by rw [hW1]; exact (Below.refl _ w).alloc (Nat.le_refl _) _
  have c0 : W1.cell? ⟨w.heap.size, 0, none⟩ = some (.int .u8 first) := r1.cell 0
  have c1 : W1.cell? ⟨w.heap.size, 1, none⟩ = some (.int .i64 B) := r1.cell 1
  have hlt := r1.lt
  rw [hW1] at c0 c1
  have HB1 := veil b1
  have HR1 := veil r1
  have hs1 := b1.size
  clear r1 b1
  go_enter Try.func5, Try.ntmps5
  go_wp2_with fail
  rw [← hW1]
  rw [← hW1] at c0 c1
  clear hW1
  rcases xput_cases first B s f0 f1 hs with ⟨M, hM, hf, hsz⟩ | ⟨E, hE, hcall⟩
  · have HM := veil hM
    have HF := veil hf
    clear hM hf
    refine (xput_sl first B M s W1 HM.out f0 f1 HF.out hsz).mono ?_
    rintro e2 w2 ⟨p, rfl, hp, hpb, hpl, ho, hb2⟩
    have HP2 := veil hp
    have HPB := veil hpb
    have HPL := veil hpl
    have hfour := Tx.put_four HM.out first (s := bOf s) (by rw [bOf_length]; exact hsz)
    rw [bOf_length] at hfour
    have hlp := (Vi.putP_len (first + Tx.mk M (Tx.few (bOf s))) M (Tx.told (bOf s)).length).1
    have hpos : 0 < (Tx.putX first M (bOf s)).length := by unfold Tx.putX; rw [Tx.laid_length]; omega
    rw [← hpl] at hfour hpos
    have HB2 := veil (HB1.out.trans (hb2.mono hs1))
    have HR2 := veil (HR1.out.below hb2 hlt)
    have hs2 := hb2.size
    clear hp hpb hpl ho hb2 HB1 HR1 hlp c0 c1
    go_wp2_with fail
    refine (alive_any w2).mono ?_
    rintro e3 w3 ⟨rfl, hb3⟩
    have HB3 := veil (HB2.out.trans (hb3.mono (by omega)))
    have r3 := HR2.out.below hb3 (by omega)
    have c1 : w3.cell? ⟨w.heap.size, 1, none⟩ = some (.int .i64 B) := r3.cell 1
    have HP3 := veil (HP2.out.below hb3)
    have hlt3 := r3.lt
    clear hb3 HB2 HR2 HP2 r3
    obtain ⟨r, hr⟩ : ∃ r, r = cut % p.len := ⟨_, rfl⟩
    have hrl : r < p.len := by rw [hr]; exact Nat.mod_lt _ hpos
    obtain ⟨q, hcutq, ⟨hql, hqb⟩, hqok, _⟩ := cut_hi p w3 HP3.out r (by omega)
    have hX := Tx.get_less HM.out f0 f1 HF.out (s := bOf s) (by rw [bOf_length]; exact hsz) r (by rw [← HPL.out]; exact hrl)
    rw [← HPB.out, ← hqb] at hX
    have HV := veil (getXV_no hX)
    have HQO := veil hqok
    have HQL := veil hql
    have hr1 : (cut : Int).tmod (p.len : Int) = (r : Int) := by rw [hr, Int.tmod_eq_emod_of_nonneg (by omega), Int.natCast_emod]
    have hr2 : (cut : Int) % (p.len : Int) = (r : Int) := by rw [hr, Int.natCast_emod]
    have hwl : IntKind.u32.wrap (p.len : Int) = (p.len : Int) := by rw [IntKind.wrap_u32]; omega
    have hwr : IntKind.u32.wrap (r : Int) = (r : Int) := by rw [IntKind.wrap_u32]; omega
    have hwi : IntKind.i64.wrap (r : Int) = (r : Int) := by rw [IntKind.wrap_i64]; omega
    have hp0 : ¬ p.len = 0 := by omega
    have hp1 : ((p.len : Int) == 0) = false := by simp; omega
    have hp2 : decide ((p.len : Int) = 0) = false := by simp; omega
    have hp3 : (p.len == 0) = false := by simp; omega
    clear hX hqok hql hqb hr
    go_wp2_with fail
    go_region_held3 (fun w' => w'.cell? ⟨w.heap.size, 1, none⟩ = some (.int .i64 B)) (first | go_keep | exact (hb5.cell (p := ⟨w.heap.size, 1, none⟩) (by exact hlt3)).trans c1)
      (first | (go_at_call 10; refine (xget_any q B M _ HM.out (HQO.out _ (HP3.out.below ((Below.refl _ w3).drew))) (by have := HQL.out; omega)).mono ?_; rintro e5 w5 ⟨rfl, hb5⟩; rw [HV.out]))
    have b5 : Below w.heap.size w w5 := HB3.out.trans ((((Below.refl _ w3).drew).trans hb5).mono HB3.out.size)
    clear hb5
    go_wp2_with fail
    go_ret
    exact ⟨rfl, b5⟩
  · refine (hcall W1).mono ?_
    rintro e2 w2 ⟨rfl, hb2⟩
    have b2 := HB1.out.trans (hb2.mono hs1)
    have hne : (E != 0) = true := by simp; omega
    clear hcall hE hb2 c0 c1
    go_wp2_with fail
    refine (alive_any w2).mono ?_
    rintro e3 w3 ⟨rfl, hb3⟩
    have b3 := b2.trans (hb3.mono b2.size)
    clear hb3
    go_wp2_with fail
    refine (alive_any w3).mono ?_
    rintro e4 w4 ⟨rfl, hb4⟩
    have b4 := b3.trans (hb4.mono b3.size)
    clear hb4
    go_wp2_with fail
    go_ret
    exact ⟨rfl, b4⟩
end Go.Proofs.Ytiecpkkklefjdaa
