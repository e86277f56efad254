/-
  TextBack, walked.
-/
import Derived.Test.YtiecpkkklefjdaaGtTxAlive
import Derived.Test.YtiecpkkklefjdaaGtTxStep
namespace Go.Proofs.Ytiecpkkklefjdaa
open Go Go.RowKit

set_option maxRecDepth 20000 in
set_option maxHeartbeats 2000000 in
theorem back_walk (first B : Int) (s : ByteArray) (q : SL) (w : World) (f0 : 0 ≤ first) (f1 : first ≤ 255) (hs : s.size ≤ 9223372036854775807) (hq : q.Ok w) (hql : q.len ≤ 140737488355328) : Calls Try.prog 4 #[.agg #[.int .u8 first, .int .i64 B], .string s, .slice q.a q.len q.cap] w fun e w' => e = .returned (.bool true) ∧ Below w.heap.size w w' := by
  obtain ⟨W1, hW1⟩ : ∃ W, W = w.alloc (.cells #[.int .u8 first, .int .i64 B] 31) := ⟨_, rfl⟩
  have r1 : Row W1 w.heap.size 31 #[.int .u8 first, .int .i64 B] := by rw [hW1]; exact Row.new _ _ _
  have b1 : Below w.heap.size w W1 := by rw [hW1]; exact (Below.refl _ w).alloc (Nat.le_refl _) _
  have hlt := r1.lt
  have HQ1 := veil (hq.below b1)
  have HB1 := veil b1
  have HR1 := veil r1
  have hs1 := b1.size
  clear r1 b1 hq
  go_enter Try.func4, Try.ntmps4
  go_wp2_with fail
  rw [← hW1]
  clear hW1
  refine (alive_any W1).mono ?_
  rintro e2 w2 ⟨rfl, hb2⟩
  have HB2 := veil (HB1.out.trans (hb2.mono hs1))
  have HR2 := veil (HR1.out.below hb2 hlt)
  have HQ2 := veil (HQ1.out.below hb2)
  clear hb2 HB1 HR1 HQ1
  go_wp2_with fail
  refine (beyond_pair w2 s.size q.len hs hql).mono ?_
  rintro e3 w3 ⟨rfl, hb3⟩
  have HB3 := veil (HB2.out.trans (hb3.mono HB2.out.size))
  have HR3 := veil (HR2.out.below hb3 HR2.out.lt)
  have HQ3 := veil (HQ2.out.below hb3)
  clear hb3 HB2 HR2 HQ2
  by_cases hbig : 1048576 < s.size + q.len
  · rw [decide_eq_true hbig]
    go_wp2_with fail
    refine (alive_any w3).mono ?_
    rintro e4 w4 ⟨rfl, hb4⟩
    have b4 := HB3.out.trans (hb4.mono HB3.out.size)
    go_wp2_with fail
    go_ret
    exact ⟨rfl, b4⟩
  · rw [decide_eq_false hbig]
    have c0 : w3.cell? ⟨w.heap.size, 0, none⟩ = some (.int .u8 first) := HR3.out.cell 0
    have c1 : w3.cell? ⟨w.heap.size, 1, none⟩ = some (.int .i64 B) := HR3.out.cell 1
    go_wp2_with fail
    rcases xput_cases first B s f0 f1 hs with ⟨M, hM, hf, hsz⟩ | ⟨E, hE, hcall⟩
    · have HM := veil hM
      have HF := veil hf
      clear hM hf
      refine (xput_sl first B M s w3 HM.out f0 f1 HF.out hsz).mono ?_
      rintro e4 w4 ⟨p, rfl, hp, hpb, hpl, ho, hb4⟩
      have hfour := Tx.put_four HM.out first (s := bOf s) (by rw [bOf_length]; exact hsz)
      rw [bOf_length, ← hpl] at hfour
      have hX := Tx.get_put HM.out f0 f1 HF.out (s := bOf s) (by rw [bOf_length]; exact hsz) q.b
      rw [← hpl, ← hpb] at hX
      have hV := getXV_of hX
      rw [strOf_bOf] at hV
      have HV := veil hV
      have HO := veil (own_low ho HB3.out.size)
      have HB4 := veil (HB3.out.trans (hb4.mono HB3.out.size))
      have HR4 := veil (HR3.out.below hb4 HR3.out.lt)
      have HQ4 := veil (HQ3.out.below hb4)
      have hlt4 := HR4.out.lt
      have hg4 : ∀ k, (Value.slice p.a p.len p.cap).ownBlock = some k → w3.heap.size ≤ k := fun k e => (ho.lt k e).1
      have hlt3 := HR3.out.lt
      have hng : some w.heap.size ≠ (Value.slice p.a p.len p.cap).ownBlock := fun e => by have := hg4 _ e.symm; omega
      have HNG := veil hng
      have c0 : w4.cell? ⟨w.heap.size, 0, none⟩ = some (.int .u8 first) := HR4.out.cell 0
      have c1 : w4.cell? ⟨w.heap.size, 1, none⟩ = some (.int .i64 B) := HR4.out.cell 1
      have hs4 := HB4.out.size
      clear hp hpb hpl ho hb4 HB3 HR3 HQ3 hX hV hg4 hng
      go_wp2_with fail
      go_region_held3 (fun w' => w'.cell? ⟨w.heap.size, 1, none⟩ = some (.int .i64 B)) (first | assumption | go_keep)
        (first
          | ((refine step_append_sl (by rfl) _ _ (by rfl) w.heap.size (.slice p.a p.len p.cap) p.len p.b (by rfl) (by exact HO.out) q (by rfl) (by exact HQ4.out.below ((Below.refl _ w4).drew)) (by omega) (by exact hs4) ?_; intro v6 w6 ho6 hgr; have hk6 : w6.cell? ⟨w.heap.size, 1, none⟩ = some (.int .i64 B) := hgr.cell (a := ⟨w.heap.size, 1, none⟩) c1 HNG.out; have hs6 : w4.heap.size ≤ w6.heap.size := hgr.size; obtain ⟨p6, rfl, hl6, hpb6, hok6⟩ := sl_of_own ho6; have HL6 := veil hl6; have HPB6 := veil hpb6; have HOK6 := veil hok6; have HGR := veil hgr; clear hl6 hpb6 hok6 ho6 hgr))
          | (go_at_call 10; refine (xget_any p6 B M _ HM.out (by exact HOK6.out) (by have := HL6.out; omega)).mono ?_; rintro e7 w7 ⟨rfl, hb7⟩; rw [HPB6.out, HV.out]; have hk7 : w7.cell? ⟨w.heap.size, 1, none⟩ = some (.int .i64 B) := (hb7.cell (p := ⟨w.heap.size, 1, none⟩) (by show w.heap.size < w6.heap.size; omega)).trans hk6))
      have b6 : Below w.heap.size w w6 := (HB4.out.drew).grown HGR.out hs4 (fun k e => (HO.out.lt k e).1)
      have b7 : Below w.heap.size w w7 := b6.trans (hb7.mono b6.size)
      have c70 : w7.cell? ⟨w.heap.size, 0, none⟩ = some (.int .u8 first) := (hb7.cell (p := ⟨w.heap.size, 0, none⟩) (by show w.heap.size < w6.heap.size; omega)).trans (HGR.out.cell (a := ⟨w.heap.size, 0, none⟩) c0 HNG.out)
      have HB7 := veil b7
      clear b6 b7 hb7 hk6 c0 c1
      have g1 : (first == first) = true := by simp
      have g2 : ((p.len : Int) == (p.len : Int)) = true := by simp
      have g3 : IntKind.i64.wrap ((s.size : Int) + 4) = (s.size : Int) + 4 := by rw [IntKind.wrap_i64]; omega
      have g4 : decide ((p.len : Int) ≤ (s.size : Int) + 4) = true := decide_eq_true (by omega)
      go_wp2_with fail
      go_ret
      exact ⟨rfl, HB7.out⟩
    · refine (hcall w3).mono ?_
      rintro e4 w4 ⟨rfl, hb4⟩
      have b4 := HB3.out.trans (hb4.mono HB3.out.size)
      rcases hE with rfl | ⟨rfl, hE⟩
      · clear hcall hb4 c0 c1
        go_wp2_with fail
        go_ret
        exact ⟨rfl, b4⟩
      · have hI : (s.size : Int) > 65536 := by omega
        clear hcall hb4 c0 c1
        go_wp2_with fail
        go_ret
        exact ⟨rfl, b4⟩
end Go.Proofs.Ytiecpkkklefjdaa
