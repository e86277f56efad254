/-
  TextGets, walked.
-/
import Derived.Test.YtiecpkkklefjdaaGtTxRef
import Derived.Test.YtiecpkkklefjdaaGtTxLaw
import Derived.Test.YtiecpkkklefjdaaGtChaTwin
namespace Go.Proofs.Ytiecpkkklefjdaa
open Go Go.RowKit

/-- Both answer the same. -/
theorem xget_both (B : Int) (b : List By) : ∃ (a n E : Int) (s : ByteArray), ∀ (q : SL) (w : World), q.Ok w → q.b = b → q.len ≤ 1073741824 →
    Calls Try.prog 10 #[.int .i64 B, .slice q.a q.len q.cap] w (fun e w' => e = .returned (.tuple #[.int .u8 a, .string s, .int .i64 n, .int .i64 E]) ∧ Below w.heap.size w w') ∧
    Calls Try.prog 11 #[.int .i64 B, .slice q.a q.len q.cap] w (fun e w' => e = .returned (.tuple #[.int .u8 a, .string s, .int .i64 n, .int .i64 E]) ∧ Below w.heap.size w w') := by
  by_cases hb : 2 ≤ B ∧ B ≤ 8
  · obtain ⟨M, hM⟩ := Tx.Bt.of B hb.1 hb.2
    refine ⟨(Tx.getX M b).1, (Tx.getX M b).2.2.1, (Tx.getX M b).2.2.2, strOf (Tx.getX M b).2.1, fun q w hq hqb hl => ?_⟩
    subst hqb
    exact ⟨xget_any q B M w hM hq hl, xrget_any q B M w hM hq hl⟩
  · refine ⟨0, 0, 1, ⟨#[]⟩, fun q w hq hqb hl => ⟨?_, ?_⟩⟩
    · exact (xget_bits q.a q.len q.cap B w (by omega)).mono fun e w' ⟨h1, h2⟩ => ⟨h1, by rw [h2]; exact Below.refl _ _⟩
    · exact (xrget_bits q.a q.len q.cap B w (by omega)).mono fun e w' ⟨h1, h2⟩ => ⟨h1, by rw [h2]; exact Below.refl _ _⟩

set_option maxRecDepth 20000 in
set_option maxHeartbeats 2000000 in
theorem gets_walk (B : Int) (q : SL) (w : World) (hq : q.Ok w) (hs : q.len ≤ 140737488355328) : Calls Try.prog 3 #[.int .i64 B, .slice q.a q.len q.cap] w fun e w' => e = .returned (.bool true) ∧ Below w.heap.size w w' := by
  have HQ := veil hq
  clear hq
  obtain ⟨a, n, E, s, hboth⟩ := xget_both B q.b
  have HBO := veil hboth
  clear hboth
  go_enter Try.func3, Try.ntmps3
  go_wp2_with fail
  refine (beyond_len w q.len (by omega)).mono ?_
  rintro e2 w2 ⟨rfl, b2⟩
  by_cases hbig : 1048576 < q.len
  · rw [decide_eq_true hbig]
    go_wp2_with fail
    go_ret
    exact ⟨rfl, b2⟩
  · rw [decide_eq_false hbig]
    go_wp2_with fail
    refine (twin_sl q w2 (HQ.out.below b2) (by omega)).mono ?_
    rintro e3 w3 ⟨g, rfl, ht, hg, hb3⟩
    have b3 := b2.trans (hb3.mono b2.size)
    have HT := veil ht
    clear ht hb3 b2 hg
    go_wp2_with fail
    refine (HBO.out (twinS g q.len q.b) w3 (HT.out.ok HQ.out.hb) rfl (by show q.len ≤ _; omega)).1.mono ?_
    rintro e4 w4 ⟨rfl, hb4⟩
    have b4 := b3.trans (hb4.mono b3.size)
    have HT4 := veil (HT.out.below hb4)
    clear hb4 b3 HT
    go_wp2_with fail
    refine (HBO.out q w4 (HQ.out.below b4) rfl (by omega)).2.mono ?_
    rintro e5 w5 ⟨rfl, hb5⟩
    have b5 := b4.trans (hb5.mono b4.size)
    have HT5 := veil (HT4.out.below hb5)
    clear hb5 b4 HT4 HBO
    have ha : (a == a) = true := by simp
    have hn : (n == n) = true := by simp
    have hE : (E == E) = true := by simp
    go_wp2_with fail
    refine (left_sl q g _ (HQ.out.below b5) (by omega) HT5.out).mono ?_
    rintro e6 w6 ⟨rfl, hb6⟩
    go_wp2_with fail
    go_ret
    exact ⟨rfl, b5.trans (hb6.mono b5.size)⟩
end Go.Proofs.Ytiecpkkklefjdaa
