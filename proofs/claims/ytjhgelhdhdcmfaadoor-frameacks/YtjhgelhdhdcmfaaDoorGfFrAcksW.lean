/-
  FrameAcks, walked.
-/
import Derived.Test.YtjhgelhdhdcmfaaDoorGfFrAliveW
import Derived.Test.YtjhgelhdhdcmfaaDoorGfFrPutL
import Derived.Test.YtjhgelhdhdcmfaaDoorGf10
import Derived.Test.YtjhgelhdhdcmfaaDoorGfFrLawSet
import Derived.Test.YtjhgelhdhdcmfaaDoorGf9
namespace Go.Proofs.YtjhgelhdhdcmfaaDoor
open Go Go.RowKit

theorem ackT_len : ∀ (r : List (Nat × Nat)) (x : Nat), (Fr.ackT x r).length ≤ 16 * r.length
  | [], _ => Nat.zero_le _
  | (a, b) :: r, x => by
    have := ackT_len r a
    have h1 := Fr.szN_le (x - b - 2)
    have h2 := Fr.szN_le (b - a)
    simp only [Fr.ackT, List.length_append, Fr.numL_length, List.length_cons]
    omega
theorem ack_short (f : Fr.Frame) (hk : f.kind = 3) (hl : f.ranges.length ≤ 64) : (Fr.putAll [f]).length ≤ 1048576 := by
  have e : Fr.putAll [f] = Fr.putF f := by simp [Fr.putAll]
  have e2 : Fr.putF f = Fr.numL 2 ++ Fr.ackB f.limit f.ranges.reverse := by
    unfold Fr.putF
    rw [hk]
    rfl
  rw [e, e2]
  have hr : f.ranges.reverse.length ≤ 64 := by rw [List.length_reverse]; exact hl
  generalize f.ranges.reverse = R at hr
  have h0 := Fr.szN_le 2
  cases R with
  | nil => simp only [Fr.ackB, List.length_append, Fr.numL_length, List.length_nil]; omega
  | cons x r =>
    obtain ⟨a, b⟩ := x
    have := ackT_len r a
    have h1 := Fr.szN_le b
    have h2 := Fr.szN_le f.limit
    have h3 := Fr.szN_le r.length
    have h4 := Fr.szN_le (b - a)
    rw [List.length_cons] at hr
    simp only [Fr.ackB, List.length_append, Fr.numL_length]
    omega
/-- The frame that FrameAcks puts. -/
def aM (s : RL) (n : Nat) : FrM := ⟨3, 0, 0, n, 0, false, ⟨none, 0, 0, 0, 0, []⟩, s⟩
theorem aM_ok {w : World} {s : RL} {n : Nat} (h : s.Ok w) (hn : n < 18446744073709551616) : (aM s n).Ok w :=
  ⟨nilS_ok7 w, h, show 3 < 256 by decide, show 0 < 18446744073709551616 by decide, show 0 < 18446744073709551616 by decide, hn, show 0 < 18446744073709551616 by decide⟩
theorem aM_may {s : RL} {n : Nat} (h1 : s.l.length ≤ 64 ∧ Fr.setL s.l) (h2 : s.l ≠ []) (h3 : n < 4611686018427387904) : Fr.mayF (aM s n).fr := by
  refine ⟨⟨Nat.zero_le _, Nat.zero_le _, show n ≤ _ by omega, Nat.zero_le _, Nat.zero_le _⟩, ?_⟩
  show Fr.bareF (aM s n).fr false false true false false false true ∧ s.l ≠ [] ∧ s.l.length ≤ 64 ∧ Fr.setL s.l
  exact ⟨⟨.inr rfl, .inr rfl, .inl rfl, .inr rfl, .inr rfl, .inr rfl, .inl rfl⟩, h2, h1.1, h1.2⟩
theorem own_two (w : World) : (w.alloc (.cells #[.int .u8 2] 5)).ownsRow w.heap.size 5 1 (.slice (some ⟨w.heap.size, 0, none⟩) 1 1) 1 (vb [2]) :=
  ⟨rfl, .inr ⟨w.heap.size, 1, #[.int .u8 2], rfl, Nat.le_refl _, _root_.Go.heap_alloc_new w _, Nat.le_refl _, by unfold maxLen; decide, rfl, rfl⟩⟩
/-- What FrameAcks puts, and what comes of it. -/
theorem ack_put (s : RL) (n : Nat) (w : World) (hs : s.Ok w) (hn : n < 18446744073709551616) (hL : Lens w) (hN : Named w) :
    Calls Tryd.prog 10 #[.slice (some ⟨w.heap.size, 0, none⟩) 1 1] (w.alloc (.cells (aM s n).cells 39)) fun e w' => (∃ q : SL, q.Ok w' ∧ q.Told ∧ ((e = .returned (.tuple #[.slice q.a q.len q.cap, .int .i64 0]) ∧ Fr.getAll q.b = .ok [(aM s n).fr]) ∨ (e = .returned (.tuple #[.slice q.a q.len q.cap, .int .i64 1]) ∧ ¬ ((s.l.length ≤ 64 ∧ Fr.setL s.l) ∧ s.l ≠ [] ∧ n < 4611686018427387904)))) ∧ Below w.heap.size w w' := by
  have b0 : Below w.heap.size w (w.alloc (.cells (aM s n).cells 39)) := (Below.refl _ w).alloc (Nat.le_refl _) _
  refine (put_one w.heap.size (aM s n) _ (Row.new _ _ _) (aM_ok (hs.below b0) hn) (show (0 : Nat) ≤ 4000000 by decide) (hL.step b0) (hN.step b0)).mono ?_
  rintro e w' ⟨q, rfl, hl, hb, hok, ht, hbel⟩
  refine ⟨⟨q, hok, ht, ?_⟩, b0.trans (hbel.mono b0.size)⟩
  by_cases hm : Fr.mayF (aM s n).fr
  · have h64 : s.l.length ≤ 64 := by
      have h2 : Fr.bareF (aM s n).fr false false true false false false true ∧ s.l ≠ [] ∧ s.l.length ≤ 64 ∧ Fr.setL s.l := hm.2
      exact h2.2.2.1
    have hsh := ack_short (aM s n).fr rfl h64
    have e0 : putE [(aM s n).fr] = 0 := putE_ok (a_one hm) (show ¬ 1024 < 1 by decide) (by omega)
    refine .inl ⟨by rw [e0]; rfl, ?_⟩
    rw [hb, putO_ok e0]
    exact Fr.get_put _ (a_one hm).1 (a_one hm).2 (show 1 ≤ 1024 by decide) hsh
  · have e1 : putE [(aM s n).fr] = 1 := putE_no fun h => hm (h.1 _ (List.mem_singleton.2 rfl))
    exact .inr ⟨by rw [e1]; rfl, fun h => hm (aM_may h.1 h.2.1 h.2.2)⟩
/-- The first of frames that were got. -/
theorem fs_first {fs : FS} {w : World} (h : fs.Ok w) (h0 : 0 < fs.len) : fs.a = some ⟨fs.g, fs.off, none⟩ ∧ w.cell? ⟨fs.g, fs.off, none⟩ = some (.int .u8 ((gf fs.l 0).kind : Int)) ∧ w.cell? ⟨fs.g, fs.off + 3, none⟩ = some (.int .u64 ((gf fs.l 0).limit : Int)) ∧ w.cell? ⟨fs.g, fs.off + 7, none⟩ = some (.slice (gf fs.l 0).ranges.a (gf fs.l 0).ranges.len (gf fs.l 0).ranges.cap) ∧ (gf fs.l 0).Ok w := by
  have hc : w.rangeAt fs.g (fs.off + 0 * 8) (gf fs.l 0).cells.toList := h.cell 0 h0
  exact ⟨h.at_ h0, hc 0 _ rfl, hc 3 _ rfl, hc 7 _ rfl, h.each 0 h0⟩

set_option maxRecDepth 20000 in
set_option maxHeartbeats 400000 in
theorem acks_walk (s : RL) (n : Nat) (b : SL) (w : World) (hs : s.Ok w) (hsl : s.len ≤ 140737488355328) (hn : n < 18446744073709551616) (hb : b.Ok w) (_hbt : 0 < b.len → b.Told) (hbl : b.len ≤ 140737488355328) (hL : Lens w) (hN : Named w) :
    Calls Tryd.prog 6 #[.slice s.a s.len s.cap, .int .u64 (n : Int), .slice b.a b.len b.cap] w fun e w' => e = .returned (.bool true) ∧ Below w.heap.size w w' := by
  obtain ⟨i0, hi, hz0, hz1, hz2⟩ := info_parts Tryd.infoByteV
  have HS := veil hs
  have HBb := veil hb
  have HL := veil hL
  have HN := veil hN
  have HSB := veil hs.hb
  clear hs hb _hbt hL hN
  by_cases big : 100000 < b.len
  · have f1 : decide ((100000 : Int) < (b.len : Int)) = true := decide_eq_true (by omega)
    have f1n : decide (100000 < b.len) = true := decide_eq_true big
    go_enter Tryd.func6, Tryd.ntmps6
    go_wp2_with fail
    refine (alive_any w HL.out HN.out).mono ?_
    rintro e1 w1 ⟨rfl, bel1⟩
    have B1 := veil bel1
    clear bel1
    go_wp2_with fail
    refine (alive_any w1 (HL.out.step B1.out) (HN.out.step B1.out)).mono ?_
    rintro e2 w2 ⟨rfl, bel2⟩
    have B2 := veil (B1.out.trans (bel2.mono B1.out.size))
    clear bel2
    go_wp2_with fail
    go_ret
    exact ⟨rfl, B2.out⟩
  have f1 : decide ((100000 : Int) < (b.len : Int)) = false := decide_eq_false (by omega)
  have f1n : decide (100000 < b.len) = false := decide_eq_false big
  by_cases big2 : 100 < s.len
  · have f2 : decide ((100 : Int) < (s.len : Int)) = true := decide_eq_true (by omega)
    have f2n : decide (100 < s.len) = true := decide_eq_true big2
    go_enter Tryd.func6, Tryd.ntmps6
    go_wp2_with fail
    refine (alive_any w HL.out HN.out).mono ?_
    rintro e1 w1 ⟨rfl, bel1⟩
    have B1 := veil bel1
    clear bel1
    go_wp2_with fail
    refine (alive_any w1 (HL.out.step B1.out) (HN.out.step B1.out)).mono ?_
    rintro e2 w2 ⟨rfl, bel2⟩
    have B2 := veil (B1.out.trans (bel2.mono B1.out.size))
    clear bel2
    go_wp2_with fail
    go_ret
    exact ⟨rfl, B2.out⟩
  have f2 : decide ((100 : Int) < (s.len : Int)) = false := decide_eq_false (by omega)
  have f2n : decide (100 < s.len) = false := decide_eq_false big2
  have hl100 : s.len ≤ 100 := by omega
  have hbL : b.len ≤ 100000 := by omega
  go_enter Tryd.func6, Tryd.ntmps6
  go_wp2_with fail
  refine (alive_any w HL.out HN.out).mono ?_
  rintro e1 w1 ⟨rfl, bel1⟩
  have B1 := veil bel1
  have HS1 := veil (HS.out.below bel1)
  clear bel1 f1 f1n f2 f2n big big2
  go_wp2_with fail
  refine (ack_put s n w1 HS1.out hn (HL.out.step B1.out) (HN.out.step B1.out)).mono ?_
  rintro e2 w2 ⟨⟨q, hqo, hqt, hq⟩, bel2⟩
  have B2 := veil (B1.out.trans (bel2.mono B1.out.size))
  have HQ := veil hqo
  have HT := veil hqt
  have HS2 := veil (HS1.out.below bel2)
  clear bel2 B1 HS1 hqo hqt
  rcases hq with ⟨rfl, hg⟩ | ⟨rfl, hno⟩
  · have HG := veil hg
    clear hg
    go_wp2_with fail
    refine (get_any7 q w2 HQ.out (fun _ => HT.out) (HL.out.step B2.out)).mono ?_
    rintro x3 w3 ⟨hp, bel3⟩
    have B3 := veil (B2.out.trans (bel3.mono B2.out.size))
    have HS3 := veil (HS2.out.below bel3)
    clear bel3 HS2 B2
    rcases hp with ⟨e, h1, _⟩ | ⟨fs, h1, rfl, h3, ⟨h4, h5⟩, _⟩
    · exfalso
      rw [HG.out] at h1
      cases h1
    · have hE : fs.fr = [(aM s n).fr] := by rw [HG.out] at h1; injection h1 with h1; exact h1.symm
      have h1l : fs.len = 1 := by
        rw [← h3.hb]
        have := congrArg List.length hE
        simpa [FS.fr] using this
      obtain ⟨ha, _, c3, c7, fok⟩ := fs_first h3 (by omega)
      have hF : (gf fs.l 0).fr = (aM s n).fr := by
        have := fr_get (s := fs) (q := ⟨none, 0, 0, 0, 0, [aM s n]⟩) hE 0 (by rw [h3.hb]; omega)
        exact this
      have hlim : (gf fs.l 0).limit = n := congrArg Fr.Frame.limit hF
      have hrl : (gf fs.l 0).ranges.l = s.l := congrArg Fr.Frame.ranges hF
      have hr5 := (h5 0 (by omega)).2
      rw [hlim] at c3
      have SAME := veil (same_rl (gf fs.l 0).ranges s w3 fok.ranges HS3.out hrl (by omega))
      generalize (gf fs.l 0).ranges = R at c7 SAME
      rw [ha, h1l]
      have g1 : ((n : Int) != (n : Int)) = false := by simp
      clear h1 h3 h4 h5 hE h1l ha fok hF hlim hrl hr5 HG
      go_wp2_with fail
      refine SAME.out.mono ?_
      rintro e4 w4 ⟨rfl, bel4⟩
      have B4 := veil (B3.out.trans (bel4.mono B3.out.size))
      clear bel4 B3 HS3 SAME c3 c7 HQ HT HS
      have BB := veil (HBb.out.below B4.out)
      have hsz : w4.heap.size ≤ (w4.alloc (.cells #[.int .u8 2] 5)).heap.size := by simp
      have LX := veil ((HL.out.step B4.out))
      go_wp2_with (with_reducible (show wpList _ _ _ (⟨some 79, Op.call _, _, _, _, _⟩ :: _) _ _)
                   refine append_sl rfl _ _ 26 rfl w4.heap.size i0 Tryd.underlying26 hi hz0 hz1 hz2 _ 1 [2] rfl (own_two w4) b (BB.out.alloc _) rfl (by omega) hsz ?_
                   intro v5 w5 hown5 hgrow5
                   obtain ⟨sA, rfl, hAl, hAb, hAok, hAt⟩ := SL.of_row (L := [2] ++ b.b) (show RowK w4.heap.size ([2] ++ b.b) w5 v5 by unfold RowK; rw [List.length_append, BB.out.hb]; exact hown5)
                   have K5 := veil (Keep.of_grown (own_two w4) hgrow5 hsz)
                   have SA := veil (show sA.Ok w5 ∧ sA.Told ∧ sA.b = (2 : By) :: b.b from ⟨hAok, hAt, hAb⟩)
                   have BX5 := veil (((Below.refl _ w4).alloc (Nat.le_refl _) _).trans K5.out.bel)
                   clear hown5 hgrow5 hAl hAb hAok hAt)
      refine (get_any7 sA w5 SA.out.1 (fun _ => SA.out.2.1) (LX.out.step BX5.out)).mono ?_
      rintro x6 w6 ⟨hp6, bel6⟩
      have B6 := veil ((B4.out.trans (BX5.out.mono B4.out.size)).trans (bel6.mono (Nat.le_trans B4.out.size BX5.out.size)))
      clear bel6
      rcases hp6 with ⟨e, h1, rfl⟩ | ⟨fz, h1, rfl, h3, ⟨h4, h5⟩, _⟩
      · rcases Fr.get_errs h1 with rfl | rfl | rfl
        · clear h1
          go_wp2_with fail
          go_ret
          exact ⟨rfl, B6.out⟩
        · clear h1
          go_wp2_with fail
          go_ret
          exact ⟨rfl, B6.out⟩
        · clear h1
          go_wp2_with fail
          go_ret
          exact ⟨rfl, B6.out⟩
      · rw [SA.out.2.2] at h1
        obtain ⟨f, r, hfr, k3, kr, kl, ks⟩ := Fr.get_ack h1
        have hz : 0 < fz.len := by
          rw [← h3.hb]
          have := congrArg List.length hfr
          rw [FS.fr, List.length_map, List.length_cons] at this
          omega
        obtain ⟨ha, c0, _, c7, fok⟩ := fs_first h3 hz
        have hF : (gf fz.l 0).fr = f := by
          have h6 : fz.fr[0]? = some f := by rw [hfr]; rfl
          have h7 : 0 < fz.l.length := by rw [h3.hb]; exact hz
          rw [FS.fr, List.getElem?_map, List.getElem?_eq_getElem h7] at h6
          have h8 : gf fz.l 0 = fz.l[0] := by unfold gf; rw [List.getElem?_eq_getElem h7]; rfl
          rw [h8]
          exact Option.some.inj h6
        have hk : (gf fz.l 0).kind = 3 := (congrArg Fr.Frame.kind hF).trans k3
        have hrl : (gf fz.l 0).ranges.l = f.ranges := congrArg Fr.Frame.ranges hF
        rw [hk] at c0
        generalize (gf fz.l 0) = F at c7 hrl fok
        have hRb := fok.ranges.hb
        rw [hrl] at hRb
        have hR0 : 0 < F.ranges.len := by rw [← hRb]; exact List.length_pos_iff.2 kr
        have SET := veil (law_set F.ranges w6 fok.ranges (by omega))
        have KS := veil (show F.ranges.l.length ≤ 64 ∧ Fr.setL F.ranges.l by rw [hrl]; exact ⟨kl, ks⟩)
        have z1 : decide ((0 : Int) < (fz.len : Int)) = true := decide_eq_true (by omega)
        have z2 : decide ((0 : Int) < (F.ranges.len : Int)) = true := decide_eq_true (by omega)
        have z1n : decide (0 < fz.len) = true := decide_eq_true hz
        have z2n : decide (0 < F.ranges.len) = true := decide_eq_true hR0
        rw [ha]
        clear h1 h3 h4 h5 hfr k3 kr kl ks hF hk hrl hRb ha fok
        go_wp2_with fail
        refine SET.out.mono ?_
        rintro e7 w7 ⟨⟨rfl, _⟩ | ⟨_, hn7⟩, bel7⟩
        · have B7 := veil (B6.out.trans (bel7.mono B6.out.size))
          clear bel7
          go_wp2_with fail
          go_ret
          exact ⟨rfl, B7.out⟩
        · exact absurd KS.out hn7
  · have HNO := veil hno
    clear hno HQ HT
    go_wp2_with fail
    refine (law_set s w2 HS2.out hl100).mono ?_
    rintro e3 w3 ⟨h, bel3⟩
    have B3 := veil (B2.out.trans (bel3.mono B2.out.size))
    clear bel3 B2 HS2
    rcases h with ⟨rfl, hset⟩ | ⟨rfl, _⟩
    · by_cases h0 : 0 < s.len
      · have hn62 : ¬ n < 4611686018427387904 := fun h => HNO.out ⟨hset, fun e => by have := HSB.out; rw [e] at this; simp at this; omega, h⟩
        have y1 : decide ((0 : Int) < (s.len : Int)) = true := decide_eq_true (by omega)
        have y1n : decide (0 < s.len) = true := decide_eq_true h0
        have y2 : decide ((n : Int) < 4611686018427387904) = false := decide_eq_false (by omega)
        clear HNO hset
        have BB := veil (HBb.out.below B3.out)
        have hsz : w3.heap.size ≤ (w3.alloc (.cells #[.int .u8 2] 5)).heap.size := by simp
        have LX := veil ((HL.out.step B3.out))
        go_wp2_with (with_reducible (show wpList _ _ _ (⟨some 79, Op.call _, _, _, _, _⟩ :: _) _ _)
                     refine append_sl rfl _ _ 26 rfl w3.heap.size i0 Tryd.underlying26 hi hz0 hz1 hz2 _ 1 [2] rfl (own_two w3) b (BB.out.alloc _) rfl (by omega) hsz ?_
                     intro v5 w5 hown5 hgrow5
                     obtain ⟨sA, rfl, hAl, hAb, hAok, hAt⟩ := SL.of_row (L := [2] ++ b.b) (show RowK w3.heap.size ([2] ++ b.b) w5 v5 by unfold RowK; rw [List.length_append, BB.out.hb]; exact hown5)
                     have K5 := veil (Keep.of_grown (own_two w3) hgrow5 hsz)
                     have SA := veil (show sA.Ok w5 ∧ sA.Told ∧ sA.b = (2 : By) :: b.b from ⟨hAok, hAt, hAb⟩)
                     have BX5 := veil (((Below.refl _ w3).alloc (Nat.le_refl _) _).trans K5.out.bel)
                     clear hown5 hgrow5 hAl hAb hAok hAt)
        refine (get_any7 sA w5 SA.out.1 (fun _ => SA.out.2.1) (LX.out.step BX5.out)).mono ?_
        rintro x6 w6 ⟨hp6, bel6⟩
        have B6 := veil ((B3.out.trans (BX5.out.mono B3.out.size)).trans (bel6.mono (Nat.le_trans B3.out.size BX5.out.size)))
        clear bel6
        rcases hp6 with ⟨e, h1, rfl⟩ | ⟨fz, h1, rfl, h3, ⟨h4, h5⟩, _⟩
        · rcases Fr.get_errs h1 with rfl | rfl | rfl
          · clear h1
            go_wp2_with fail
            go_ret
            exact ⟨rfl, B6.out⟩
          · clear h1
            go_wp2_with fail
            go_ret
            exact ⟨rfl, B6.out⟩
          · clear h1
            go_wp2_with fail
            go_ret
            exact ⟨rfl, B6.out⟩
        · rw [SA.out.2.2] at h1
          obtain ⟨f, r, hfr, k3, kr, kl, ks⟩ := Fr.get_ack h1
          have hz : 0 < fz.len := by
            rw [← h3.hb]
            have := congrArg List.length hfr
            rw [FS.fr, List.length_map, List.length_cons] at this
            omega
          obtain ⟨ha, c0, _, c7, fok⟩ := fs_first h3 hz
          have hF : (gf fz.l 0).fr = f := by
            have h6 : fz.fr[0]? = some f := by rw [hfr]; rfl
            have h7 : 0 < fz.l.length := by rw [h3.hb]; exact hz
            rw [FS.fr, List.getElem?_map, List.getElem?_eq_getElem h7] at h6
            have h8 : gf fz.l 0 = fz.l[0] := by unfold gf; rw [List.getElem?_eq_getElem h7]; rfl
            rw [h8]
            exact Option.some.inj h6
          have hk : (gf fz.l 0).kind = 3 := (congrArg Fr.Frame.kind hF).trans k3
          have hrl : (gf fz.l 0).ranges.l = f.ranges := congrArg Fr.Frame.ranges hF
          rw [hk] at c0
          generalize (gf fz.l 0) = F at c7 hrl fok
          have hRb := fok.ranges.hb
          rw [hrl] at hRb
          have hR0 : 0 < F.ranges.len := by rw [← hRb]; exact List.length_pos_iff.2 kr
          have SET := veil (law_set F.ranges w6 fok.ranges (by omega))
          have KS := veil (show F.ranges.l.length ≤ 64 ∧ Fr.setL F.ranges.l by rw [hrl]; exact ⟨kl, ks⟩)
          have z1 : decide ((0 : Int) < (fz.len : Int)) = true := decide_eq_true (by omega)
          have z2 : decide ((0 : Int) < (F.ranges.len : Int)) = true := decide_eq_true (by omega)
          have z1n : decide (0 < fz.len) = true := decide_eq_true hz
          have z2n : decide (0 < F.ranges.len) = true := decide_eq_true hR0
          rw [ha]
          clear h1 h3 h4 h5 hfr k3 kr kl ks hF hk hrl hRb ha fok
          go_wp2_with fail
          refine SET.out.mono ?_
          rintro e7 w7 ⟨⟨rfl, _⟩ | ⟨_, hn7⟩, bel7⟩
          · have B7 := veil (B6.out.trans (bel7.mono B6.out.size))
            clear bel7
            go_wp2_with fail
            go_ret
            exact ⟨rfl, B7.out⟩
          · exact absurd KS.out hn7
      · have y1 : decide ((0 : Int) < (s.len : Int)) = false := decide_eq_false (by omega)
        have y1n : decide (0 < s.len) = false := decide_eq_false h0
        clear HNO hset
        have BB := veil (HBb.out.below B3.out)
        have hsz : w3.heap.size ≤ (w3.alloc (.cells #[.int .u8 2] 5)).heap.size := by simp
        have LX := veil ((HL.out.step B3.out))
        go_wp2_with (with_reducible (show wpList _ _ _ (⟨some 79, Op.call _, _, _, _, _⟩ :: _) _ _)
                     refine append_sl rfl _ _ 26 rfl w3.heap.size i0 Tryd.underlying26 hi hz0 hz1 hz2 _ 1 [2] rfl (own_two w3) b (BB.out.alloc _) rfl (by omega) hsz ?_
                     intro v5 w5 hown5 hgrow5
                     obtain ⟨sA, rfl, hAl, hAb, hAok, hAt⟩ := SL.of_row (L := [2] ++ b.b) (show RowK w3.heap.size ([2] ++ b.b) w5 v5 by unfold RowK; rw [List.length_append, BB.out.hb]; exact hown5)
                     have K5 := veil (Keep.of_grown (own_two w3) hgrow5 hsz)
                     have SA := veil (show sA.Ok w5 ∧ sA.Told ∧ sA.b = (2 : By) :: b.b from ⟨hAok, hAt, hAb⟩)
                     have BX5 := veil (((Below.refl _ w3).alloc (Nat.le_refl _) _).trans K5.out.bel)
                     clear hown5 hgrow5 hAl hAb hAok hAt)
        refine (get_any7 sA w5 SA.out.1 (fun _ => SA.out.2.1) (LX.out.step BX5.out)).mono ?_
        rintro x6 w6 ⟨hp6, bel6⟩
        have B6 := veil ((B3.out.trans (BX5.out.mono B3.out.size)).trans (bel6.mono (Nat.le_trans B3.out.size BX5.out.size)))
        clear bel6
        rcases hp6 with ⟨e, h1, rfl⟩ | ⟨fz, h1, rfl, h3, ⟨h4, h5⟩, _⟩
        · rcases Fr.get_errs h1 with rfl | rfl | rfl
          · clear h1
            go_wp2_with fail
            go_ret
            exact ⟨rfl, B6.out⟩
          · clear h1
            go_wp2_with fail
            go_ret
            exact ⟨rfl, B6.out⟩
          · clear h1
            go_wp2_with fail
            go_ret
            exact ⟨rfl, B6.out⟩
        · rw [SA.out.2.2] at h1
          obtain ⟨f, r, hfr, k3, kr, kl, ks⟩ := Fr.get_ack h1
          have hz : 0 < fz.len := by
            rw [← h3.hb]
            have := congrArg List.length hfr
            rw [FS.fr, List.length_map, List.length_cons] at this
            omega
          obtain ⟨ha, c0, _, c7, fok⟩ := fs_first h3 hz
          have hF : (gf fz.l 0).fr = f := by
            have h6 : fz.fr[0]? = some f := by rw [hfr]; rfl
            have h7 : 0 < fz.l.length := by rw [h3.hb]; exact hz
            rw [FS.fr, List.getElem?_map, List.getElem?_eq_getElem h7] at h6
            have h8 : gf fz.l 0 = fz.l[0] := by unfold gf; rw [List.getElem?_eq_getElem h7]; rfl
            rw [h8]
            exact Option.some.inj h6
          have hk : (gf fz.l 0).kind = 3 := (congrArg Fr.Frame.kind hF).trans k3
          have hrl : (gf fz.l 0).ranges.l = f.ranges := congrArg Fr.Frame.ranges hF
          rw [hk] at c0
          generalize (gf fz.l 0) = F at c7 hrl fok
          have hRb := fok.ranges.hb
          rw [hrl] at hRb
          have hR0 : 0 < F.ranges.len := by rw [← hRb]; exact List.length_pos_iff.2 kr
          have SET := veil (law_set F.ranges w6 fok.ranges (by omega))
          have KS := veil (show F.ranges.l.length ≤ 64 ∧ Fr.setL F.ranges.l by rw [hrl]; exact ⟨kl, ks⟩)
          have z1 : decide ((0 : Int) < (fz.len : Int)) = true := decide_eq_true (by omega)
          have z2 : decide ((0 : Int) < (F.ranges.len : Int)) = true := decide_eq_true (by omega)
          have z1n : decide (0 < fz.len) = true := decide_eq_true hz
          have z2n : decide (0 < F.ranges.len) = true := decide_eq_true hR0
          rw [ha]
          clear h1 h3 h4 h5 hfr k3 kr kl ks hF hk hrl hRb ha fok
          go_wp2_with fail
          refine SET.out.mono ?_
          rintro e7 w7 ⟨⟨rfl, _⟩ | ⟨_, hn7⟩, bel7⟩
          · have B7 := veil (B6.out.trans (bel7.mono B6.out.size))
            clear bel7
            go_wp2_with fail
            go_ret
            exact ⟨rfl, B7.out⟩
          · exact absurd KS.out hn7
    · clear HNO
      have BB := veil (HBb.out.below B3.out)
      have hsz : w3.heap.size ≤ (w3.alloc (.cells #[.int .u8 2] 5)).heap.size := by simp
      have LX := veil ((HL.out.step B3.out))
      go_wp2_with (with_reducible (show wpList _ _ _ (⟨some 79, Op.call _, _, _, _, _⟩ :: _) _ _)
                   refine append_sl rfl _ _ 26 rfl w3.heap.size i0 Tryd.underlying26 hi hz0 hz1 hz2 _ 1 [2] rfl (own_two w3) b (BB.out.alloc _) rfl (by omega) hsz ?_
                   intro v5 w5 hown5 hgrow5
                   obtain ⟨sA, rfl, hAl, hAb, hAok, hAt⟩ := SL.of_row (L := [2] ++ b.b) (show RowK w3.heap.size ([2] ++ b.b) w5 v5 by unfold RowK; rw [List.length_append, BB.out.hb]; exact hown5)
                   have K5 := veil (Keep.of_grown (own_two w3) hgrow5 hsz)
                   have SA := veil (show sA.Ok w5 ∧ sA.Told ∧ sA.b = (2 : By) :: b.b from ⟨hAok, hAt, hAb⟩)
                   have BX5 := veil (((Below.refl _ w3).alloc (Nat.le_refl _) _).trans K5.out.bel)
                   clear hown5 hgrow5 hAl hAb hAok hAt)
      refine (get_any7 sA w5 SA.out.1 (fun _ => SA.out.2.1) (LX.out.step BX5.out)).mono ?_
      rintro x6 w6 ⟨hp6, bel6⟩
      have B6 := veil ((B3.out.trans (BX5.out.mono B3.out.size)).trans (bel6.mono (Nat.le_trans B3.out.size BX5.out.size)))
      clear bel6
      rcases hp6 with ⟨e, h1, rfl⟩ | ⟨fz, h1, rfl, h3, ⟨h4, h5⟩, _⟩
      · rcases Fr.get_errs h1 with rfl | rfl | rfl
        · clear h1
          go_wp2_with fail
          go_ret
          exact ⟨rfl, B6.out⟩
        · clear h1
          go_wp2_with fail
          go_ret
          exact ⟨rfl, B6.out⟩
        · clear h1
          go_wp2_with fail
          go_ret
          exact ⟨rfl, B6.out⟩
      · rw [SA.out.2.2] at h1
        obtain ⟨f, r, hfr, k3, kr, kl, ks⟩ := Fr.get_ack h1
        have hz : 0 < fz.len := by
          rw [← h3.hb]
          have := congrArg List.length hfr
          rw [FS.fr, List.length_map, List.length_cons] at this
          omega
        obtain ⟨ha, c0, _, c7, fok⟩ := fs_first h3 hz
        have hF : (gf fz.l 0).fr = f := by
          have h6 : fz.fr[0]? = some f := by rw [hfr]; rfl
          have h7 : 0 < fz.l.length := by rw [h3.hb]; exact hz
          rw [FS.fr, List.getElem?_map, List.getElem?_eq_getElem h7] at h6
          have h8 : gf fz.l 0 = fz.l[0] := by unfold gf; rw [List.getElem?_eq_getElem h7]; rfl
          rw [h8]
          exact Option.some.inj h6
        have hk : (gf fz.l 0).kind = 3 := (congrArg Fr.Frame.kind hF).trans k3
        have hrl : (gf fz.l 0).ranges.l = f.ranges := congrArg Fr.Frame.ranges hF
        rw [hk] at c0
        generalize (gf fz.l 0) = F at c7 hrl fok
        have hRb := fok.ranges.hb
        rw [hrl] at hRb
        have hR0 : 0 < F.ranges.len := by rw [← hRb]; exact List.length_pos_iff.2 kr
        have SET := veil (law_set F.ranges w6 fok.ranges (by omega))
        have KS := veil (show F.ranges.l.length ≤ 64 ∧ Fr.setL F.ranges.l by rw [hrl]; exact ⟨kl, ks⟩)
        have z1 : decide ((0 : Int) < (fz.len : Int)) = true := decide_eq_true (by omega)
        have z2 : decide ((0 : Int) < (F.ranges.len : Int)) = true := decide_eq_true (by omega)
        have z1n : decide (0 < fz.len) = true := decide_eq_true hz
        have z2n : decide (0 < F.ranges.len) = true := decide_eq_true hR0
        rw [ha]
        clear h1 h3 h4 h5 hfr k3 kr kl ks hF hk hrl hRb ha fok
        go_wp2_with fail
        refine SET.out.mono ?_
        rintro e7 w7 ⟨⟨rfl, _⟩ | ⟨_, hn7⟩, bel7⟩
        · have B7 := veil (B6.out.trans (bel7.mono B6.out.size))
          clear bel7
          go_wp2_with fail
          go_ret
          exact ⟨rfl, B7.out⟩
        · exact absurd KS.out hn7
end Go.Proofs.YtjhgelhdhdcmfaaDoor
