/-
  FrameGets, walked.
-/
import Derived.Test.YtimhbjlmpojhoaaGreatDoorGg14
import Derived.Test.YtimhbjlmpojhoaaGreatDoorGg13
import Derived.Test.YtimhbjlmpojhoaaGreatDoorGgFrBeyond
import Derived.Test.YtimhbjlmpojhoaaGreatDoorGg17
import Derived.Test.YtimhbjlmpojhoaaGreatDoorGg10
namespace Go.Proofs.YtimhbjlmpojhoaaGreatDoor
open Go Go.RowKit

theorem GotU.below {w w' w'' : World} {b : List By} {x : Ending} {fs : FS} (h : GotU w b x w' fs) (hb : Below w'.heap.size w' w'') : fs.Ok w'' ∧ w''.ownsRow w.heap.size 37 8 (.slice fs.a fs.len fs.cap) fs.len (vf fs.l) ∧ ∀ F ∈ fs.l, FrNew w.heap.size w'' F :=
  ⟨h.ok.below hb, own_belowK h.own hb, fun F hF => (h.each F hF).keep (others_below hb)⟩

set_option maxRecDepth 20000 in
set_option maxHeartbeats 2000000 in
theorem gets_walk (s : SL) (w : World) (hs : s.Ok w) (ht : 0 < s.len → s.Told) (hl : s.len ≤ 140737488355328) (hL : Lens w) :
    Calls Tryz.prog 4 #[.slice s.a s.len s.cap] w fun e w' => e = .returned (.bool true) ∧ Below w.heap.size w w' := by
  have HS := veil hs
  have HT := veil ht
  have HL := veil hL
  clear hs ht hL
  have hq4 : (s.len : Int).tdiv 4 = ((s.len / 4 : Nat) : Int) := by rw [Int.tdiv_eq_ediv_of_nonneg (by omega)]; omega
  go_enter Tryz.func4, Tryz.ntmps4
  go_wp2_with fail
  refine (beyond_one w (s.len / 4) (by omega)).mono ?_
  rintro e1 w1 ⟨⟨b, rfl, hb⟩, bel1⟩
  have B1 := veil bel1
  clear bel1
  cases b
  case true =>
    go_wp2_with fail
    go_ret
    exact ⟨rfl, B1.out⟩
  have h4 := hb rfl
  have hlen : s.len ≤ 4194307 := by omega
  clear hb hq4
  go_wp2_with fail
  refine (twin_own s w1 (HS.out.below B1.out) (by omega)).mono ?_
  rintro e2 w2 ⟨g, rfl, htw, how, bel2⟩
  have TW2 := veil htw
  have TWL := veil htw.lt
  have OW2 := veil how
  have sz1 := B1.out.size
  have sz2 := bel2.size
  have B2 := veil (B1.out.trans (bel2.mono B1.out.size))
  have G1 := veil (get_any7A (twinS g s.len s.b) w2 (htw.ok HS.out.hb) (fun _ p hp => by cases hp; rfl) (HL.out.step B2.out))
  clear htw how bel2
  go_wp2_with fail
  refine G1.out.mono ?_
  rintro x3 w3 ⟨hp3, bel3⟩
  obtain ⟨f1, u1⟩ := GetPostA.u (show GetPostA w2 s.b x3 w3 from hp3)
  obtain rfl := u1.x
  have U1 := veil u1
  have B3 := veil (B2.out.trans (bel3.mono B2.out.size))
  have TW3 := veil (TW2.out.below bel3)
  have OW3 := veil (own_belowK OW2.out bel3)
  have sz3 := bel3.size
  have G2 := veil (get_any7A (twinS g s.len s.b) w3 (TW3.out.ok HS.out.hb) (fun _ p hp => by cases hp; rfl) (HL.out.step B3.out))
  clear hp3 bel3 u1 G1 TW2 OW2
  go_wp2_with fail
  refine G2.out.mono ?_
  rintro x4 w4 ⟨hp4, bel4⟩
  obtain ⟨f2, u2⟩ := GetPostA.u (show GetPostA w3 s.b x4 w4 from hp4)
  obtain rfl := u2.x
  have U2 := veil u2
  have B4 := veil (B3.out.trans (bel4.mono B3.out.size))
  have TW4 := veil (TW3.out.below bel4)
  have OW4 := veil (own_belowK OW3.out bel4)
  have sz4 := bel4.size
  have BB4 := veil bel4
  have G3 := veil (ref_got s w4 (HS.out.below B4.out) HT.out)
  clear hp4 bel4 u2 G2 TW3 OW3
  go_wp2_with fail
  refine G3.out.mono ?_
  rintro x5 w5 ⟨hp5, bel5⟩
  obtain ⟨f3, rfl, fr3, ok3⟩ := hp5.u
  have B5 := veil (B4.out.trans (bel5.mono B4.out.size))
  have TW5 := veil (TW4.out.below bel5)
  have OW5 := veil (own_belowK OW4.out bel5)
  have sz5 := bel5.size
  have BB5 := veil (BB4.out.trans (bel5.mono BB4.out.size))
  have BC5 := veil bel5
  have S1 := veil (same_frames f1 f3 w5 (U1.out.below BB5.out).1 ok3 (U1.out.fr.trans fr3.symm) (by have := U1.out.len; omega) (fun j hj => by have := U1.out.lens j hj; omega))
  have OK3 := veil ok3
  have FR3 := veil fr3
  clear hp5 bel5 fr3 ok3 G3 TW4 OW4 BB4
  obtain ⟨E, hE⟩ : ∃ E, E = (ansOf (Fr.getAll s.b)).2 := ⟨_, rfl⟩
  rw [← hE]
  clear hE
  have hEE : ((E : Int) != (E : Int)) = false := by simp
  go_wp2_with fail
  refine S1.out.mono ?_
  rintro x6 w6 ⟨rfl, bel6⟩
  have B6 := veil (B5.out.trans (bel6.mono B5.out.size))
  have TW6 := veil (TW5.out.below bel6)
  have OW6 := veil (own_belowK OW5.out bel6)
  have sz6 := bel6.size
  have BB6 := veil (BB5.out.trans (bel6.mono BB5.out.size))
  have BC6 := veil (BC5.out.trans (bel6.mono BC5.out.size))
  have S2 := veil (same_frames f2 f3 w6 (U2.out.below BC6.out).1 (OK3.out.below bel6) (U2.out.fr.trans FR3.out.symm) (by have := U2.out.len; omega) (fun j hj => by have := U2.out.lens j hj; omega))
  clear bel6 S1 TW5 OW5 BB5 BC5 OK3 FR3 B5
  go_wp2_with fail
  refine S2.out.mono ?_
  rintro x7 w7 ⟨rfl, bel7⟩
  have B7 := veil (B6.out.trans (bel7.mono B6.out.size))
  have TW7 := veil (TW6.out.below bel7)
  have OW7 := veil (own_belowK OW6.out bel7)
  have sz7 := bel7.size
  have BB7 := veil (BB6.out.trans (bel7.mono BB6.out.size))
  have BC7 := veil (BC6.out.trans (bel7.mono BC6.out.size))
  have LF := veil (left_sl s g w7 (HS.out.below B7.out) (by omega) TW7.out)
  clear bel7 S2 TW6 OW6 BB6 BC6 B6
  go_wp2_with fail
  refine LF.out.mono ?_
  rintro x8 w8 ⟨rfl, bel8⟩
  have B8 := veil (B7.out.trans (bel8.mono B7.out.size))
  have OW8 := veil (own_belowK OW7.out bel8)
  have sz8 := bel8.size
  have BB8 := veil (BB7.out.trans (bel8.mono BB7.out.size))
  have BC8 := veil (BC7.out.trans (bel8.mono BC7.out.size))
  clear bel8 LF TW7 OW7 BB7 BC7 B7
  have KN := veil (Ba.K3.new w.heap.size w w8 51 B8.out.size B8.out)
  have OLD0 := veil (show ∀ b, b < w8.heap.size → (w8.alloc (.cells #[.int .i64 0, .slice none 0 0, .slice none 0 0, .slice none 0 0, .slice none 0 0, .slice none 0 0, .slice none 0 0, .slice none 0 0, .slice none 0 0, .slice none 0 0, .slice none 0 0, .slice none 0 0, .slice none 0 0] 51)).heap[b]? = w8.heap[b]? from fun b hb => ((Below.refl w8.heap.size w8).alloc (Nat.le_refl _) _).block b hb)
  have hg := (OW8.out.lt g rfl).1
  have hg2 : g < w2.heap.size := TWL.out
  have HB := veil (KN.out.bytes (Nat.lt_succ_self _) (some ⟨g, 0, none⟩) s.len (s.len + 1) w2.heap.size _ (by omega) (own_lowK (own_belowK OW8.out ((Below.refl w8.heap.size w8).alloc (Nat.le_refl _) _)) (by omega)) (fun k e => by have q : g = k := Option.some.inj e; exact ⟨Nat.zero_le _, by omega, by omega⟩) (Nat.zero_le _) (by omega))
  clear KN OW8
  go_wp2_with fail
  refine HB.out.mono ?_
  rintro x9 w9 ⟨rfl, k9, old9⟩
  have SM9 := veil (show ∀ b, b < w8.heap.size → w9.heap[b]? = w8.heap[b]? from fun b hb => (old9.block b (by simp; omega) (.inl hb)).trans (OLD0.out b hb))
  have l1 := U1.out.len
  have l2 := U2.out.len
  obtain ⟨ok1, ow1, ea1⟩ := U1.out.below BB8.out
  obtain ⟨ok2, ow2, ea2⟩ := U2.out.below BC8.out
  have HF1 := veil ((k9.up (Mr' := w2.heap.size) (Mf' := w2.heap.size) (Nat.le_refl _) (Nat.zero_le _) (Nat.zero_le _)).framesN k9.lt f1.a f1.len f1.cap f1.l (own_lowK ow1 (by omega)) (fun F hF => (ea1 F hF).low (by omega)) U1.out.apt rfl SM9.out w3.heap.size (by omega) (fun F hF p hp => blks_new (U1.out.each F hF) hp) sz3 (fun k e => U1.out.own.lt k e) sz3 (by omega) (fun j hj => by have := U1.out.lens j hj; omega))
  have OW2f := veil (own_lowK ow2 (show w.heap.size ≤ w3.heap.size by omega))
  have EA2 := veil (show ∀ F ∈ f2.l, FrNew w.heap.size w8 F from fun F hF => (ea2 F hF).low (by omega))
  clear k9 old9 ok1 ow1 ea1 ok2 ow2 ea2 HB OLD0
  go_wp2_with fail
  refine HF1.out.mono ?_
  rintro x10 w10 ⟨rfl, ⟨H10, hB10, k10⟩, hz10, same10⟩
  have SM10 := veil (show ∀ b, b < w8.heap.size → w10.heap[b]? = w8.heap[b]? from fun b hb => (same10 b hb).trans (SM9.out b hb))
  have HF2 := veil (k10.framesN hB10 f2.a f2.len f2.cap f2.l OW2f.out EA2.out U2.out.apt rfl SM10.out w4.heap.size (by omega) (fun F hF p hp => blks_new (U2.out.each F hF) hp) sz4 (fun k e => U2.out.own.lt k e) sz4 (by omega) (fun j hj => by have := U2.out.lens j hj; omega))
  clear k10 same10 HF1
  go_wp2_with fail
  refine HF2.out.mono ?_
  rintro x11 w11 ⟨rfl, ⟨H11, hB11, k11⟩, hz11, same11⟩
  have HAP := veil (k11.apart (by omega))
  clear k11 same11 HF2
  go_wp2_with fail
  refine HAP.out.mono ?_
  rintro x12 w12 ⟨rfl, hb12⟩
  go_wp2_with fail
  go_ret
  exact ⟨rfl, hb12⟩
end Go.Proofs.YtimhbjlmpojhoaaGreatDoor
