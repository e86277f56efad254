/-
  FrameJoins, walked.
-/
import Derived.Test.YtjhgelhdhdcmfaaDoorGfFrAliveW
import Derived.Test.YtjhgelhdhdcmfaaDoorGfFrPutL
import Derived.Test.YtjhgelhdhdcmfaaDoorGfFrJoinsP
import Derived.Test.YtjhgelhdhdcmfaaDoorGf10
namespace Go.Proofs.YtjhgelhdhdcmfaaDoor
open Go Go.RowKit

/-- frame.Put, with the row that it answers. -/
theorem put_row7 (s : FS) (w : World) (hs : s.Ok w) (hl : s.len ≤ 8388608) (hd : ∀ j, j < s.len → (gf s.l j).data.len ≤ 4000000) (hL : Lens w) (hN : Named w) :
    Calls Tryd.prog 10 #[.slice s.a s.len s.cap] w fun e w' => (∃ q : SL, q.Ok w' ∧ RowK w.heap.size q.b w' (.slice q.a q.len q.cap) ∧ e = .returned (.tuple #[.slice q.a q.len q.cap, .int .i64 (putE s.fr : Int)]) ∧ ((putE s.fr = 0 ∧ q.b = Fr.putAll s.fr ∧ (∀ f ∈ s.fr, Fr.mayF f) ∧ Fr.sepL false s.fr) ∨ putE s.fr = 1 ∨ putE s.fr = 3) ∧ q.len ≤ 1048576) ∧ Below w.heap.size w w' := by
  refine (fr_put s w hs hl hd hL hN).mono ?_
  rintro e w' ⟨v, rfl, hrow, hb⟩
  obtain ⟨q, rfl, hl', hsb, hok, ht⟩ := SL.of_row hrow
  refine ⟨⟨q, hok, by rw [hsb]; exact hrow, rfl, ?_, ?_⟩, hb⟩
  · rcases putE_cases s.fr with ⟨h0, h1, h2, h3, _, _⟩ | ⟨h0, _⟩
    · exact .inl ⟨h0, by rw [hsb, h1], h2, h3⟩
    · exact .inr h0
  rw [hl']
  rcases putE_cases s.fr with ⟨_, h1, _, _, _, h5⟩ | ⟨_, h1⟩
  · rw [h1]; exact h5
  · rw [h1]; exact Nat.zero_le _
/-- Frames one behind the other, no padding meeting another one. -/
theorem sep_first : ∀ (m : List Fr.Frame) (p p' : Bool), Fr.sepL p m → (∀ f, m.head? = some f → f.kind ≠ 1) → Fr.sepL p' m
  | [], _, _, _, _ => trivial
  | f :: _, _, _, h, hk => ⟨fun e => hk f rfl e.2, h.2⟩
theorem fr_last7 (s : FS) (n : Nat) (h : s.l.length = n + 1) : ∃ l, s.fr = l ++ [(gf s.l n).fr] := by
  obtain ⟨a, len, cap, g, off, L⟩ := s
  simp only at h
  rcases List.eq_nil_or_concat L with h0 | ⟨l, F, h0⟩
  · rw [h0] at h; cases h
  · refine ⟨l.map FrM.fr, ?_⟩
    have h1 : l.length = n := by
      rw [h0] at h
      simpa using h
    show L.map FrM.fr = _ ++ [(gf L n).fr]
    rw [h0]
    unfold gf
    rw [← h1]
    simp
theorem fr_head7 (z : FS) (f : Fr.Frame) (h : z.fr.head? = some f) : (gf z.l 0).fr = f := by
  obtain ⟨a, len, cap, g, off, L⟩ := z
  cases L with
  | nil => cases h
  | cons F L => exact Option.some.inj h
theorem sep_join : ∀ (l m : List Fr.Frame) (p : Bool), Fr.sepL p l → Fr.sepL (match l.getLast? with | none => p | some g => g.kind == 1) m → Fr.sepL p (l ++ m)
  | [], m, p, _, h => h
  | f :: l, m, p, h1, h2 => by
    refine ⟨h1.1, sep_join l m _ h1.2 ?_⟩
    cases l with
    | nil => exact h2
    | cons g l =>
      rw [List.getLast?_cons_cons] at h2
      cases hx : (g :: l).getLast? with
      | none => simp at hx
      | some y => rw [hx] at h2; exact h2

set_option maxRecDepth 20000 in
set_option maxHeartbeats 400000 in
theorem joins_walk (s z : FS) (w : World) (hs : s.Ok w) (hl : s.len ≤ 140737488355328) (hd : ∀ j, j < s.len → (gf s.l j).data.len ≤ 140737488355328 ∧ (gf s.l j).ranges.len ≤ 140737488355328) (hz : z.Ok w) (hlz : z.len ≤ 140737488355328) (hdz : ∀ j, j < z.len → (gf z.l j).data.len ≤ 140737488355328 ∧ (gf z.l j).ranges.len ≤ 140737488355328) (hL : Lens w) (hN : Named w) :
    Calls Tryd.prog 5 #[.slice s.a s.len s.cap, .slice z.a z.len z.cap] w fun e w' => e = .returned (.bool true) ∧ Below w.heap.size w w' := by
  obtain ⟨i0, hi, hz0, hz1, hz2⟩ := info_parts Tryd.infoByteV
  have HS := veil hs
  have HD := veil hd
  have HZ := veil hz
  have HDZ := veil hdz
  have HL := veil hL
  have HN := veil hN
  clear hs hd hz hdz hL hN
  go_enter Tryd.func5, Tryd.ntmps5
  go_wp2_with fail
  refine (alive_any w HL.out HN.out).mono ?_
  rintro e1 w1 ⟨rfl, bel1⟩
  have B1 := veil bel1
  clear bel1
  go_wp2_with fail
  refine (frames_size s w1 (HS.out.below B1.out) hl HD.out).mono ?_
  rintro e2 w2 ⟨⟨N, rfl, hN1, hN2⟩, bel2⟩
  have B2 := veil (B1.out.trans (bel2.mono B1.out.size))
  have HN2 := veil hN2
  clear bel2 hN2 B1
  go_wp2_with fail
  refine (frames_size z w2 (HZ.out.below B2.out) hlz HDZ.out).mono ?_
  rintro e2' w2' ⟨⟨M, rfl, hM1, hM2⟩, bel2⟩
  have B2' := veil (B2.out.trans (bel2.mono B2.out.size))
  have HM2 := veil hM2
  clear bel2 hM2 B2
  go_wp2_with fail
  refine (beyond_two w2' N M hN1 hM1).mono ?_
  rintro e3 W3 ⟨⟨b, rfl, hb⟩, bel3⟩
  have B3 := veil (B2'.out.trans (bel3.mono B2'.out.size))
  clear bel3 B2'
  cases b
  · have hN3 := HN2.out (hb rfl).1
    have hM3 := HM2.out (hb rfl).2
    have HD3 := veil hN3.2
    have HDZ3 := veil hM3.2
    have hl3 := hN3.1
    have hlz3 := hM3.1
    clear hb HN2 HM2 hN3 hM3 hN1 hM1 HD HDZ
    go_wp2_with fail
    refine (put_row7 s W3 (HS.out.below B3.out) (by omega) (fun j hj => by have := (HD3.out j hj).1; omega) (HL.out.step B3.out) (HN.out.step B3.out)).mono ?_
    rintro e4 w4 ⟨⟨q, hqo, hqr, rfl, hq, hql⟩, bel4⟩
    have B4 := veil (B3.out.trans (bel4.mono B3.out.size))
    have Q4 := veil hqo
    have R4 := veil (show w4.ownsRow W3.heap.size 5 1 (.slice q.a q.len q.cap) q.b.length (vb q.b) from hqr)
    have hb4 : W3.heap.size ≤ w4.heap.size := bel4.size
    clear bel4 hqo hqr
    have FQ := veil hq
    clear hq
    generalize hE1 : putE s.fr = E1 at FQ
    go_wp2_with fail
    refine (put_row7 z w4 (HZ.out.below B4.out) (by omega) (fun j hj => by have := (HDZ3.out j hj).1; omega) (HL.out.step B4.out) (HN.out.step B4.out)).mono ?_
    rintro e5 w5 ⟨⟨y, hyo, _, rfl, hy, hyl⟩, bel5⟩
    have B5 := veil (B4.out.trans (bel5.mono B4.out.size))
    have Q5 := veil (Q4.out.below bel5)
    have Y5 := veil hyo
    have R5 := veil (show w5.ownsRow W3.heap.size 5 1 (.slice q.a q.len q.cap) q.b.length (vb q.b) from own_below R4.out bel5)
    have hb5 : W3.heap.size ≤ w5.heap.size := Nat.le_trans hb4 bel5.size
    have S5 := veil (HS.out.below B5.out)
    have Z5 := veil (HZ.out.below B5.out)
    clear bel5 hyo Q4 R4 B4 hb4 hE1
    generalize putE z.fr = E2 at hy ⊢
    rcases FQ.out with ⟨rfl, fq⟩ | rfl | rfl
    · rcases hy with ⟨rfl, fy⟩ | rfl | rfl
      · clear FQ
        have FQ := veil fq
        have FY := veil fy
        clear fq fy
        have u1 : IntKind.i64.wrap ((s.len : Int) + (z.len : Int)) = (s.len : Int) + (z.len : Int) := by rw [IntKind.wrap_i64]; omega
        by_cases many : 1024 < s.len + z.len
        · have f1 : decide ((1024 : Int) < (s.len : Int) + (z.len : Int)) = true := decide_eq_true (by omega)
          go_wp2_with fail
          go_ret
          exact ⟨rfl, B5.out⟩
        have f1 : decide ((1024 : Int) < (s.len : Int) + (z.len : Int)) = false := decide_eq_false (by omega)
        have u2 : IntKind.i64.wrap ((q.len : Int) + (y.len : Int)) = (q.len : Int) + (y.len : Int) := by rw [IntKind.wrap_i64]; omega
        by_cases long : 1000000 < q.len + y.len
        · have f2 : decide ((1000000 : Int) < (q.len : Int) + (y.len : Int)) = true := decide_eq_true (by omega)
          go_wp2_with fail
          go_ret
          exact ⟨rfl, B5.out⟩
        have f2 : decide ((1000000 : Int) < (q.len : Int) + (y.len : Int)) = false := decide_eq_false (by omega)
        have hqy : q.b.length + y.len ≤ 8388608 := by have := Q5.out.hb; omega
        by_cases p0 : s.len = 0
        · have g0 : decide ((0 : Int) < (s.len : Int)) = false := decide_eq_false (by omega)
          have g0n : decide (0 < s.len) = false := decide_eq_false (by omega)
          have SEP := veil (show Fr.sepL false (s.fr ++ z.fr) by
            have : s.fr = [] := by rw [FS.fr, List.eq_nil_of_length_eq_zero (HS.out.hb.trans p0)]; rfl
            rw [this]
            exact FY.out.2.2)
          clear p0
          have HG := veil (show Fr.getAll (q.b ++ y.b) = .ok (s.fr ++ z.fr) by
            have hl1 := Q5.out.hb
            have hl2 := Y5.out.hb
            rw [FQ.out.1, FY.out.1] at *
            rw [← Fr.putAll_append]
            refine Fr.get_put _ (fun f hf => (List.mem_append.1 hf).elim (FQ.out.2.1 f) (FY.out.2.1 f)) SEP.out ?_ ?_
            · rw [List.length_append, FS.fr, FS.fr, List.length_map, List.length_map, HS.out.hb, HZ.out.hb]; omega
            · rw [Fr.putAll_append, List.length_append]; omega)
          go_wp2_with (first
            | (with_reducible (show wpList _ _ _ (⟨some 82, Op.call _, _, _, _, _⟩ :: _) _ _)
               refine append_fs rfl _ _ rfl w5.heap.size _ 0 [] rfl (World.ownsRow_nil _ _ _ _) s S5.out (by first | rfl | (rw [HA.out]; rfl)) (by omega) (Nat.le_refl _) ?_
               intro v6 w6 hown6 hgrow6
               have O6 := veil hown6
               have B56 := veil ((Below.refl _ w5).grown hgrow6 (Nat.le_refl _) (fun k e => by cases e))
               have Z6 := veil (Z5.out.below B56.out)
               have hb6 : w5.heap.size ≤ w6.heap.size := B56.out.size
               clear hown6 hgrow6)
            | (with_reducible (show wpList _ _ _ (⟨some 85, Op.call _, _, _, _, _⟩ :: _) _ _)
               refine append_fs rfl _ _ rfl w5.heap.size v6 (0 + s.len) ([] ++ s.l) rfl O6.out z Z6.out (by first | rfl | (rw [HZA.out]; rfl)) (by omega) hb6 ?_
               intro v7 w7 hown7 hgrow7
               have O7 := veil hown7
               have B57 := veil (B56.out.grown hgrow7 B56.out.size (fun k e => (O6.out.lt k e).1))
               have R7 := veil (show w7.ownsRow W3.heap.size 5 1 (.slice q.a q.len q.cap) q.b.length (vb q.b) from own_below R5.out B57.out)
               have Y7 := veil (Y5.out.below B57.out)
               have hb7 : W3.heap.size ≤ w7.heap.size := Nat.le_trans hb5 B57.out.size
               clear hown7 hgrow7)
            | (with_reducible (show wpList _ _ _ (⟨some 89, Op.call _, _, _, _, _⟩ :: _) _ _)
               refine append_sl rfl _ _ 26 rfl W3.heap.size i0 Tryd.underlying26 hi hz0 hz1 hz2 _ q.b.length q.b rfl R7.out y Y7.out rfl hqy hb7 ?_
               intro v8 w8 hown8 hgrow8
               obtain ⟨sA, rfl, hAl, hAb, hAok, hAt⟩ := SL.of_row (L := q.b ++ y.b) (show RowK W3.heap.size (q.b ++ y.b) w8 v8 by unfold RowK; rw [List.length_append, Y7.out.hb]; exact hown8)
               have O8 := veil (O7.out.kept hgrow8 (own_apart7 O7.out R7.out))
               have B8 := veil ((B5.out.trans (B57.out.mono B5.out.size)).grown hgrow8 (Nat.le_trans B3.out.size hb7) (fun k e => Nat.le_trans B3.out.size (R7.out.lt k e).1))
               have SA := veil (show sA.Ok w8 ∧ sA.Told ∧ sA.b = q.b ++ y.b from ⟨hAok, hAt, hAb⟩)
               clear hown8 hgrow8 hAl hAb hAok hAt))
          refine (get_any7 sA w8 SA.out.1 (fun _ => SA.out.2.1) (HL.out.step B8.out)).mono ?_
          rintro x9 w9 ⟨hp9, bel9⟩
          have B9 := veil (B8.out.trans (bel9.mono B8.out.size))
          have O9 := veil (O8.out.kept (row := none) ⟨bel9.os, bel9.tape, bel9.output, bel9.size, fun k hk _ => bel9.block k hk⟩ (Classical.em _))
          clear bel9
          rcases hp9 with ⟨e, h1, _⟩ | ⟨fs, h1, rfl, h3, ⟨h4, h5⟩, _⟩
          · exfalso
            rw [SA.out.2.2, HG.out] at h1
            cases h1
          · have hE : s.fr ++ z.fr = fs.fr := by rw [SA.out.2.2, HG.out] at h1; injection h1
            obtain ⟨fJ, rfl, hJok, hJl⟩ := fs_own2 (Fs := [] ++ s.l ++ z.l) (n := 0 + s.len + z.len) (by rw [List.length_append, List.length_append, HS.out.hb, HZ.out.hb]; rfl) O9.out (fun F hF => (List.mem_append.1 hF).elim (fun h => fr_mem_ok HS.out B9.out F (by simpa using h)) (fr_mem_ok HZ.out B9.out F))
            have SAME := veil (same_frames fs fJ w9 h3 hJok (by rw [← hE, FS.fr, FS.fr, FS.fr, hJl, List.nil_append, List.map_append]) (by omega) (fun j hj => by have := h5 j hj; omega))
            clear h1 h3 h4 h5 hE hJok hJl
            go_wp2_with fail
            refine SAME.out.mono ?_
            rintro e10 w10 ⟨rfl, bel10⟩
            have B10 := veil (B9.out.trans (bel10.mono B9.out.size))
            clear bel10
            go_wp2_with fail
            go_ret
            exact ⟨rfl, B10.out⟩
        have g0 : decide ((0 : Int) < (s.len : Int)) = true := decide_eq_true (by omega)
        have g0n : decide (0 < s.len) = true := decide_eq_true (by omega)
        by_cases p1 : z.len = 0
        · have g1 : decide ((0 : Int) < (z.len : Int)) = false := decide_eq_false (by omega)
          have g1n : decide (0 < z.len) = false := decide_eq_false (by omega)
          have SEP := veil (show Fr.sepL false (s.fr ++ z.fr) by
            have : z.fr = [] := by rw [FS.fr, List.eq_nil_of_length_eq_zero (HZ.out.hb.trans p1)]; rfl
            rw [this, List.append_nil]
            exact FQ.out.2.2)
          clear p1
          have HG := veil (show Fr.getAll (q.b ++ y.b) = .ok (s.fr ++ z.fr) by
            have hl1 := Q5.out.hb
            have hl2 := Y5.out.hb
            rw [FQ.out.1, FY.out.1] at *
            rw [← Fr.putAll_append]
            refine Fr.get_put _ (fun f hf => (List.mem_append.1 hf).elim (FQ.out.2.1 f) (FY.out.2.1 f)) SEP.out ?_ ?_
            · rw [List.length_append, FS.fr, FS.fr, List.length_map, List.length_map, HS.out.hb, HZ.out.hb]; omega
            · rw [Fr.putAll_append, List.length_append]; omega)
          go_wp2_with (first
            | (with_reducible (show wpList _ _ _ (⟨some 82, Op.call _, _, _, _, _⟩ :: _) _ _)
               refine append_fs rfl _ _ rfl w5.heap.size _ 0 [] rfl (World.ownsRow_nil _ _ _ _) s S5.out (by first | rfl | (rw [HA.out]; rfl)) (by omega) (Nat.le_refl _) ?_
               intro v6 w6 hown6 hgrow6
               have O6 := veil hown6
               have B56 := veil ((Below.refl _ w5).grown hgrow6 (Nat.le_refl _) (fun k e => by cases e))
               have Z6 := veil (Z5.out.below B56.out)
               have hb6 : w5.heap.size ≤ w6.heap.size := B56.out.size
               clear hown6 hgrow6)
            | (with_reducible (show wpList _ _ _ (⟨some 85, Op.call _, _, _, _, _⟩ :: _) _ _)
               refine append_fs rfl _ _ rfl w5.heap.size v6 (0 + s.len) ([] ++ s.l) rfl O6.out z Z6.out (by first | rfl | (rw [HZA.out]; rfl)) (by omega) hb6 ?_
               intro v7 w7 hown7 hgrow7
               have O7 := veil hown7
               have B57 := veil (B56.out.grown hgrow7 B56.out.size (fun k e => (O6.out.lt k e).1))
               have R7 := veil (show w7.ownsRow W3.heap.size 5 1 (.slice q.a q.len q.cap) q.b.length (vb q.b) from own_below R5.out B57.out)
               have Y7 := veil (Y5.out.below B57.out)
               have hb7 : W3.heap.size ≤ w7.heap.size := Nat.le_trans hb5 B57.out.size
               clear hown7 hgrow7)
            | (with_reducible (show wpList _ _ _ (⟨some 89, Op.call _, _, _, _, _⟩ :: _) _ _)
               refine append_sl rfl _ _ 26 rfl W3.heap.size i0 Tryd.underlying26 hi hz0 hz1 hz2 _ q.b.length q.b rfl R7.out y Y7.out rfl hqy hb7 ?_
               intro v8 w8 hown8 hgrow8
               obtain ⟨sA, rfl, hAl, hAb, hAok, hAt⟩ := SL.of_row (L := q.b ++ y.b) (show RowK W3.heap.size (q.b ++ y.b) w8 v8 by unfold RowK; rw [List.length_append, Y7.out.hb]; exact hown8)
               have O8 := veil (O7.out.kept hgrow8 (own_apart7 O7.out R7.out))
               have B8 := veil ((B5.out.trans (B57.out.mono B5.out.size)).grown hgrow8 (Nat.le_trans B3.out.size hb7) (fun k e => Nat.le_trans B3.out.size (R7.out.lt k e).1))
               have SA := veil (show sA.Ok w8 ∧ sA.Told ∧ sA.b = q.b ++ y.b from ⟨hAok, hAt, hAb⟩)
               clear hown8 hgrow8 hAl hAb hAok hAt))
          refine (get_any7 sA w8 SA.out.1 (fun _ => SA.out.2.1) (HL.out.step B8.out)).mono ?_
          rintro x9 w9 ⟨hp9, bel9⟩
          have B9 := veil (B8.out.trans (bel9.mono B8.out.size))
          have O9 := veil (O8.out.kept (row := none) ⟨bel9.os, bel9.tape, bel9.output, bel9.size, fun k hk _ => bel9.block k hk⟩ (Classical.em _))
          clear bel9
          rcases hp9 with ⟨e, h1, _⟩ | ⟨fs, h1, rfl, h3, ⟨h4, h5⟩, _⟩
          · exfalso
            rw [SA.out.2.2, HG.out] at h1
            cases h1
          · have hE : s.fr ++ z.fr = fs.fr := by rw [SA.out.2.2, HG.out] at h1; injection h1
            obtain ⟨fJ, rfl, hJok, hJl⟩ := fs_own2 (Fs := [] ++ s.l ++ z.l) (n := 0 + s.len + z.len) (by rw [List.length_append, List.length_append, HS.out.hb, HZ.out.hb]; rfl) O9.out (fun F hF => (List.mem_append.1 hF).elim (fun h => fr_mem_ok HS.out B9.out F (by simpa using h)) (fr_mem_ok HZ.out B9.out F))
            have SAME := veil (same_frames fs fJ w9 h3 hJok (by rw [← hE, FS.fr, FS.fr, FS.fr, hJl, List.nil_append, List.map_append]) (by omega) (fun j hj => by have := h5 j hj; omega))
            clear h1 h3 h4 h5 hE hJok hJl
            go_wp2_with fail
            refine SAME.out.mono ?_
            rintro e10 w10 ⟨rfl, bel10⟩
            have B10 := veil (B9.out.trans (bel10.mono B9.out.size))
            clear bel10
            go_wp2_with fail
            go_ret
            exact ⟨rfl, B10.out⟩
        have g1 : decide ((0 : Int) < (z.len : Int)) = true := decide_eq_true (by omega)
        have g1n : decide (0 < z.len) = true := decide_eq_true (by omega)
        have ha : s.a = some ⟨s.g, s.off, none⟩ := HS.out.at_ (by omega)
        have hza : z.a = some ⟨z.g, z.off, none⟩ := HZ.out.at_ (by omega)
        have HA := veil ha
        have HZA := veil hza
        have hk1 : (s.len : Int) - 1 = ((s.len - 1 : Nat) : Int) := by omega
        have hkw : IntKind.i64.wrap ((s.len - 1 : Nat) : Int) = ((s.len - 1 : Nat) : Int) := by rw [IntKind.wrap_i64]; omega
        have hlt : s.len - 1 < s.len := by omega
        have hlt0 : 0 < z.len := by omega
        have hcs : w5.cell? ⟨s.g, s.off + (s.len - 1) * 8, none⟩ = some (.int .u8 ((gf s.l (s.len - 1)).kind : Int)) := S5.out.cell (s.len - 1) hlt 0 _ rfl
        have hcz : w5.cell? ⟨z.g, z.off, none⟩ = some (.int .u8 ((gf z.l 0).kind : Int)) := by
          have := Z5.out.cell 0 hlt0 0 _ rfl
          simpa using this
        obtain ⟨l0, hl0⟩ := fr_last7 s (s.len - 1) (by rw [HS.out.hb]; omega)
        have SK := veil (show (gf s.l (s.len - 1)).kind ≠ 1 → Fr.sepL false (s.fr ++ z.fr) from fun h => sep_join s.fr z.fr false FQ.out.2.2 (by
          rw [hl0, List.getLast?_concat]
          show Fr.sepL ((gf s.l (s.len - 1)).fr.kind == 1) z.fr
          rw [show ((gf s.l (s.len - 1)).fr.kind == 1) = false by simpa [FrM.fr] using h]
          exact FY.out.2.2))
        have SJ := veil (show (gf z.l 0).kind ≠ 1 → Fr.sepL false (s.fr ++ z.fr) from fun h => sep_join s.fr z.fr false FQ.out.2.2 (sep_first z.fr false _ FY.out.2.2 (fun f hf e => h (by rw [← fr_head7 z f hf] at e; exact e))))
        clear hl0
        generalize (gf s.l (s.len - 1)).kind = K at hcs SK
        generalize (gf z.l 0).kind = J at hcz SJ
        rw [ha, hza]
        by_cases k1 : K = 1
        · subst k1
          by_cases j1 : J = 1
          · subst j1
            go_wp2_with fail
            go_ret
            exact ⟨rfl, B5.out⟩
          · have gj : ((J : Int) == 1) = false := by simp; omega
            have SEP := veil (SJ.out j1)
            clear ha hza
            have HG := veil (show Fr.getAll (q.b ++ y.b) = .ok (s.fr ++ z.fr) by
              have hl1 := Q5.out.hb
              have hl2 := Y5.out.hb
              rw [FQ.out.1, FY.out.1] at *
              rw [← Fr.putAll_append]
              refine Fr.get_put _ (fun f hf => (List.mem_append.1 hf).elim (FQ.out.2.1 f) (FY.out.2.1 f)) SEP.out ?_ ?_
              · rw [List.length_append, FS.fr, FS.fr, List.length_map, List.length_map, HS.out.hb, HZ.out.hb]; omega
              · rw [Fr.putAll_append, List.length_append]; omega)
            go_wp2_with (first
              | (with_reducible (show wpList _ _ _ (⟨some 82, Op.call _, _, _, _, _⟩ :: _) _ _)
                 refine append_fs rfl _ _ rfl w5.heap.size _ 0 [] rfl (World.ownsRow_nil _ _ _ _) s S5.out (by first | rfl | (rw [HA.out]; rfl)) (by omega) (Nat.le_refl _) ?_
                 intro v6 w6 hown6 hgrow6
                 have O6 := veil hown6
                 have B56 := veil ((Below.refl _ w5).grown hgrow6 (Nat.le_refl _) (fun k e => by cases e))
                 have Z6 := veil (Z5.out.below B56.out)
                 have hb6 : w5.heap.size ≤ w6.heap.size := B56.out.size
                 clear hown6 hgrow6)
              | (with_reducible (show wpList _ _ _ (⟨some 85, Op.call _, _, _, _, _⟩ :: _) _ _)
                 refine append_fs rfl _ _ rfl w5.heap.size v6 (0 + s.len) ([] ++ s.l) rfl O6.out z Z6.out (by first | rfl | (rw [HZA.out]; rfl)) (by omega) hb6 ?_
                 intro v7 w7 hown7 hgrow7
                 have O7 := veil hown7
                 have B57 := veil (B56.out.grown hgrow7 B56.out.size (fun k e => (O6.out.lt k e).1))
                 have R7 := veil (show w7.ownsRow W3.heap.size 5 1 (.slice q.a q.len q.cap) q.b.length (vb q.b) from own_below R5.out B57.out)
                 have Y7 := veil (Y5.out.below B57.out)
                 have hb7 : W3.heap.size ≤ w7.heap.size := Nat.le_trans hb5 B57.out.size
                 clear hown7 hgrow7)
              | (with_reducible (show wpList _ _ _ (⟨some 89, Op.call _, _, _, _, _⟩ :: _) _ _)
                 refine append_sl rfl _ _ 26 rfl W3.heap.size i0 Tryd.underlying26 hi hz0 hz1 hz2 _ q.b.length q.b rfl R7.out y Y7.out rfl hqy hb7 ?_
                 intro v8 w8 hown8 hgrow8
                 obtain ⟨sA, rfl, hAl, hAb, hAok, hAt⟩ := SL.of_row (L := q.b ++ y.b) (show RowK W3.heap.size (q.b ++ y.b) w8 v8 by unfold RowK; rw [List.length_append, Y7.out.hb]; exact hown8)
                 have O8 := veil (O7.out.kept hgrow8 (own_apart7 O7.out R7.out))
                 have B8 := veil ((B5.out.trans (B57.out.mono B5.out.size)).grown hgrow8 (Nat.le_trans B3.out.size hb7) (fun k e => Nat.le_trans B3.out.size (R7.out.lt k e).1))
                 have SA := veil (show sA.Ok w8 ∧ sA.Told ∧ sA.b = q.b ++ y.b from ⟨hAok, hAt, hAb⟩)
                 clear hown8 hgrow8 hAl hAb hAok hAt))
            refine (get_any7 sA w8 SA.out.1 (fun _ => SA.out.2.1) (HL.out.step B8.out)).mono ?_
            rintro x9 w9 ⟨hp9, bel9⟩
            have B9 := veil (B8.out.trans (bel9.mono B8.out.size))
            have O9 := veil (O8.out.kept (row := none) ⟨bel9.os, bel9.tape, bel9.output, bel9.size, fun k hk _ => bel9.block k hk⟩ (Classical.em _))
            clear bel9
            rcases hp9 with ⟨e, h1, _⟩ | ⟨fs, h1, rfl, h3, ⟨h4, h5⟩, _⟩
            · exfalso
              rw [SA.out.2.2, HG.out] at h1
              cases h1
            · have hE : s.fr ++ z.fr = fs.fr := by rw [SA.out.2.2, HG.out] at h1; injection h1
              obtain ⟨fJ, rfl, hJok, hJl⟩ := fs_own2 (Fs := [] ++ s.l ++ z.l) (n := 0 + s.len + z.len) (by rw [List.length_append, List.length_append, HS.out.hb, HZ.out.hb]; rfl) O9.out (fun F hF => (List.mem_append.1 hF).elim (fun h => fr_mem_ok HS.out B9.out F (by simpa using h)) (fr_mem_ok HZ.out B9.out F))
              have SAME := veil (same_frames fs fJ w9 h3 hJok (by rw [← hE, FS.fr, FS.fr, FS.fr, hJl, List.nil_append, List.map_append]) (by omega) (fun j hj => by have := h5 j hj; omega))
              clear h1 h3 h4 h5 hE hJok hJl
              go_wp2_with fail
              refine SAME.out.mono ?_
              rintro e10 w10 ⟨rfl, bel10⟩
              have B10 := veil (B9.out.trans (bel10.mono B9.out.size))
              clear bel10
              go_wp2_with fail
              go_ret
              exact ⟨rfl, B10.out⟩
        · have gk : ((K : Int) == 1) = false := by simp; omega
          have SEP := veil (SK.out k1)
          clear ha hza
          have HG := veil (show Fr.getAll (q.b ++ y.b) = .ok (s.fr ++ z.fr) by
            have hl1 := Q5.out.hb
            have hl2 := Y5.out.hb
            rw [FQ.out.1, FY.out.1] at *
            rw [← Fr.putAll_append]
            refine Fr.get_put _ (fun f hf => (List.mem_append.1 hf).elim (FQ.out.2.1 f) (FY.out.2.1 f)) SEP.out ?_ ?_
            · rw [List.length_append, FS.fr, FS.fr, List.length_map, List.length_map, HS.out.hb, HZ.out.hb]; omega
            · rw [Fr.putAll_append, List.length_append]; omega)
          go_wp2_with (first
            | (with_reducible (show wpList _ _ _ (⟨some 82, Op.call _, _, _, _, _⟩ :: _) _ _)
               refine append_fs rfl _ _ rfl w5.heap.size _ 0 [] rfl (World.ownsRow_nil _ _ _ _) s S5.out (by first | rfl | (rw [HA.out]; rfl)) (by omega) (Nat.le_refl _) ?_
               intro v6 w6 hown6 hgrow6
               have O6 := veil hown6
               have B56 := veil ((Below.refl _ w5).grown hgrow6 (Nat.le_refl _) (fun k e => by cases e))
               have Z6 := veil (Z5.out.below B56.out)
               have hb6 : w5.heap.size ≤ w6.heap.size := B56.out.size
               clear hown6 hgrow6)
            | (with_reducible (show wpList _ _ _ (⟨some 85, Op.call _, _, _, _, _⟩ :: _) _ _)
               refine append_fs rfl _ _ rfl w5.heap.size v6 (0 + s.len) ([] ++ s.l) rfl O6.out z Z6.out (by first | rfl | (rw [HZA.out]; rfl)) (by omega) hb6 ?_
               intro v7 w7 hown7 hgrow7
               have O7 := veil hown7
               have B57 := veil (B56.out.grown hgrow7 B56.out.size (fun k e => (O6.out.lt k e).1))
               have R7 := veil (show w7.ownsRow W3.heap.size 5 1 (.slice q.a q.len q.cap) q.b.length (vb q.b) from own_below R5.out B57.out)
               have Y7 := veil (Y5.out.below B57.out)
               have hb7 : W3.heap.size ≤ w7.heap.size := Nat.le_trans hb5 B57.out.size
               clear hown7 hgrow7)
            | (with_reducible (show wpList _ _ _ (⟨some 89, Op.call _, _, _, _, _⟩ :: _) _ _)
               refine append_sl rfl _ _ 26 rfl W3.heap.size i0 Tryd.underlying26 hi hz0 hz1 hz2 _ q.b.length q.b rfl R7.out y Y7.out rfl hqy hb7 ?_
               intro v8 w8 hown8 hgrow8
               obtain ⟨sA, rfl, hAl, hAb, hAok, hAt⟩ := SL.of_row (L := q.b ++ y.b) (show RowK W3.heap.size (q.b ++ y.b) w8 v8 by unfold RowK; rw [List.length_append, Y7.out.hb]; exact hown8)
               have O8 := veil (O7.out.kept hgrow8 (own_apart7 O7.out R7.out))
               have B8 := veil ((B5.out.trans (B57.out.mono B5.out.size)).grown hgrow8 (Nat.le_trans B3.out.size hb7) (fun k e => Nat.le_trans B3.out.size (R7.out.lt k e).1))
               have SA := veil (show sA.Ok w8 ∧ sA.Told ∧ sA.b = q.b ++ y.b from ⟨hAok, hAt, hAb⟩)
               clear hown8 hgrow8 hAl hAb hAok hAt))
          refine (get_any7 sA w8 SA.out.1 (fun _ => SA.out.2.1) (HL.out.step B8.out)).mono ?_
          rintro x9 w9 ⟨hp9, bel9⟩
          have B9 := veil (B8.out.trans (bel9.mono B8.out.size))
          have O9 := veil (O8.out.kept (row := none) ⟨bel9.os, bel9.tape, bel9.output, bel9.size, fun k hk _ => bel9.block k hk⟩ (Classical.em _))
          clear bel9
          rcases hp9 with ⟨e, h1, _⟩ | ⟨fs, h1, rfl, h3, ⟨h4, h5⟩, _⟩
          · exfalso
            rw [SA.out.2.2, HG.out] at h1
            cases h1
          · have hE : s.fr ++ z.fr = fs.fr := by rw [SA.out.2.2, HG.out] at h1; injection h1
            obtain ⟨fJ, rfl, hJok, hJl⟩ := fs_own2 (Fs := [] ++ s.l ++ z.l) (n := 0 + s.len + z.len) (by rw [List.length_append, List.length_append, HS.out.hb, HZ.out.hb]; rfl) O9.out (fun F hF => (List.mem_append.1 hF).elim (fun h => fr_mem_ok HS.out B9.out F (by simpa using h)) (fr_mem_ok HZ.out B9.out F))
            have SAME := veil (same_frames fs fJ w9 h3 hJok (by rw [← hE, FS.fr, FS.fr, FS.fr, hJl, List.nil_append, List.map_append]) (by omega) (fun j hj => by have := h5 j hj; omega))
            clear h1 h3 h4 h5 hE hJok hJl
            go_wp2_with fail
            refine SAME.out.mono ?_
            rintro e10 w10 ⟨rfl, bel10⟩
            have B10 := veil (B9.out.trans (bel10.mono B9.out.size))
            clear bel10
            go_wp2_with fail
            go_ret
            exact ⟨rfl, B10.out⟩
      · clear FQ
        go_wp2_with fail
        go_ret
        exact ⟨rfl, B5.out⟩
      · clear FQ
        go_wp2_with fail
        go_ret
        exact ⟨rfl, B5.out⟩
    · clear FQ
      go_wp2_with fail
      go_ret
      exact ⟨rfl, B5.out⟩
    · clear FQ
      go_wp2_with fail
      go_ret
      exact ⟨rfl, B5.out⟩
  · clear hb HN2 HM2
    go_wp2_with fail
    refine (alive_any W3 (HL.out.step B3.out) (HN.out.step B3.out)).mono ?_
    rintro e4 w4 ⟨rfl, bel4⟩
    have B4 := veil (B3.out.trans (bel4.mono B3.out.size))
    clear bel4
    go_wp2_with fail
    go_ret
    exact ⟨rfl, B4.out⟩
end Go.Proofs.YtjhgelhdhdcmfaaDoor
