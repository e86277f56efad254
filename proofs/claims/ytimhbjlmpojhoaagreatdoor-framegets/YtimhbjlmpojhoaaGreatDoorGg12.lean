/-
  Out of FrReadN, FrReadD, FrReadP, FrSim, FrKind, FrRf.
-/
import Derived.Test.YtimhbjlmpojhoaaGreatDoorGgFrRead
import Derived.Deep.RegionHeld3
import Derived.Test.YtimhbjlmpojhoaaGreatDoorGg2

/-! The document's reader: number. -/
namespace Go.Proofs.YtimhbjlmpojhoaaGreatDoor
open Go Go.RowKit

set_option maxRecDepth 20000 in
set_option maxHeartbeats 4000000 in
theorem rd_number (g : Nat) (s : SL) (e : Nat) (w : World) (hr : Row w g 75 (rdC s e)) (hs : s.Ok w) (ht : s.Told) (hne : 0 < s.len → s.g ≠ g) (hl : s.len ≤ 1073741824) :
    Calls Tryz.prog 119 #[.pointer (some ⟨g, 0, none⟩)] w fun x w' => ∃ s' : SL, x = .returned (.int .u64 ((rdN s.b e).1 : Int)) ∧ s'.Ok w' ∧ s'.Told ∧ s'.b = (rdN s.b e).2.1 ∧ s'.g = s.g ∧ s'.len ≤ s.len ∧ Row w' g 75 (rdC s' (rdN s.b e).2.2) ∧ w.grownBy w' (some g) := by
  have c0 : w.cell? ⟨g, 0, none⟩ = some (.slice s.a s.len s.cap) := hr.cell 0
  have c1 : w.cell? ⟨g, 1, none⟩ = some (.int .i64 (e : Int)) := hr.cell 1
  have HR := veil hr
  have HS := veil hs
  have HT := veil ht
  have HNE := veil hne
  clear hr hs ht hne
  by_cases he : e = 0
  · subst he
    simp only [show ((0 : Nat) : Int) = 0 from rfl] at c1
    have HG := veil (ref_get s w HS.out hl)
    obtain ⟨n, k, er, so, sx, hgot, hrd, hk, hso⟩ : ∃ (n k er : Nat) (so : Bool) (sx : List By), gotN s.b = (n, k, er) ∧ rdN s.b 0 = (n, sx, er) ∧ (k ≤ s.len ∧ sx = s.b.drop k) ∧ ((er : Int) != 0) = so ∧ (so = true ↔ er ≠ 0) := by
      unfold gotN rdN
      rw [if_pos rfl]
      cases hq : Fr.getN s.b with
      | none => exact ⟨0, 0, 4, true, s.b, rfl, rfl, ⟨Nat.zero_le _, by simp⟩, rfl, by simp⟩
      | some p =>
        obtain ⟨n, k⟩ := p
        exact ⟨n, k, 0, false, s.b.drop k, rfl, rfl, ⟨by have := (Fr.getN_some hq).2.1; rw [HS.out.hb] at this; exact this, rfl⟩, rfl, by simp⟩
    have HGOT := veil hgot
    have HRD := veil hrd
    have hk1 := hk.1
    have HSX := veil hk.2
    have HSO := veil hso.2
    have hso1 := hso.1
    clear hgot hrd hk hso
    go_enter Tryz.func119, Tryz.ntmps119
    go_wp2_with fail
    refine HG.out.mono ?_
    rintro x1 w1 ⟨rfl, hw1⟩
    obtain rfl := hw1.symm
    unfold gotV
    rw [HGOT.out]
    clear HG HGOT c1 c0
    go_wp2_with fail
    refine (rd_wrong g s 0 er so w HR.out).mono ?_
    rintro x2 w2 ⟨⟨v2, rfl⟩, hr2, hg2⟩
    have e2 : (if so = true ∧ 0 = 0 then er else 0) = er := by
      cases hb : so with
      | true => rw [if_pos ⟨rfl, rfl⟩]
      | false =>
        rw [if_neg (by simp)]
        have := HSO.out
        rw [hb] at this
        by_cases h0 : er = 0
        · exact h0.symm
        · exact absurd (this.2 h0) (by simp)
    rw [e2] at hr2
    have d0 : w2.cell? ⟨g, 0, none⟩ = some (.slice s.a s.len s.cap) := hr2.cell 0
    have z0 := hr2.frozen 0
    have HR2 := veil hr2
    have HG2 := veil hg2
    clear hr2 hg2 e2
    have HCUT := veil (cutF_ok (HS.out.apart HG2.out HNE.out) HT.out k hk1)
    have HNIL := veil HS.out.nil
    go_wp2_with (with_reducible (show wpList _ _ _ (⟨some 31, Op.slice _ _ _ _ _, _, _, _, _⟩ :: _) _ _)
                 refine value_wp rfl _ (run_cutF 26 5 _ _ s k HT.out HNIL.out rfl rfl rfl Tryz.underlying26 (by kernel_rfl) hk1 _) ?_)
    go_wp2_with fail
    go_ret
    rw [HRD.out]
    refine ⟨cutF s k, rfl, ?_, HCUT.out.2.1, by rw [HCUT.out.2.2.2.1]; exact HSX.out.symm, HCUT.out.2.2.2.2, by rw [HCUT.out.2.2.1]; omega, HR2.out.set 0 _, grown_set HG2.out⟩
    exact HCUT.out.1.apart (grown_set (grown_refl _ _)) (fun p => by rw [HCUT.out.2.2.2.2]; exact HNE.out (by have := HCUT.out.2.2.1; omega))
  · have f1 : ((e : Int) != 0) = true := by simp; omega
    have hrd : rdN s.b e = (0, s.b, e) := by unfold rdN; rw [if_neg he]
    rw [hrd]
    clear he hrd
    go_enter Tryz.func119, Tryz.ntmps119
    go_wp2_with fail
    go_ret
    exact ⟨s, rfl, HS.out, HT.out, rfl, rfl, Nat.le_refl _, HR.out, grown_refl _ _⟩
end Go.Proofs.YtimhbjlmpojhoaaGreatDoor

/-! The document's reader: data. -/
namespace Go.Proofs.YtimhbjlmpojhoaaGreatDoor
open Go Go.RowKit

/-- What reading so many bytes brings about: the bytes, what is left, the error's number. -/
def rdD (n : Nat) (b : List By) (e : Nat) : List By × List By × Nat := if e = 0 then (if b.length < n then ([], b, 4) else (b.take n, b.drop n, 0)) else ([], b, e)

set_option maxRecDepth 20000 in
set_option maxHeartbeats 4000000 in
theorem rd_data (g : Nat) (s : SL) (e n : Nat) (w : World) (hr : Row w g 75 (rdC s e)) (hs : s.Ok w) (ht : s.Told) (hne : 0 < s.len → s.g ≠ g) (hl : s.len ≤ 8388608) :
    Calls Tryz.prog 146 #[.pointer (some ⟨g, 0, none⟩), .int .u64 (n : Int)] w fun x w' => ∃ (s' : SL) (v : Value), x = .returned v ∧ RowK w.heap.size (rdD n s.b e).1 w' v ∧ s'.Ok w' ∧ s'.Told ∧ s'.b = (rdD n s.b e).2.1 ∧ s'.g = s.g ∧ s'.len ≤ s.len ∧ Row w' g 75 (rdC s' (rdD n s.b e).2.2) ∧ w.grownBy w' (some g) := by
  obtain ⟨i0, hi, hz0, hz1, hz2⟩ := info_parts Tryz.infoByteV
  have c0 : w.cell? ⟨g, 0, none⟩ = some (.slice s.a s.len s.cap) := hr.cell 0
  have hwl : IntKind.u64.wrap (s.len : Int) = (s.len : Int) := by rw [IntKind.wrap_u64]; omega
  have HR := veil hr
  have HS := veil hs
  have HT := veil ht
  have HNE := veil hne
  have hgw := hr.lt
  clear hr hs ht hne
  go_enter Tryz.func146, Tryz.ntmps146
  go_wp2_with fail
  clear c0 hwl
  refine (rd_wrong g s e 4 (decide (s.len < n)) w HR.out).mono ?_
  rintro x2 w2 ⟨⟨v2, rfl⟩, hr2, hg2⟩
  have hz2' := hg2.size
  by_cases he : e = 0
  · subst he
    by_cases hn : s.len < n
    · rw [if_pos ⟨decide_eq_true hn, rfl⟩] at hr2
      have d1 : w2.cell? ⟨g, 1, none⟩ = some (.int .i64 4) := hr2.cell 1
      have HRD := veil (show rdD n s.b 0 = ([], s.b, 4) by unfold rdD; rw [if_pos rfl, if_pos (by rw [HS.out.hb]; exact hn)])
      have HR2 := veil hr2
      have HG2 := veil hg2
      clear hr2 hg2 hn
      go_wp2_with fail
      go_ret
      rw [HRD.out]
      exact ⟨s, _, rfl, World.ownsRow_nil _ _ _ _, HS.out.apart HG2.out HNE.out, HT.out, rfl, rfl, Nat.le_refl _, HR2.out, HG2.out⟩
    · rw [if_neg (fun h => hn (of_decide_eq_true h.1))] at hr2
      have d0 : w2.cell? ⟨g, 0, none⟩ = some (.slice s.a s.len s.cap) := hr2.cell 0
      have d1 : w2.cell? ⟨g, 1, none⟩ = some (.int .i64 0) := hr2.cell 1
      have HRD := veil (show rdD n s.b 0 = (s.b.take n, s.b.drop n, 0) by unfold rdD; rw [if_pos rfl, if_neg (by rw [HS.out.hb]; exact hn)])
      have hn' : n ≤ s.len := Nat.le_of_not_lt hn
      have HR2 := veil hr2
      have HG2 := veil hg2
      have HOK2 := veil (HS.out.apart HG2.out HNE.out)
      have HHD := veil (headF_ok HOK2.out n hn')
      have HNIL := veil HS.out.nil
      have HCAP := veil HS.out.hcap
      clear hr2 hg2 hn
      go_wp2_with (first
        | (with_reducible (show wpList _ _ _ (⟨some 27, Op.slice _ _ _ _ _, _, _, _, _⟩ :: _) _ _)
           refine value_wp rfl _ (run_headU 26 5 _ _ s n HT.out HNIL.out HCAP.out rfl rfl rfl Tryz.underlying26 (by kernel_rfl) hn' _) ?_)
        | (with_reducible (show wpList _ _ _ (⟨some 28, Op.call _, _, _, _, _⟩ :: _) _ _)
           refine append_sl rfl _ _ 26 rfl w.heap.size i0 Tryz.underlying26 hi hz0 hz1 hz2 (.slice none 0 0) 0 [] rfl (World.ownsRow_nil _ _ _ _) (headF s n) HHD.out rfl (show 0 + n ≤ 8388608 by omega) hz2' ?_
           intro v3 w3 hown3 hgrow3
           have hro3 : Row w3 g 75 (rdC s 0) := (hgrow3.block g HR2.out.lt (by simp [Value.ownBlock])).trans HR2.out
           have t0 : w3.cell? ⟨g, 0, none⟩ = some (.slice s.a s.len s.cap) := hro3.cell 0
           have z0 := hro3.frozen 0
           have HO3 := veil (show RowK w.heap.size (s.b.take n) w3 v3 by
             unfold RowK
             rw [List.length_take, HS.out.hb, Nat.min_eq_left hn']
             have h3 := hown3
             rw [show 0 + (headF s n).len = n from Nat.zero_add n] at h3
             exact h3)
           have HG3 := veil (show w.grownBy w3 (some g) from ⟨hgrow3.os.trans HG2.out.os, hgrow3.tape.trans HG2.out.tape, hgrow3.output.trans HG2.out.output, Nat.le_trans HG2.out.size hgrow3.size, fun k hk hk2 => (hgrow3.block k (Nat.lt_of_lt_of_le hk HG2.out.size) (by simp [Value.ownBlock])).trans (HG2.out.block k hk hk2)⟩)
           have HRO3 := veil hro3
           have HCUT := veil (cutF_ok (HS.out.apart HG3.out HNE.out) HT.out n hn')
           clear hown3 hgrow3 hro3)
        | (with_reducible (show wpList _ _ _ (⟨some 35, Op.slice _ _ _ _ _, _, _, _, _⟩ :: _) _ _)
           refine value_wp rfl _ (run_cutU 26 5 _ _ s n HT.out HNIL.out rfl rfl rfl Tryz.underlying26 (by kernel_rfl) hn' _) ?_))
      go_ret
      rw [HRD.out]
      refine ⟨cutF s n, v3, rfl, ?_, ?_, HCUT.out.2.1, HCUT.out.2.2.2.1, HCUT.out.2.2.2.2, by rw [HCUT.out.2.2.1]; omega, HRO3.out.set 0 _, grown_set HG3.out⟩
      · refine World.ownsRow.kept HO3.out (grown_set (grown_refl _ _)) ?_
        right
        intro e
        have := (HO3.out.lt g e).1
        omega
      · exact HCUT.out.1.apart (grown_set (grown_refl _ _)) (fun p => by rw [HCUT.out.2.2.2.2]; exact HNE.out (by have := HCUT.out.2.2.1; omega))
  · rw [if_neg (fun h => he h.2)] at hr2
    have d1 : w2.cell? ⟨g, 1, none⟩ = some (.int .i64 (e : Int)) := hr2.cell 1
    have f1 : ((e : Int) != 0) = true := by simp; omega
    have HRD := veil (show rdD n s.b e = ([], s.b, e) by unfold rdD; rw [if_neg he])
    have HR2 := veil hr2
    have HG2 := veil hg2
    clear hr2 hg2 he
    go_wp2_with fail
    go_ret
    rw [HRD.out]
    exact ⟨s, _, rfl, World.ownsRow_nil _ _ _ _, HS.out.apart HG2.out HNE.out, HT.out, rfl, rfl, Nat.le_refl _, HR2.out, HG2.out⟩
end Go.Proofs.YtimhbjlmpojhoaaGreatDoor

/-! The document's reader: placed. -/
namespace Go.Proofs.YtimhbjlmpojhoaaGreatDoor
open Go Go.RowKit

/-- What reading sized bytes at a place brings about. -/
def rdP (o : Nat) (b : List By) (e : Nat) : List By × List By × Nat :=
  rdD (rdN b e).1 (rdN b e).2.1 (if 4611686018427387903 < o + (rdN b e).1 ∧ (rdN b e).2.2 = 0 then 5 else (rdN b e).2.2)
theorem rdN_le (b : List By) (e : Nat) : (rdN b e).1 ≤ 4611686018427387903 := by
  unfold rdN
  split
  · cases hq : Fr.getN b with
    | none => exact Nat.zero_le _
    | some p => obtain ⟨n, k⟩ := p; exact (Fr.getN_some hq).2.2.1
  · exact Nat.zero_le _
set_option maxRecDepth 20000 in
set_option maxHeartbeats 4000000 in
theorem rd_placed (g : Nat) (s : SL) (e o : Nat) (w : World) (hr : Row w g 75 (rdC s e)) (hs : s.Ok w) (ht : s.Told) (hne : 0 < s.len → s.g ≠ g) (hl : s.len ≤ 8388608) (ho : o ≤ 4611686018427387903) :
    Calls Tryz.prog 120 #[.pointer (some ⟨g, 0, none⟩), .int .u64 (o : Int)] w fun x w' => ∃ (s' : SL) (v : Value), x = .returned v ∧ RowK w.heap.size (rdP o s.b e).1 w' v ∧ s'.Ok w' ∧ s'.Told ∧ s'.b = (rdP o s.b e).2.1 ∧ s'.g = s.g ∧ s'.len ≤ s.len ∧ Row w' g 75 (rdC s' (rdP o s.b e).2.2) ∧ w.grownBy w' (some g) := by
  have HN1 := veil (rd_number g s e w hr hs ht hne (by omega))
  have HNE := veil hne
  have hNle := rdN_le s.b e
  obtain ⟨N, eN⟩ : ∃ N, N = (rdN s.b e).1 := ⟨_, rfl⟩
  have hw : IntKind.u64.wrap ((o : Int) + (N : Int)) = ((o + N : Nat) : Int) := by rw [IntKind.wrap_u64]; omega
  have EN := veil eN
  clear hr hs ht hne
  go_enter Tryz.func120, Tryz.ntmps120
  go_wp2_with fail
  refine HN1.out.mono ?_
  rintro x1 w1 ⟨s1, rfl, ok1, to1, b1, g1, l1, r1, gr1⟩
  rw [← EN.out]
  have OK1 := veil ok1
  have TO1 := veil to1
  have B1 := veil b1
  have G1 := veil g1
  have R1 := veil r1
  have GR1 := veil gr1
  have L1 := veil l1
  clear ok1 to1 b1 g1 r1 gr1 l1 eN HN1 hNle
  go_wp2_with fail
  refine (rd_wrong g s1 (rdN s.b e).2.2 5 (decide ((4611686018427387903 : Int) < (o : Int) + (N : Int))) w1 R1.out).mono ?_
  rintro x2 w2 ⟨⟨v2, rfl⟩, hr2, hg2⟩
  have HPE := veil (show rdP o s.b e = rdD N s1.b (if decide ((4611686018427387903 : Int) < (o : Int) + (N : Int)) = true ∧ (rdN s.b e).2.2 = 0 then 5 else (rdN s.b e).2.2) by
    unfold rdP
    rw [← EN.out, B1.out]
    congr 1
    by_cases hq : 4611686018427387903 < o + N ∧ (rdN s.b e).2.2 = 0
    · rw [if_pos hq, if_pos ⟨decide_eq_true (by omega), hq.2⟩]
    · rw [if_neg hq, if_neg (fun h => hq ⟨by have := of_decide_eq_true h.1; omega, h.2⟩)])
  obtain ⟨E, eE⟩ : ∃ E, E = (if decide ((4611686018427387903 : Int) < (o : Int) + (N : Int)) = true ∧ (rdN s.b e).2.2 = 0 then 5 else (rdN s.b e).2.2) := ⟨_, rfl⟩
  rw [← eE] at hr2
  have HPE2 := veil (show rdP o s.b e = rdD N s1.b E by rw [HPE.out, eE])
  clear HPE eE
  have NE1 := veil (show 0 < s1.len → s1.g ≠ g from fun p => by rw [G1.out]; exact HNE.out (by have := L1.out; omega))
  have HDD := veil (rd_data g s1 E N w2 hr2 (OK1.out.apart hg2 NE1.out) TO1.out NE1.out (by have := L1.out; omega))
  have GR2 := veil (grown_trans GR1.out hg2)
  clear hr2 hg2
  go_wp2_with fail
  refine HDD.out.mono ?_
  rintro x3 w3 ⟨s3, v3, rfl, row3, ok3, to3, b3, g3, l3, r3, gr3⟩
  have RW3 := veil row3
  have REST := veil (show s3.Ok w3 ∧ s3.Told ∧ s3.b = (rdD N s1.b E).2.1 ∧ s3.g = s.g ∧ s3.len ≤ s.len ∧ Row w3 g 75 (rdC s3 (rdD N s1.b E).2.2) ∧ w.grownBy w3 (some g) from ⟨ok3, to3, b3, g3.trans G1.out, Nat.le_trans l3 L1.out, r3, grown_trans GR2.out gr3⟩)
  clear row3 ok3 to3 b3 g3 l3 r3 gr3
  go_wp2_with fail
  go_ret
  rw [HPE2.out]
  exact ⟨s3, v3, rfl, own_low RW3.out GR2.out.size, REST.out⟩
end Go.Proofs.YtimhbjlmpojhoaaGreatDoor

/-! What the document's reader brings about, held against the plain readers: no function of the program but its reader. -/
namespace Go.Proofs.YtimhbjlmpojhoaaGreatDoor
open Go Go.RowKit

namespace Fr
/-- A step of a reader that keeps its first error. -/
def Sim {α : Type} (m : R α) (b : List By) (e : Nat) (a : α) (b' : List By) (e' : Nat) : Prop :=
  (e = 0 → (e' = 0 ∧ m b = .ok (a, b')) ∨ (e' ≠ 0 ∧ m b = .error e')) ∧ (e ≠ 0 → e' = e)
theorem Sim.ne {α : Type} {m : R α} {b b' : List By} {e e' : Nat} {a : α} (h : Sim m b e a b' e') (h0 : e ≠ 0) : e' = e := h.2 h0
theorem Sim.zero {α : Type} {m : R α} {b b' : List By} {e : Nat} {a : α} (h : Sim m b e a b' 0) : e = 0 ∧ m b = .ok (a, b') := by
  by_cases h0 : e = 0
  · rcases h.1 h0 with q | q
    · exact ⟨h0, q.2⟩
    · exact absurd rfl q.1
  · exact absurd (h.2 h0).symm h0
theorem sim_then {α β : Type} {m : R α} {f : α → R β} {b b1 b2 : List By} {e e1 e2 : Nat} {a : α} {c : β} (h : Sim m b e a b1 e1) (k : Sim (f a) b1 e1 c b2 e2) : Sim (thenR m f) b e c b2 e2 := by
  refine ⟨fun h0 => ?_, fun h0 => ?_⟩
  · rcases h.1 h0 with ⟨h1, h2⟩ | ⟨h1, h2⟩
    · rcases k.1 h1 with ⟨k1, k2⟩ | ⟨k1, k2⟩
      · exact .inl ⟨k1, by unfold thenR; rw [h2]; exact k2⟩
      · exact .inr ⟨k1, by unfold thenR; rw [h2]; exact k2⟩
    · have := k.2 h1
      exact .inr ⟨by rw [this]; exact h1, by unfold thenR; rw [h2, this]⟩
  · have h1 := h.2 h0
    rw [k.2 (by rw [h1]; exact h0), h1]
theorem sim_ok {α : Type} (a : α) (b : List By) (e : Nat) : Sim (okR a) b e a b e :=
  ⟨fun h => .inl ⟨h, rfl⟩, fun _ => rfl⟩
/-- What is wrong. -/
theorem sim_wrong {α : Type} {m : R α} {p : Prop} [Decidable p] {b b' : List By} {e e' E : Nat} {a : α} (so : Bool) (hso : so = true ↔ p) (hE : E ≠ 0) (h : Sim m b (if so = true ∧ e = 0 then E else e) a b' e') : Sim (if p then noR E else m) b e a b' e' := by
  by_cases hp : p
  · rw [if_pos hp]
    have hs : so = true := hso.2 hp
    refine ⟨fun h0 => ?_, fun h0 => ?_⟩
    · rw [if_pos ⟨hs, h0⟩] at h
      have := h.2 hE
      exact .inr ⟨by rw [this]; exact hE, by unfold noR; rw [this]⟩
    · rw [if_neg (fun q => h0 q.2)] at h
      exact h.2 h0
  · rw [if_neg hp]
    rw [if_neg (fun q => hp (hso.1 q.1))] at h
    exact h
theorem sim_num (b : List By) (e : Nat) : Sim numR b e (rdN b e).1 (rdN b e).2.1 (rdN b e).2.2 := by
  unfold numR rdN
  refine ⟨fun h => ?_, fun h => ?_⟩
  · rw [if_pos h]
    cases hq : getN b with
    | none => exact .inr ⟨show (4 : Nat) ≠ 0 by decide, by simp only [hq]⟩
    | some p => obtain ⟨n, k⟩ := p; exact .inl ⟨rfl, by simp only [hq]⟩
  · rw [if_neg h]
theorem sim_data (n : Nat) (b : List By) (e : Nat) : Sim (dataR n) b e (rdD n b e).1 (rdD n b e).2.1 (rdD n b e).2.2 := by
  unfold dataR rdD
  refine ⟨fun h => ?_, fun h => ?_⟩
  · rw [if_pos h]
    by_cases hq : b.length < n
    · rw [if_pos hq]; exact .inr ⟨show (4 : Nat) ≠ 0 by decide, by simp only [if_pos hq]⟩
    · rw [if_neg hq]; exact .inl ⟨rfl, by simp only [if_neg hq]⟩
  · rw [if_neg h]
theorem sim_placed (o : Nat) (b : List By) (e : Nat) : Sim (placedR o) b e (rdP o b e).1 (rdP o b e).2.1 (rdP o b e).2.2 := by
  refine sim_then (sim_num b e) ?_
  have h := sim_data (rdN b e).1 (rdN b e).2.1 (if 4611686018427387903 < o + (rdN b e).1 ∧ (rdN b e).2.2 = 0 then 5 else (rdN b e).2.2)
  refine sim_wrong (E := 5) (decide (4611686018427387903 < o + (rdN b e).1)) (by simp) (by decide) ?_
  simp only [decide_eq_true_eq]
  exact h
/-- The type, in as few bytes as can be. -/
def kindR : R Nat := fun b => match getN b with
  | none => .error 4
  | some (n, k) => if k = szN n then .ok (n, b.drop k) else .error 5
theorem frameR_kind : frameR = thenR kindR bodyR := by
  funext b
  unfold frameR thenR kindR
  cases hq : getN b with
  | none => rfl
  | some p =>
    obtain ⟨n, k⟩ := p
    simp only
    by_cases h : k = szN n
    · rw [if_pos h, if_pos h]
    · rw [if_neg h, if_neg h]
end Fr

/-- A reader: what is left, and the error's number; all of it below a place. -/
def Rr (base g : Nat) (b : List By) (e : Nat) (w : World) : Prop :=
  ∃ s : SL, Row w g 75 (rdC s e) ∧ s.Ok w ∧ s.Told ∧ (0 < s.len → s.g ≠ g ∧ s.g < base) ∧ s.len ≤ 8388608 ∧ s.b = b ∧ g < base
theorem Rr.lt {base g e : Nat} {b : List By} {w : World} (h : Rr base g b e w) : g < base ∧ g < w.heap.size := by
  obtain ⟨s, hr, _, _, _, _, _, hg⟩ := h
  exact ⟨hg, hr.lt⟩
theorem Rr.below {base g e : Nat} {b : List By} {w w' : World} (h : Rr base g b e w) (hb : Below base w w') : Rr base g b e w' := by
  obtain ⟨s, hr, hs, ht, hn, hl, hbb, hg⟩ := h
  have hrow : w'.heap[g]? = w.heap[g]? := hb.block g hg
  exact ⟨s, hrow.trans hr, hs.same (fun p => hb.block _ (hn p).2) hb.size, ht, hn, hl, hbb, hg⟩
theorem Rr.set {base g e : Nat} {b : List By} {w : World} (h : Rr base g b e w) {f : Nat} (hf : base ≤ f) (j : Nat) (u : Value) : Rr base g b e (w.setCell ⟨f, j, none⟩ u) :=
  h.below ((Below.refl base w).setCell (p := ⟨f, j, none⟩) hf u)
theorem Rr.alloc {base g e : Nat} {b : List By} {w : World} (h : Rr base g b e w) (hb : base ≤ w.heap.size) (o : Obj) : Rr base g b e (w.alloc o) :=
  h.below ((Below.refl base w).alloc hb o)
theorem Rr.len {base g e : Nat} {b : List By} {w : World} (h : Rr base g b e w) : b.length ≤ 8388608 := by
  obtain ⟨s, hr, hs, ht, hn, hl, hbb, hg⟩ := h
  rw [← hbb, hs.hb]
  exact hl

theorem numberC {base g e : Nat} {b : List By} {w : World} (h : Rr base g b e w) :
    Calls Tryz.prog 119 #[.pointer (some ⟨g, 0, none⟩)] w fun x w' => ∃ (n : Nat) (b' : List By) (e' : Nat), x = .returned (.int .u64 (n : Int)) ∧ n ≤ 4611686018427387903 ∧ Fr.Sim Fr.numR b e n b' e' ∧ Rr base g b' e' w' ∧ w.grownBy w' (some g) := by
  obtain ⟨s, hr, hs, ht, hn, hl, hbb, hg⟩ := h
  subst hbb
  refine (rd_number g s e w hr hs ht (fun p => (hn p).1) (by omega)).mono ?_
  rintro x w' ⟨s', rfl, h1, h2, h3, h4, h5, h6, h7⟩
  exact ⟨_, _, _, rfl, rdN_le _ _, Fr.sim_num s.b e, ⟨s', h6, h1, h2, fun p => by rw [h4]; exact hn (by omega), by omega, h3, hg⟩, h7⟩
theorem placedC {base g e : Nat} {b : List By} {w : World} (h : Rr base g b e w) (o : Nat) (ho : o ≤ 4611686018427387903) :
    Calls Tryz.prog 120 #[.pointer (some ⟨g, 0, none⟩), .int .u64 (o : Int)] w fun x w' => ∃ (a : Option Addr) (k c : Nat) (L b' : List By) (e' : Nat), x = .returned (.slice a k c) ∧ RowK w.heap.size L w' (.slice a k c) ∧ Fr.Sim (Fr.placedR o) b e L b' e' ∧ Rr base g b' e' w' ∧ w.grownBy w' (some g) := by
  obtain ⟨s, hr, hs, ht, hn, hl, hbb, hg⟩ := h
  subst hbb
  refine (rd_placed g s e o w hr hs ht (fun p => (hn p).1) hl ho).mono ?_
  rintro x w' ⟨s', v, rfl, h0, h1, h2, h3, h4, h5, h6, h7⟩
  obtain ⟨d, hd1, _, _, _, _⟩ := SL.of_own h0
  have hd1' : v = .slice d.a d.len d.cap := hd1.symm
  rw [hd1'] at h0
  exact ⟨d.a, d.len, d.cap, _, _, _, by rw [hd1'], h0, Fr.sim_placed o s.b e, ⟨s', h6, h1, h2, fun p => by rw [h4]; exact hn (by omega), by omega, h3, hg⟩, h7⟩
theorem dataC {base g e : Nat} {b : List By} {w : World} (h : Rr base g b e w) (n : Nat) :
    Calls Tryz.prog 146 #[.pointer (some ⟨g, 0, none⟩), .int .u64 (n : Int)] w fun x w' => ∃ (a : Option Addr) (k c : Nat) (L b' : List By) (e' : Nat), x = .returned (.slice a k c) ∧ RowK w.heap.size L w' (.slice a k c) ∧ Fr.Sim (Fr.dataR n) b e L b' e' ∧ Rr base g b' e' w' ∧ w.grownBy w' (some g) := by
  obtain ⟨s, hr, hs, ht, hn, hl, hbb, hg⟩ := h
  subst hbb
  refine (rd_data g s e n w hr hs ht (fun p => (hn p).1) hl).mono ?_
  rintro x w' ⟨s', v, rfl, h0, h1, h2, h3, h4, h5, h6, h7⟩
  obtain ⟨d, hd1, _, _, _, _⟩ := SL.of_own h0
  have hd1' : v = .slice d.a d.len d.cap := hd1.symm
  rw [hd1'] at h0
  exact ⟨d.a, d.len, d.cap, _, _, _, by rw [hd1'], h0, Fr.sim_data n s.b e, ⟨s', h6, h1, h2, fun p => by rw [h4]; exact hn (by omega), by omega, h3, hg⟩, h7⟩
theorem wrongC {base g e : Nat} {b : List By} {w : World} (h : Rr base g b e w) (so : Bool) (E : Nat) :
    Calls Tryz.prog 70 #[.pointer (some ⟨g, 0, none⟩), .bool so, .int .i64 (E : Int)] w fun x w' => (∃ v, x = .returned v) ∧ Rr base g b (if so = true ∧ e = 0 then E else e) w' ∧ w.grownBy w' (some g) := by
  obtain ⟨s, hr, hs, ht, hn, hl, hbb, hg⟩ := h
  subst hbb
  refine (rd_wrong g s e E so w hr).mono ?_
  rintro x w' ⟨hx, h1, h2⟩
  exact ⟨hx, ⟨s, h1, hs.same (fun p => h2.block _ (hs.lt p) (fun q => (hn p).1 (Option.some.inj q))) h2.size, ht, hn, hl, rfl, hg⟩, h2⟩
end Go.Proofs.YtimhbjlmpojhoaaGreatDoor

/-! The document's reader: kind. -/
namespace Go.Proofs.YtimhbjlmpojhoaaGreatDoor
open Go Go.RowKit

theorem sim_kind (b : List By) (so : Bool) (hso : so = true ↔ ((b.length : Int) - ((rdN b 0).2.1.length : Int) ≠ (Fr.szN (rdN b 0).1 : Int))) :
    Fr.Sim Fr.kindR b 0 (rdN b 0).1 (rdN b 0).2.1 (if so = true ∧ (rdN b 0).2.2 = 0 then 5 else (rdN b 0).2.2) := by
  refine ⟨fun _ => ?_, fun h => absurd rfl h⟩
  unfold Fr.kindR
  cases hq : Fr.getN b with
  | none =>
    have : rdN b 0 = (0, b, 4) := by unfold rdN; rw [if_pos rfl, hq]
    rw [this]
    right
    rw [if_neg (fun q => by cases q.2)]
    exact ⟨show (4 : Nat) ≠ 0 by decide, rfl⟩
  | some p =>
    obtain ⟨n, k⟩ := p
    have hr : rdN b 0 = (n, b.drop k, 0) := by unfold rdN; rw [if_pos rfl, hq]
    have hk := (Fr.getN_some hq).2.1
    rw [hr] at hso ⊢
    simp only [List.length_drop] at hso
    by_cases hz : k = Fr.szN n
    · left
      have : so ≠ true := fun h => hso.1 h (by omega)
      rw [if_neg (fun q => this q.1)]
      exact ⟨rfl, by simp only [if_pos hz]⟩
    · right
      have : so = true := hso.2 (by omega)
      rw [if_pos ⟨this, rfl⟩]
      exact ⟨by decide, by simp only [if_neg hz]⟩

set_option maxRecDepth 20000 in
set_option maxHeartbeats 2000000 in
theorem kindC {base g : Nat} {b : List By} {w : World} (h : Rr base g b 0 w) :
    Calls Tryz.prog 117 #[.pointer (some ⟨g, 0, none⟩)] w fun x w' => ∃ (n : Nat) (b' : List By) (e' : Nat), x = .returned (.int .u64 (n : Int)) ∧ n = (rdN b 0).1 ∧ Fr.Sim Fr.kindR b 0 n b' e' ∧ Rr base g b' e' w' ∧ w.grownBy w' (some g) := by
  obtain ⟨s, hr, hs, ht, hn, hl, hbb, hg⟩ := h
  subst hbb
  have c0 : w.cell? ⟨g, 0, none⟩ = some (.slice s.a s.len s.cap) := hr.cell 0
  have HN := veil (rd_number g s 0 w hr hs ht (fun p => (hn p).1) (by omega))
  have HNN := veil hn
  have hsb := veil hs.hb
  have HG := veil hg
  have HL := veil hl
  clear hr hs ht hn hg hl
  go_enter Tryz.func117, Tryz.ntmps117
  go_wp2_with fail
  refine HN.out.mono ?_
  rintro x1 w1 ⟨s', rfl, h1, h2, h3, h4, h5, h6, h7⟩
  have c1 : w1.cell? ⟨g, 0, none⟩ = some (.slice s'.a s'.len s'.cap) := h6.cell 0
  obtain ⟨N, hN⟩ : ∃ N, (rdN s.b 0).1 = N := ⟨_, rfl⟩
  rw [hN]
  obtain ⟨so, hso⟩ : ∃ so : Bool, ((s.len : Int) - (s'.len : Int) != (Fr.szN N : Int)) = so := ⟨_, rfl⟩
  have hw : IntKind.i64.wrap ((s.len : Int) - (s'.len : Int)) = (s.len : Int) - (s'.len : Int) := by rw [IntKind.wrap_i64]; have := HL.out; omega
  have hsim := sim_kind s.b so (by
    rw [← hso, hN, ← h3, h1.hb, hsb.out]
    simp)
  rw [hN] at hsim
  have HSIM := veil hsim
  have H6 := veil h6
  have H1 := veil h1
  have HX := veil (show s'.Told ∧ (0 < s'.len → s'.g ≠ g ∧ s'.g < base) ∧ s'.len ≤ 8388608 ∧ s'.b = (rdN s.b 0).2.1 from ⟨h2, fun p => by rw [h4]; exact HNN.out (by omega), by have := HL.out; omega, h3⟩)
  have G1 := veil h7
  have HS := veil (ref_size N)
  have HNEQ := veil hN.symm
  clear HN h1 h2 h3 h4 h5 h6 h7 hN hsim c0
  go_wp2_with fail
  go_region_held3 (fun w' => w'.cell? ⟨g, 0, none⟩ = some (.slice s'.a s'.len s'.cap)) (first | exact k8 | go_keep) (first
    | (go_at_call 144; refine (HS.out _).mono ?_; rintro e9 w9 ⟨rfl, hw9⟩; obtain rfl := hw9.symm)
    | (go_at_call 70; refine (rd_wrong g s' (rdN s.b 0).2.2 5 so _ H6.out.drew).mono ?_; rintro e8 w8 ⟨⟨v8, rfl⟩, r8, g8⟩; have k8 : w8.cell? ⟨g, 0, none⟩ = some (.slice s'.a s'.len s'.cap) := r8.cell 0))
  have r9 : Rr base g (rdN s.b 0).2.1 (if so = true ∧ (rdN s.b 0).2.2 = 0 then 5 else (rdN s.b 0).2.2) w8 := ⟨s', r8, H1.out.same (fun p => g8.block _ (H1.out.lt p) (fun q => (HX.out.2.1 p).1 (Option.some.inj q))) g8.size, HX.out.1, HX.out.2.1, HX.out.2.2.1, HX.out.2.2.2, HG.out⟩
  have R9 := veil r9
  have G9 := veil (G1.out.trans (show w1.grownBy w8 (some g) from ⟨g8.os, g8.tape, g8.output, g8.size, g8.block⟩))
  clear r8 g8 r9 c1 k8
  go_wp2_with fail
  go_ret
  exact ⟨N, _, _, rfl, HNEQ.out, HSIM.out, R9.out, G9.out⟩
end Go.Proofs.YtimhbjlmpojhoaaGreatDoor

/-! A frame that the document's reader makes up, field by field. -/
namespace Go.Proofs.YtimhbjlmpojhoaaGreatDoor
open Go Go.RowKit

/-- A frame's cells. -/
def frC8 (k st of li co : Nat) (fi : Bool) (v6 v7 : Value) : Array Value := #[.int .u8 (k : Int), .int .u64 (st : Int), .int .u64 (of : Int), .int .u64 (li : Int), .int .u64 (co : Int), .bool fi, v6, v7]
theorem frC8_cells {W : World} {g : Nat} {t : TypeId} {k st of li co : Nat} {fi : Bool} {v6 v7 : Value} (r : Row W g t (frC8 k st of li co fi v6 v7)) : W.cell? ⟨g, 0, none⟩ = some (.int .u8 (k : Int)) ∧ W.cell? ⟨g, 1, none⟩ = some (.int .u64 (st : Int)) ∧ W.cell? ⟨g, 2, none⟩ = some (.int .u64 (of : Int)) ∧ W.cell? ⟨g, 3, none⟩ = some (.int .u64 (li : Int)) ∧ W.cell? ⟨g, 4, none⟩ = some (.int .u64 (co : Int)) ∧ W.cell? ⟨g, 5, none⟩ = some (.bool fi) ∧ W.cell? ⟨g, 6, none⟩ = some v6 ∧ W.cell? ⟨g, 7, none⟩ = some v7 :=
  ⟨r.cell 0, r.cell 1, r.cell 2, r.cell 3, r.cell 4, r.cell 5, r.cell 6, r.cell 7⟩
theorem frC8_fz {W : World} {g : Nat} {t : TypeId} {cs : Array Value} (r : Row W g t cs) : W.frozen? ⟨g, 0, none⟩ = false ∧ W.frozen? ⟨g, 1, none⟩ = false ∧ W.frozen? ⟨g, 2, none⟩ = false ∧ W.frozen? ⟨g, 3, none⟩ = false ∧ W.frozen? ⟨g, 4, none⟩ = false ∧ W.frozen? ⟨g, 5, none⟩ = false ∧ W.frozen? ⟨g, 6, none⟩ = false ∧ W.frozen? ⟨g, 7, none⟩ = false :=
  ⟨r.frozen 0, r.frozen 1, r.frozen 2, r.frozen 3, r.frozen 4, r.frozen 5, r.frozen 6, r.frozen 7⟩
theorem gset {w W : World} {g f : Nat} (h : w.grownBy W (some g)) (hf : w.heap.size ≤ f) (j : Nat) (u : Value) : w.grownBy (W.setCell ⟨f, j, none⟩ u) (some g) :=
  ⟨h.os, h.tape, h.output, by simpa using h.size, fun k hk hn => (Below.heap_setCell _ _ _ k (by show k ≠ f; omega)).trans (h.block k hk hn)⟩
theorem gput8 {w W : World} {g f : Nat} (h : w.grownBy W (some g)) (hf : w.heap.size ≤ f) (v0 v1 v2 v3 v4 v5 v6 v7 : Value) : w.grownBy (put8 W f v0 v1 v2 v3 v4 v5 v6 v7) (some g) :=
  gset (gset (gset (gset (gset (gset (gset (gset h hf 0 v0) hf 1 v1) hf 2 v2) hf 3 v3) hf 4 v4) hf 5 v5) hf 6 v6) hf 7 v7
theorem own_set {w : World} {B e z n : Nat} {v : Value} {xs : List Value} (h : w.ownsRow B e z v n xs) (f k : Nat) (u : Value) (hp : ∀ j, v.ownBlock = some j → j ≠ f) : (w.setCell ⟨f, k, none⟩ u).ownsRow B e z v n xs :=
  h.kept (row := some f) ⟨rfl, rfl, rfl, by simp, fun b _ hb => Below.heap_setCell _ _ _ b (fun e => hb (by rw [e]))⟩ (by
    cases hv : v.ownBlock with
    | none => exact .inl rfl
    | some j => exact .inr (fun e => hp j hv (Option.some.inj e)))
theorem own_put8 {w : World} {B e z n : Nat} {v : Value} {xs : List Value} (h : w.ownsRow B e z v n xs) (f : Nat) (v0 v1 v2 v3 v4 v5 v6 v7 : Value) (hp : ∀ j, v.ownBlock = some j → j ≠ f) : (put8 w f v0 v1 v2 v3 v4 v5 v6 v7).ownsRow B e z v n xs :=
  own_set (own_set (own_set (own_set (own_set (own_set (own_set (own_set h f 0 v0 hp) f 1 v1 hp) f 2 v2 hp) f 3 v3 hp) f 4 v4 hp) f 5 v5 hp) f 6 v6 hp) f 7 v7 hp
theorem Rr.put8 {base g e : Nat} {b : List By} {w : World} (h : Rr base g b e w) {f : Nat} (hf : base ≤ f) (v0 v1 v2 v3 v4 v5 v6 v7 : Value) : Rr base g b e (put8 w f v0 v1 v2 v3 v4 v5 v6 v7) :=
  h.below (put8_below (Below.refl base w) hf _ _ _ _ _ _ _ _)

/-- A frame is answered: nothing of it but bytes of its own. -/
structure Fin (base g : Nat) (w W : World) (r : Nat) (k st of li co : Nat) (fi : Bool) (v : Value) (L b : List By) (e : Nat) : Prop where
  rd : Rr base g b e W
  gr : w.grownBy W (some g)
  row : Row W r 37 (frC8 0 0 0 0 0 false (.slice none 0 0) (.slice none 0 0))
  hr : w.heap.size ≤ r
  hb : base ≤ r
  d : RowK w.heap.size L W v
  hd : ∀ z, v.ownBlock = some z → z ≠ r
  k8 : k < 256
  st : st ≤ 4611686018427387903
  of : of ≤ 4611686018427387903
  li : li ≤ 4611686018427387903
  co : co ≤ 4611686018427387903
theorem Fin.done {base g : Nat} {w W : World} {r k st of li co : Nat} {fi : Bool} {v : Value} {L b : List By} {e : Nat} (h : Fin base g w W r k st of li co fi v L b e) :
    ∃ F : FrM, F.cells = frC8 k st of li co fi v (.slice none 0 0) ∧ F.fr = ⟨k, st, of, li, co, fi, L, []⟩ ∧ FrNew w.heap.size (put8 W r (.int .u8 (k : Int)) (.int .u64 (st : Int)) (.int .u64 (of : Int)) (.int .u64 (li : Int)) (.int .u64 (co : Int)) (.bool fi) v (.slice none 0 0)) F ∧
      Rr base g b e (put8 W r (.int .u8 (k : Int)) (.int .u64 (st : Int)) (.int .u64 (of : Int)) (.int .u64 (li : Int)) (.int .u64 (co : Int)) (.bool fi) v (.slice none 0 0)) ∧ w.grownBy (put8 W r (.int .u8 (k : Int)) (.int .u64 (st : Int)) (.int .u64 (of : Int)) (.int .u64 (li : Int)) (.int .u64 (co : Int)) (.bool fi) v (.slice none 0 0)) (some g) ∧
      Row (put8 W r (.int .u8 (k : Int)) (.int .u64 (st : Int)) (.int .u64 (of : Int)) (.int .u64 (li : Int)) (.int .u64 (co : Int)) (.bool fi) v (.slice none 0 0)) r 37 (frC8 k st of li co fi v (.slice none 0 0)) := by
  have hd := own_put8 h.d r (.int .u8 (k : Int)) (.int .u64 (st : Int)) (.int .u64 (of : Int)) (.int .u64 (li : Int)) (.int .u64 (co : Int)) (.bool fi) v (.slice none 0 0) h.hd
  obtain ⟨d, hv, hl, hb, hok, _⟩ := SL.of_own hd
  have hv' : v = .slice d.a d.len d.cap := hv.symm
  refine ⟨⟨k, st, of, li, co, fi, d, noRg⟩, by rw [hv']; rfl, by unfold FrM.fr; rw [hb]; rfl, ⟨?_, hok, World.ownsRow_nil _ _ _ _, noRg_ok _, h.k8, h.st, h.of, h.li, h.co⟩, h.rd.put8 h.hb _ _ _ _ _ _ _ _, gput8 h.gr h.hr _ _ _ _ _ _ _ _, put8_row h.row rfl _ _ _ _ _ _ _ _⟩
  show RowK _ d.b _ (.slice d.a d.len d.cap)
  rw [hb, ← hv']
  exact hd
/-- What a reader's frame is, when it is answered. -/
def FrOut (base g : Nat) (m : Fr.R Fr.Frame) (b : List By) (e : Nat) (w : World) (x : Ending) (w' : World) : Prop :=
  ∃ (F : FrM) (b' : List By) (e' : Nat), x = .returned (.agg F.cells) ∧ FrNew w.heap.size w' F ∧ Fr.Sim m b e F.fr b' e' ∧ Rr base g b' e' w' ∧ w.grownBy w' (some g)
end Go.Proofs.YtimhbjlmpojhoaaGreatDoor
