/-
  Out of FrMayAll, FrPut, ShaLiftA, ShaLiftS, RgOpen, FrOpen, FrErrs, FrSize, FrBeyond.
-/
import Derived.Test.YtjhgelhdhdcmfaaDoorGf8
import Derived.Test.YtjhgelhdhdcmfaaDoorGf1
import Derived.Test.YtjhgelhdhdcmfaaDoorRows
import Derived.ProofKit
import Derived.OpenShut
import Derived.ShutString
import Derived.ChangeOld
import Derived.Test.YtjhgelhdhdcmfaaDoorGf3
import Derived.Test.YtjhgelhdhdcmfaaDoorGf5
import Derived.SizedLaws
import Derived.Test.YtjhgelhdhdcmfaaDoorGf4

/-! frame.mayBe of any frame; frame.mayBeAll. -/
namespace Go.Proofs.YtjhgelhdhdcmfaaDoor
open Go Go.RowKit

theorem fr_may (f : FrM) (w : World) (hf : f.Ok w) (hdl : f.data.len ≤ 4194304) (hN : Named w) :
    Calls Tryd.prog 25 #[.agg f.cells] w fun e w' => (e = .returned (.bool true) ∧ Fr.mayF f.fr ∨ e = .returned (.bool false) ∧ ¬ Fr.mayF f.fr) ∧ Below w.heap.size w w' := by
  cases hk : isK f.kind with
  | true => exact fr_may_in f w hf hdl hN hk
  | false =>
    refine (fr_may_no f w hf hk).mono ?_
    rintro e w' ⟨rfl, hb⟩
    refine ⟨.inr ⟨rfl, fun h => ?_⟩, hb⟩
    have h2 := may_kind h
    have : isK f.kind = true := by
      have h3 : 1 ≤ f.kind ∧ f.kind ≤ 14 := h2
      unfold isK; simp; omega
    rw [hk] at this
    cases this

set_option maxRecDepth 20000 in
set_option maxHeartbeats 4000000 in
theorem fr_mayAll (s : FS) (w : World) (hs : s.Ok w) (hl : s.len ≤ 8388608) (hd : ∀ j, j < s.len → (gf s.l j).data.len ≤ 4194304) (hN : Named w) :
    Calls Tryd.prog 18 #[.slice s.a s.len s.cap] w fun e w' => (e = .returned (.bool true) ∧ okT s.l s.len ∨ e = .returned (.bool false) ∧ ¬ okT s.l s.len) ∧ Below w.heap.size w w' := by
  obtain ⟨a, len, cap, g, off, l⟩ := s
  have HP := veil hs
  have HD := veil hd
  have HN := veil hN
  clear hs hd hN
  simp only at hl
  show Calls _ _ _ _ fun e w' => (e = .returned (.bool true) ∧ okT l len ∨ e = .returned (.bool false) ∧ ¬ okT l len) ∧ Below w.heap.size w w'
  go_enter Tryd.func18, Tryd.ntmps18
  go_wp2_with fail
  go_loopw [7] (fun i wr => ∃ k : Nat, k ≤ len ∧ i = .int .i64 k ∧ okT l k ∧ Below w.heap.size w wr)
    (fun i _ => len - (intOf i).toNat)
  case atStart => exact ⟨0, Nat.zero_le _, rfl, fun j hj => absurd hj (Nat.not_lt_zero _), Below.refl _ _⟩
  case round =>
    obtain ⟨k, hk, rfl, hto, hbel⟩ := hrel
    by_cases hlt : k < len
    · have e1 : a = some ⟨g, off, none⟩ := HP.out.at_ (show 0 < len by omega)
      subst e1
      have hc := (HP.out.below hbel).cell k hlt
      have HOKk := veil ((HP.out.below hbel).each k hlt)
      have hdk := HD.out k hlt
      obtain ⟨K, ek⟩ : ∃ K, K = gf l k := ⟨_, rfl⟩
      simp only at hc hdk HOKk
      rw [← ek] at hc hdk HOKk
      obtain ⟨kk, st, of, li, co, fi, da, ra⟩ := K
      have a0 := hc 0 _ rfl
      have a1 := hc 1 _ rfl
      have a2 := hc 2 _ rfl
      have a3 := hc 3 _ rfl
      have a4 := hc 4 _ rfl
      have a5 := hc 5 _ rfl
      have a6 := hc 6 _ rfl
      have a7 := hc 7 _ rfl
      simp only [Nat.add_zero] at a0 a1 a2 a3 a4 a5 a6 a7
      have HTO := veil hto
      have HB := veil hbel
      have EK := veil ek
      have rA : Row (wr.alloc (.cells (FrM.mk kk st of li co fi da ra).cells 39)) wr.heap.size 39 (FrM.mk kk st of li co fi da ra).cells := Row.new _ _ _
      have bA : Below wr.heap.size wr (wr.alloc (.cells (FrM.mk kk st of li co fi da ra).cells 39)) := (Below.refl _ wr).alloc (Nat.le_refl _) _
      have hlA := rA.lt
      have RA := veil rA
      have BA := veil bA
      obtain ⟨x0, x1, x2, x3, x4, x5, x6, x7⟩ := fr_cells rA
      simp only at x0 x1 x2 x3 x4 x5 x6 x7
      clear hc hto hbel ek rA bA
      go_wp2_with fail
      clear a0 a1 a2 a3 a4 a5 a6 a7 x0 x1 x2 x3 x4 x5 x6 x7
      refine (fr_may ⟨kk, st, of, li, co, fi, da, ra⟩ _ (HOKk.out.below BA.out) hdk (HN.out.step (HB.out.trans (BA.out.mono HB.out.size)))).mono ?_
      rintro e1 w1 ⟨h1, hb1⟩
      have HB1 := veil ((HB.out.trans (BA.out.mono HB.out.size)).trans (hb1.mono (Nat.le_trans HB.out.size BA.out.size)))
      have y0 := (fr_cells (RA.out.below hb1 hlA)).1
      simp only at y0
      clear hb1 HOKk
      rcases h1 with ⟨rfl, hm⟩ | ⟨rfl, hm⟩
      · by_cases hk0 : k = 0
        · have f3 : decide ((0 : Int) < (k : Int)) = false := by simp; omega
          have f3n : decide (0 < k) = false := by simp; omega
          have HS := veil (okT_succ HTO.out (by rw [← EK.out]; exact hm) (fun h => by omega))
          clear hm hk0 HTO EK
          go_wp2_with fail
          go_roundw
          case rel => exact ⟨k + 1, by omega, by go_num, HS.out, HB1.out⟩
          case measure => simp [intOf]; omega
        · have f3 : decide ((0 : Int) < (k : Int)) = true := by simp; omega
          have f3n : decide (0 < k) = true := by simp; omega
          have hk1 : (k : Int) - 1 = ((k - 1 : Nat) : Int) := by omega
          have hk2 : k - 1 < len := by omega
          have hcp := (HP.out.below HB1.out).cell (k - 1) hk2
          simp only at hcp
          have p0 := hcp 0 _ rfl
          simp only [Nat.add_zero] at p0
          clear hcp
          by_cases q1 : kk = 1
          · have f4 : ((kk : Int) == 1) = true := by simp; omega
            by_cases q2 : (gf l (k - 1)).kind = 1
            · have f5 : (((gf l (k - 1)).kind : Int) == 1) = true := by simp; omega
              have E1 := veil (show ¬ okT l len from fun h => (h k hlt).2 (by omega) ⟨by rw [← EK.out]; exact q1, q2⟩)
              clear hm q1 q2 hk0 HTO EK
              generalize ((gf l (k - 1)).kind : Int) = z at *
              go_wp2_with fail
              go_ret
              exact ⟨.inr ⟨rfl, E1.out⟩, HB1.out⟩
            · have f5 : (((gf l (k - 1)).kind : Int) == 1) = false := by simp; omega
              have HS := veil (okT_succ HTO.out (by rw [← EK.out]; exact hm) (fun _ h => q2 h.2))
              clear hm q1 q2 hk0 HTO EK
              generalize ((gf l (k - 1)).kind : Int) = z at *
              go_wp2_with fail
              go_roundw
              case rel => exact ⟨k + 1, by omega, by go_num, HS.out, HB1.out⟩
              case measure => simp [intOf]; omega
          · have f4 : ((kk : Int) == 1) = false := by simp; omega
            have HS := veil (okT_succ HTO.out (by rw [← EK.out]; exact hm) (fun _ h => q1 (by have := h.1; rwa [← EK.out] at this)))
            clear hm q1 hk0 HTO EK p0
            go_wp2_with fail
            go_roundw
            case rel => exact ⟨k + 1, by omega, by go_num, HS.out, HB1.out⟩
            case measure => simp [intOf]; omega
      · have E1 := veil (show ¬ okT l len from fun h => hm (by have := (h k hlt).1; rwa [← EK.out] at this))
        clear hm HTO EK
        go_wp2_with fail
        go_ret
        exact ⟨.inr ⟨rfl, E1.out⟩, HB1.out⟩
    · obtain rfl : len = k := by omega
      have HA := veil hto
      have HB1 := veil hbel
      clear hto hbel
      go_wp2_with fail
      go_ret
      exact ⟨.inl ⟨rfl, HA.out⟩, HB1.out⟩
end Go.Proofs.YtjhgelhdhdcmfaaDoor

/-! frame.Put, of any frames. -/
namespace Go.Proofs.YtjhgelhdhdcmfaaDoor
open Go Go.RowKit

theorem own_max {w : World} {base n : Nat} {v : Value} {xs : List Value} (h : w.ownsRow base 5 1 v n xs) : n ≤ maxLen := by
  rcases h.2 with ⟨_, rfl⟩ | ⟨g, c, cur, _, _, _, hc, hm, _⟩
  · exact Nat.zero_le _
  · omega
set_option maxRecDepth 20000 in
set_option maxHeartbeats 4000000 in
theorem fr_put (s : FS) (w : World) (hs : s.Ok w) (hl : s.len ≤ 8388608) (hd : ∀ j, j < s.len → (gf s.l j).data.len ≤ 4000000) (hL : Lens w) (hN : Named w) :
    Calls Tryd.prog 10 #[.slice s.a s.len s.cap] w fun e w' => ∃ v, e = .returned (.tuple #[v, .int .i64 (putE s.fr : Int)]) ∧ RowK w.heap.size (putO s.fr) w' v ∧ Below w.heap.size w w' := by
  obtain ⟨i0, hi, hz0, hz1, hz2⟩ := info_parts Tryd.infoByteV
  have HMA := veil (fr_mayAll s w hs hl (fun j hj => Nat.le_trans (hd j hj) (by decide)) hN)
  obtain ⟨a, len, cap, g, off, l⟩ := s
  have hll : l.length = len := hs.hb
  have HP := veil hs
  have HL := veil hll
  have HD := veil hd
  have HLn := veil hL
  clear hs hll hd hL hN
  simp only at hl HMA
  show Calls _ _ _ _ fun e w' => ∃ v, e = .returned (.tuple #[v, .int .i64 (putE (l.map FrM.fr) : Int)]) ∧ RowK w.heap.size (putO (l.map FrM.fr)) w' v ∧ Below w.heap.size w w'
  go_enter Tryd.func10, Tryd.ntmps10
  go_wp2_with fail
  refine HMA.out.mono ?_
  rintro e1 w1 ⟨h1, hb1⟩
  have HB1 := veil hb1
  clear hb1 HMA
  rcases h1 with ⟨rfl, hok⟩ | ⟨rfl, hok⟩
  rotate_left
  · have E1 := veil (putE_no (l := l.map FrM.fr) fun h => hok (by have := (okT_iff l).2 h; rwa [HL.out] at this))
    clear hok
    go_wp2_with fail
    go_ret2
    refine ⟨.slice none 0 0, by rw [E1.out]; rfl, ?_, HB1.out⟩
    rw [putO_err E1.out (by decide)]
    exact World.ownsRow_nil _ _ _ _
  have HA := veil ((okT_iff l).1 (by rw [HL.out]; exact hok))
  clear hok
  by_cases h1024 : 1024 < len
  · have f1 : decide ((1024 : Int) < (len : Int)) = true := by simp; omega
    have f1n : decide (1024 < len) = true := by simp; omega
    have E1 := veil (putE_many HA.out (by rw [List.length_map, HL.out]; exact h1024))
    clear h1024
    go_wp2_with fail
    go_ret2
    refine ⟨.slice none 0 0, by rw [E1.out]; rfl, ?_, HB1.out⟩
    rw [putO_err E1.out (by decide)]
    exact World.ownsRow_nil _ _ _ _
  · have f1 : decide ((1024 : Int) < (len : Int)) = false := by simp; omega
    have f1n : decide (1024 < len) = false := by simp; omega
    have H1024 := veil h1024
    clear h1024
    go_wp2_with fail
    go_loopw [4, 16] (fun v i wr => ∃ k : Nat, k ≤ len ∧ i = .int .i64 k ∧ RowK w.heap.size (Fr.putAll ((l.take k).map FrM.fr)) wr v ∧ (Fr.putAll ((l.take k).map FrM.fr)).length ≤ 1048576 ∧ Below w.heap.size w wr)
      (fun _ i _ => len - (intOf i).toNat)
    case atStart => exact ⟨0, Nat.zero_le _, rfl, World.ownsRow_nil _ _ _ _, Nat.zero_le _, HB1.out⟩
    case round =>
      clear HB1
      obtain ⟨k, hk, rfl, hrow, hlen, hbel⟩ := hrel
      by_cases hlt : k < len
      · have e1 : a = some ⟨g, off, none⟩ := HP.out.at_ (show 0 < len by omega)
        subst e1
        have hc := (HP.out.below hbel).cell k hlt
        have HOKk := veil ((HP.out.below hbel).each k hlt)
        have HOKw := veil (HP.out.each k hlt)
        have hdk := HD.out k hlt
        have hm := ((okT_iff l).2 HA.out k (by rw [HL.out]; exact hlt)).1
        have hT := putAll_take l k (by rw [HL.out]; exact hlt)
        obtain ⟨K, ek⟩ : ∃ K, K = gf l k := ⟨_, rfl⟩
        simp only at hc hdk HOKk HOKw
        rw [← ek] at hc hdk HOKk HOKw hm hT
        obtain ⟨kk, st, of, li, co, fi, da, ra⟩ := K
        have a0 := hc 0 _ rfl
        have a1 := hc 1 _ rfl
        have a2 := hc 2 _ rfl
        have a3 := hc 3 _ rfl
        have a4 := hc 4 _ rfl
        have a5 := hc 5 _ rfl
        have a6 := hc 6 _ rfl
        have a7 := hc 7 _ rfl
        simp only [Nat.add_zero] at a0 a1 a2 a3 a4 a5 a6 a7
        obtain ⟨aV, cV, rfl⟩ := own_shapeF hrow
        obtain ⟨B, eB⟩ : ∃ B, B = Fr.putAll ((l.take k).map FrM.fr) := ⟨_, rfl⟩
        rw [← eB] at hT hrow hlen ⊢
        have HB := veil hbel
        have HT := veil hT
        have HM := veil hm
        have HR := veil hrow
        have rA : Row (wr.alloc (.cells (FrM.mk kk st of li co fi da ra).cells 39)) wr.heap.size 39 (FrM.mk kk st of li co fi da ra).cells := Row.new _ _ _
        have bA : Below wr.heap.size wr (wr.alloc (.cells (FrM.mk kk st of li co fi da ra).cells 39)) := (Below.refl _ wr).alloc (Nat.le_refl _) _
        have hlA := rA.lt
        obtain ⟨x0, x1, x2, x3, x4, x5, x6, x7⟩ := fr_cells rA
        simp only at x0 x1 x2 x3 x4 x5 x6 x7
        have RA := veil rA
        have BA := veil bA
        have BW := veil (HB.out.trans (BA.out.mono HB.out.size))
        clear hc hbel ek hT hm hrow rA bA eB
        go_wp2_with fail
        clear a0 a1 a2 a3 a4 a5 a6 a7 x0 x1 x2 x3 x4 x5 x6 x7
        refine (fr_ahead ⟨kk, st, of, li, co, fi, da, ra⟩ _ HM.out (HOKk.out.below BA.out) (Nat.le_trans hdk (by decide)) (HLn.out.step BW.out)).mono ?_
        rintro e3 w3 ⟨v3, A, rfl, ⟨hA, hAm⟩, ho3, hb3⟩
        have hAl : A ++ da.b = Fr.putF (FrM.mk kk st of li co fi da ra).fr := hA
        have HT2 := veil (show Fr.putAll ((l.take (k + 1)).map FrM.fr) = B ++ A ++ da.b by rw [HT.out, ← hAl, List.append_assoc])
        have hdb := HOKk.out.data.hb
        simp only at hdb hdk
        have hlen2 : (Fr.putAll ((l.take (k + 1)).map FrM.fr)).length = B.length + A.length + da.len := by rw [HT2.out, List.length_append, List.length_append, hdb]
        have BW3 := veil (BW.out.trans (hb3.mono (Nat.le_trans HB.out.size BA.out.size)))
        obtain ⟨s3, hv3, hsl3, hsb3, hok3, _⟩ := SL.of_own ho3
        have y6 := (fr_cells (RA.out.below hb3 hlA)).2.2.2.2.2.2.1
        simp only at y6
        have HO3 := veil (own_below (own_below HR.out BA.out) hb3)
        rw [← hv3]
        unfold SL.v
        have HS3 := veil hok3
        have HSB := veil hsb3
        have hs3l : s3.len = A.length := hsl3
        have DOK := veil (HOKk.out.data.below (BA.out.trans (hb3.mono BA.out.size)))
        have RA3 := veil (RA.out.below hb3 hlA)
        have hbs : w.heap.size ≤ w3.heap.size := BW3.out.size
        have hmx : s3.len ≤ 70000 := by rw [hs3l]; exact hAm
        have hlen3 : (Fr.putAll ((l.take (k + 1)).map FrM.fr)).length = B.length + s3.len + da.len := by rw [hlen2, hs3l]
        have HLEN := veil hlen3
        clear ho3 hb3 hv3 hok3 hsb3 hsl3 hA hAl hlen2 hAm hlen3 hdb
        have q1 : IntKind.i64.wrap ((B.length : Int) + (s3.len : Int)) = (B.length : Int) + (s3.len : Int) := by rw [IntKind.wrap_i64]; omega
        have q2 : IntKind.i64.wrap ((B.length : Int) + (s3.len : Int) + (da.len : Int)) = (B.length : Int) + (s3.len : Int) + (da.len : Int) := by rw [IntKind.wrap_i64]; omega
        by_cases hn : 1048576 < B.length + s3.len + da.len
        · have E1 := veil (putE_long HA.out (show 1048576 < (Fr.putAll (l.map FrM.fr)).length by have := putAll_mono l (k + 1); have := HLEN.out; omega))
          have f2 : decide ((1048576 : Int) < (B.length : Int) + (s3.len : Int) + (da.len : Int)) = true := decide_eq_true (by omega)
          have f2n : decide (1048576 < B.length + s3.len + da.len) = true := decide_eq_true (by omega)
          clear hn HO3 HT hlen hs3l
          go_wp2_with fail
          go_ret2
          refine ⟨.slice none 0 0, by rw [E1.out]; rfl, ?_, BW3.out⟩
          rw [putO_err E1.out (by decide)]
          exact World.ownsRow_nil _ _ _ _
        · have f2 : decide ((1048576 : Int) < (B.length : Int) + (s3.len : Int) + (da.len : Int)) = false := decide_eq_false (by omega)
          have f2n : decide (1048576 < B.length + s3.len + da.len) = false := decide_eq_false (by omega)
          have HN := veil (Nat.le_of_not_lt hn)
          have hle1 : B.length + s3.len ≤ 8388608 := by omega
          have hle2 : B.length + s3.len + da.len ≤ 8388608 := by omega
          clear hn hlen hs3l
          go_wp2_with (first
            | (with_reducible (show wpList _ _ _ (⟨some 34, Op.call _, _, _, _, _⟩ :: _) _ _)
               refine append_sl rfl _ _ 26 rfl w.heap.size i0 Tryd.underlying26 hi hz0 hz1 hz2 _ B.length B rfl HO3.out s3 HS3.out rfl hle1 hbs ?_
               intro v5 w5 hown5 hgrow5
               have K5 := veil (Keep.of_grown HO3.out hgrow5 hbs)
               have O5 := veil hown5
               have z6 := (fr_cells (K5.out.row (by decide) RA3.out)).2.2.2.2.2.2.1
               simp only at z6
               have D5 := veil (DOK.out.below' K5.out.bel HOKw.out.data.lt)
               have hbs5 : w.heap.size ≤ w5.heap.size := Nat.le_trans hbs K5.out.size
               clear hown5 hgrow5)
            | (with_reducible (show wpList _ _ _ (⟨some 38, Op.call _, _, _, _, _⟩ :: _) _ _)
               refine append_sl rfl _ _ 26 rfl w.heap.size i0 Tryd.underlying26 hi hz0 hz1 hz2 _ (B.length + s3.len) (B ++ s3.b) rfl O5.out da D5.out rfl hle2 hbs5 ?_
               intro v6 w6 hown6 hgrow6
               have K6 := veil (Keep.of_grown O5.out hgrow6 hbs5)
               have O6 := veil (show RowK w.heap.size (Fr.putAll ((l.take (k + 1)).map FrM.fr)) w6 v6 by
                 unfold RowK
                 rw [HLEN.out, HT2.out, ← HSB.out]
                 exact hown6)
               clear hown6 hgrow6))
          go_roundw
          case rel => exact ⟨k + 1, by omega, by go_num, O6.out, by rw [HLEN.out]; exact HN.out, (BW3.out.trans K5.out.bel).trans K6.out.bel⟩
          case measure => simp [intOf]; omega
      · obtain rfl : len = k := by omega
        have HRow := veil (show RowK w.heap.size (Fr.putAll (l.map FrM.fr)) wr _ by rw [← List.take_of_length_le (show l.length ≤ len by rw [HL.out]; omega)]; exact hrow)
        have HN := veil (show (Fr.putAll (l.map FrM.fr)).length ≤ 1048576 by rw [← List.take_of_length_le (show l.length ≤ len by rw [HL.out]; omega)]; exact hlen)
        have E0 := veil (putE_ok HA.out (by rw [List.length_map, HL.out]; exact H1024.out) (by have := HN.out; omega))
        have HB := veil hbel
        clear hrow hbel hlen
        go_wp2_with fail
        go_ret2
        refine ⟨_, by rw [E0.out]; rfl, ?_, HB.out⟩
        rw [putO_ok E0.out]
        exact HRow.out
end Go.Proofs.YtjhgelhdhdcmfaaDoor

/-! From what a row says of an array that came in to the words and bytes of the walks. -/
namespace Go.Proofs.YtjhgelhdhdcmfaaDoor
open Go Go.ChangeShapes Go.WideShapes Go.ChangeAt Go.RowKit

theorem own : ownKnob Tryd.prog.godebug = none := by kernel_rfl
theorem laidOut : laidOutB Tryd.prog = true := by kernel_rfl

section
variable {H : Type} {enc : TypeId × Value → H} {P : Program} {w : World} {base : Nat} {spare : Nat → Bool} {held : Bool}

/-- An array of numbers, by its cells. -/
theorem open_array {r : Reach} {b0 : Nat} {t e : TypeId} {n : Nat} {k : IntKind} {v : Value} {d : DataW H} {ps : List MemPlace} (hu : P.underlying t = some (.array n e)) (he : P.underlying e = some (.int k)) (hce : P.cellsOf e = 1) (hct : P.cellsOf t = n)
    (hval : Value.okWide P w r b0 t v) (hd : DataW.Trod enc P w base spare held t v d ps) :
    ∃ cs : Array Value, v = .agg cs ∧ cs.size = n ∧ ∀ j, j < n → ∃ z, cs[j]? = some (.int k z) ∧ (Lit.int k z).wf = true := by
  unfold Value.okWide at hval
  rw [hu] at hval
  obtain ⟨cs, rfl, hsz, _⟩ := hval
  obtain ⟨fuel, hf⟩ := hd
  obtain ⟨xs, m, _, _, _, hl, hel⟩ := DataW.trod_array hu hf
  refine ⟨cs, rfl, by rw [hsz, hct], fun j hj => ?_⟩
  have h1 := hel j hj
  rw [List.getElem?_eq_getElem (by rw [hl]; exact hj), hce] at h1
  obtain ⟨z, hz, _, hw⟩ := DataW.trod_int he h1
  refine ⟨z, ?_, hw⟩
  have h2 := congrArg (·[0]?) hz
  simp only [List.getElem?_take, List.getElem?_drop, Nat.mul_one, Nat.add_zero, Nat.zero_lt_one, if_true, List.getElem?_cons_zero] at h2
  simpa [Value.cells] using h2

theorem open_words {r : Reach} {b0 : Nat} {t e : TypeId} {n : Nat} {v : Value} {d : DataW H} {ps : List MemPlace} (hu : P.underlying t = some (.array n e)) (he : P.underlying e = some (.int .u32)) (hce : P.cellsOf e = 1) (hct : P.cellsOf t = n)
    (hval : Value.okWide P w r b0 t v) (hd : DataW.Trod enc P w base spare held t v d ps) : ∃ s : List Wd, v = .agg (ws s) ∧ s.length = n := by
  obtain ⟨cs, rfl, hsz, hc⟩ := open_array hu he hce hct hval hd
  refine ⟨cs.toList.map fun v => wd (intOf v), ?_, by simp [hsz]⟩
  congr 1
  apply Array.ext
  · simp [ws]
  · intro j h1 h2
    obtain ⟨z, hz, hw⟩ := hc j (by omega)
    have hb := bounds_u32 hw
    rw [Array.getElem?_eq_getElem h1] at hz
    have hz' := Option.some.inj hz
    simp only [ws, List.map_map, List.getElem_toArray, List.getElem_map, Array.getElem_toList, Function.comp, hz', intOf]
    rw [u_wd z hb.1 (by omega)]

theorem open_bytes {r : Reach} {b0 : Nat} {t e : TypeId} {n : Nat} {v : Value} {d : DataW H} {ps : List MemPlace} (hu : P.underlying t = some (.array n e)) (he : P.underlying e = some (.int .u8)) (hce : P.cellsOf e = 1) (hct : P.cellsOf t = n)
    (hval : Value.okWide P w r b0 t v) (hd : DataW.Trod enc P w base spare held t v d ps) : ∃ b : List By, v = .agg (bs b) ∧ b.length = n := by
  obtain ⟨cs, rfl, hsz, hc⟩ := open_array hu he hce hct hval hd
  refine ⟨cs.toList.map fun v => BitVec.ofNat 8 (intOf v).toNat, ?_, by simp [hsz]⟩
  congr 1
  apply Array.ext
  · simp [bs]
  · intro j h1 h2
    obtain ⟨z, hz, hw⟩ := hc j (by omega)
    have hb := bounds_u8 hw
    rw [Array.getElem?_eq_getElem h1] at hz
    have hz' := Option.some.inj hz
    simp only [bs, List.map_map, List.getElem_toArray, List.getElem_map, Array.getElem_toList, Function.comp, hz', intOf]
    have : v8 (BitVec.ofNat 8 z.toNat) = z := by
      unfold v8
      rw [BitVec.toNat_ofNat]
      omega
    rw [this]
end
end Go.Proofs.YtjhgelhdhdcmfaaDoor

/-! A slice of bytes that came in, as the walks ask it. -/
namespace Go.Proofs.YtjhgelhdhdcmfaaDoor
open Go Go.ChangeShapes Go.WideShapes Go.ChangeAt Go.RowKit

structure IsRowB (w : World) (a : Option Addr) (len cap g off : Nat) (b : List By) : Prop where
  hlen : b.length = len
  hmost : len ≤ 9223372036854775807
  hcap : len ≤ cap
  hnil : a = none → len = 0 ∧ cap = 0
  at_ : 0 < len → a = some ⟨g, off, none⟩
  hlt : 0 < len → g < w.heap.size
  hcell : ∀ j : Nat, j < len → w.cell? ⟨g, off + j, none⟩ = some (.int .u8 (v8 (gb b j)))

theorem isRowB_of {w : World} {a : Option Addr} {len cap : Nat} (h : (a = none ∧ len = 0 ∧ cap = 0) ∨ ∃ (x : Addr) (zs : List Int), a = some x ∧ len ≤ cap ∧ cap ≤ maxLen ∧ zs.length = cap ∧ (∀ i, i < zs.length → w.cell? (x.add i) = some (.int .u8 (zs.getD i 0))) ∧ ∀ n ∈ zs, (Lit.int .u8 n).wf = true) :
    ∃ g off b, IsRowB w a len cap g off b := by
  rcases h with ⟨rfl, rfl, rfl⟩ | ⟨x, zs, rfl, hl, hm, hz, hc, hw⟩
  · exact ⟨0, 0, [], rfl, by omega, Nat.le_refl _, fun _ => ⟨rfl, rfl⟩, fun h => by omega, fun h => by omega, fun j h => by omega⟩
  · unfold maxLen at hm
    obtain ⟨g, off, spot⟩ := x
    have hlen : ((zs.take len).map fun z => (BitVec.ofNat 8 z.toNat : By)).length = len := by rw [List.length_map, List.length_take]; omega
    have hsp : 0 < len → spot = none := fun h0 => by
      have hc0 := hc 0 (by omega)
      simpa [Addr.add] using World.cell?_spot hc0
    have hcell : ∀ j : Nat, j < len → w.cell? ⟨g, off + j, none⟩ = some (.int .u8 (v8 (gb ((zs.take len).map fun z => (BitVec.ofNat 8 z.toNat : By)) j))) := fun j hj => by
      obtain rfl := hsp (by omega)
      have h1 := hc j (by omega)
      rw [add_at] at h1
      rw [h1]
      have hjz : j < zs.length := by omega
      have hmem : zs[j]'hjz ∈ zs := List.getElem_mem hjz
      have hb := bounds_u8 (hw _ hmem)
      unfold gb v8
      rw [List.getElem?_map, List.getElem?_take_of_lt hj, List.getElem?_eq_getElem hjz, List.getD_eq_getElem?_getD, List.getElem?_eq_getElem hjz]
      simp only [Option.map_some, Option.getD_some, BitVec.toNat_ofNat]
      congr 2
      omega
    refine ⟨g, off, (zs.take len).map fun z => (BitVec.ofNat 8 z.toNat : By), hlen, by omega, hl, fun h => (by cases h), fun h => by rw [hsp h], fun h => ?_, hcell⟩
    have h1 := hcell 0 h
    rcases Nat.lt_or_ge g w.heap.size with h2 | h2
    · exact h2
    · exfalso
      simp [World.cell?, Array.getElem?_eq_none h2] at h1
end Go.Proofs.YtjhgelhdhdcmfaaDoor

/-! Ranges that came in. -/
namespace Go.Proofs.YtjhgelhdhdcmfaaDoor
open Go Go.ChangeShapes Go.WideShapes Go.ChangeAt Go.RowKit

theorem pick_list {α : Type} {Pr : Nat → α → Prop} : ∀ (n : Nat), (∀ i, i < n → ∃ r, Pr i r) → ∃ l : List α, l.length = n ∧ ∀ i, i < n → ∃ r, l[i]? = some r ∧ Pr i r
  | 0, _ => ⟨[], rfl, fun i hi => absurd hi (Nat.not_lt_zero _)⟩
  | n + 1, h => by
    obtain ⟨l, h1, h2⟩ := pick_list n (fun i hi => h i (by omega))
    obtain ⟨r, hr⟩ := h n (by omega)
    refine ⟨l ++ [r], by rw [List.length_append, h1]; rfl, fun i hi => ?_⟩
    rcases Nat.lt_or_ge i n with q | q
    · obtain ⟨r', h3, h4⟩ := h2 i q
      exact ⟨r', by rw [List.getElem?_append_left (by omega)]; exact h3, h4⟩
    · obtain rfl : i = n := by omega
      exact ⟨r, by rw [List.getElem?_append_right (by omega), h1, Nat.sub_self]; rfl, hr⟩
section
variable {H : Type} {enc : TypeId × Value → H} {W : World}
theorem open_u64 {fuel : Nat} {cs : List Value} {x : DataW H × List MemPlace} (hf : DataW.trod enc Tryd.prog W 0 (fun _ => true) true fuel 36 cs = some x) : ∃ n : Nat, cs = [.int .u64 (n : Int)] ∧ n < 18446744073709551616 := by
  obtain ⟨n, h1, _, h3⟩ := DataW.trod_int Tryd.underlying36 hf
  have hb := bounds_u64 h3
  exact ⟨n.toNat, by rw [h1, Int.toNat_of_nonneg hb.1], by omega⟩
theorem two_cells {l : List Value} {a b : Value} (h : l.length = 2) (h0 : (l.drop 0).take 1 = [a]) (h1 : (l.drop 1).take 1 = [b]) : l = [a, b] := by
  match l, h with
  | [x, y], _ => simp at h0 h1; rw [h0, h1]
set_option maxRecDepth 100000 in
theorem open_rg {fuel : Nat} {cs : List Value} {x : DataW H × List MemPlace} (hf : DataW.trod enc Tryd.prog W 0 (fun _ => true) true fuel 44 cs = some x) :
    ∃ r : Nat × Nat, cs = [.int .u64 (r.1 : Int), .int .u64 (r.2 : Int)] ∧ r.1 < 18446744073709551616 ∧ r.2 < 18446744073709551616 := by
  obtain ⟨xs, n, _, hxd, hlen, hxl, hfs⟩ := DataW.trod_struct Tryd.underlying44 hf
  have hl : Tryd.prog.cellsOf 44 = 2 := by kernel_rfl
  have c1 : Tryd.prog.cellsOf 36 = 1 := by kernel_rfl
  have e0 : DataW.trod enc Tryd.prog W 0 (fun _ => true) true n 36 (List.take (Tryd.prog.cellsOf 36) (List.drop 0 _)) = xs[0]? := hfs 0 _ rfl
  have e1 : DataW.trod enc Tryd.prog W 0 (fun _ => true) true n 36 (List.take (Tryd.prog.cellsOf 36) (List.drop 1 _)) = xs[1]? := hfs 1 _ rfl
  have hx : xs.length = 2 := hxl
  rw [c1, List.getElem?_eq_getElem (by omega)] at e0
  rw [c1, List.getElem?_eq_getElem (by omega)] at e1
  obtain ⟨n0, h0, b0⟩ := open_u64 e0
  obtain ⟨n1, h1, b1⟩ := open_u64 e1
  rw [hl] at hlen
  exact ⟨(n0, n1), two_cells hlen h0 h1, b0, b1⟩
set_option maxRecDepth 100000 in
theorem open_rl7 {fuel : Nat} {cs : List Value} {x : DataW H × List MemPlace} (hf : DataW.trod enc Tryd.prog W 0 (fun _ => true) true fuel 37 cs = some x) :
    ∃ q : RL, cs = [.slice q.a q.len q.cap] ∧ q.Ok W ∧ ((∀ m ∈ x.1.weights Tryd.prog 37, m ≤ reachBytes) → q.len ≤ 140737488355328) := by
  rcases DataW.trod_slice Tryd.underlying37 hf with ⟨hcs, hx⟩ | ⟨a, len, cap, elems, rest, n, _, hcs, hx, _, hl, hm, hlen, hel, hsp, _⟩
  · exact ⟨⟨none, 0, 0, 0, 0, []⟩, hcs, ⟨rfl, Nat.le_refl _, fun _ => ⟨rfl, rfl⟩, fun p => absurd p (Nat.lt_irrefl _), fun p => absurd p (Nat.lt_irrefl _), fun _ h => absurd h (Nat.not_lt_zero _), fun _ => ⟨by show (0 : Nat) < _; decide, by show (0 : Nat) < _; decide⟩⟩, fun _ => Nat.zero_le _⟩
  · have hc2 : Tryd.prog.cellsOf 44 = 2 := by kernel_rfl
    have each : ∀ i, i < len → ∃ r : Nat × Nat, W.cell? ((a.add (i * 2)).add 0) = some (.int .u64 (r.1 : Int)) ∧ W.cell? ((a.add (i * 2)).add 1) = some (.int .u64 (r.2 : Int)) ∧ r.1 < 18446744073709551616 ∧ r.2 < 18446744073709551616 := by
      intro i hi
      have h := hel i hi
      rw [hc2, List.getElem?_eq_getElem (by omega), Option.bind_eq_some_iff] at h
      obtain ⟨cs', h1, h2⟩ := h
      obtain ⟨_, h3, h4⟩ := World.cells?_some h1
      obtain ⟨r, h5, h6, h7⟩ := open_rg h2
      rw [h5] at h4
      exact ⟨r, h4 0 (by decide), h4 1 (by decide), h6, h7⟩
    obtain ⟨l, hll, hl2⟩ := pick_list len each
    obtain ⟨g, off, spot⟩ := a
    have hspot : 0 < len → spot = none := fun p => by
      obtain ⟨r, h1, _⟩ := each 0 p
      have := World.cell?_spot h1
      simpa [Addr.add] using this
    refine ⟨⟨some ⟨g, off, spot⟩, len, cap, g, off, l⟩, hcs, ⟨hll, hl, (fun e => by cases e), fun p => by rw [hspot p], fun p => ?_, fun j hj => ?_, fun j => ?_⟩, fun hw => ?_⟩
    · obtain rfl := hspot p
      obtain ⟨r, h1, _⟩ := each 0 p
      rcases Nat.lt_or_ge g W.heap.size with q | q
      · exact q
      · exfalso
        simp [World.cell?, Addr.add, Array.getElem?_eq_none q] at h1
    · have hj' : j < len := hj
      obtain rfl := hspot (by omega)
      obtain ⟨r, h0, h1, h2, _⟩ := hl2 j hj'
      have e : gr l j = r := by unfold gr; rw [h0]; rfl
      rw [Addr.add_mid, Addr.add_mid] at h1 h2
      show W.cell? ⟨g, off + j * 2, none⟩ = some (.int .u64 ((gr l j).1 : Int)) ∧ W.cell? ⟨g, off + j * 2 + 1, none⟩ = some (.int .u64 ((gr l j).2 : Int))
      rw [e]
      exact ⟨by rw [← h1, Nat.add_zero], h2⟩
    · show (gr l j).1 < _ ∧ (gr l j).2 < _
      rcases Nat.lt_or_ge j len with q | q
      · obtain ⟨r, h0, _, _, h3, h4⟩ := hl2 j q
        have e : gr l j = r := by unfold gr; rw [h0]; rfl
        rw [e]
        exact ⟨h3, h4⟩
      · have e : gr l j = (0, 0) := by unfold gr; rw [List.getElem?_eq_none (by omega)]; rfl
        rw [e]
        exact ⟨by decide, by decide⟩
    · have e : x.1 = .slice (elems.map (·.1)) (rest.map (·.1)) := congrArg Prod.fst hx
      rw [e] at hw
      have h := hw _ (show ((elems.map (·.1)).length + (rest.map (·.1)).length) * Tryd.prog.bytesOf 44 ∈ _ by simp [DataW.weights, Tryd.underlying37])
      have hb : Tryd.prog.bytesOf 44 = 16 := by kernel_rfl
      rw [hb] at h
      have hr47 := reachBytes_lt
      simp only [List.length_map] at h
      show len ≤ _
      omega
end
section
variable {H : Type} {enc : TypeId × Value → H} {W : World} {base : Nat} {v : Value} {d : DataW H} {ps : List MemPlace}
theorem open_rl (hval : Value.okWide Tryd.prog W .any base 37 v) (h0 : DataW.Trod enc Tryd.prog W 0 (fun _ => true) true 37 v d ps) :
    ∃ q : RL, v = .slice q.a q.len q.cap ∧ q.Ok W ∧ ((∀ m ∈ d.weights Tryd.prog 37, m ≤ reachBytes) → q.len ≤ 140737488355328) := by
  obtain ⟨a0, len0, cap0, rfl⟩ := okWide_slice Tryd.underlying37 hval
  obtain ⟨fuel, hf⟩ := h0
  obtain ⟨q, hcs, h⟩ := open_rl7 hf
  refine ⟨q, ?_, h⟩
  have hcs' : [Value.slice a0 len0 cap0] = [Value.slice q.a q.len q.cap] := hcs
  exact List.head_eq_of_cons_eq hcs'
theorem open_u7 (hval : Value.okWide Tryd.prog W .any base 36 v) (h0 : DataW.Trod enc Tryd.prog W 0 (fun _ => true) true 36 v d ps) : ∃ n : Nat, v = .int .u64 (n : Int) ∧ n < 18446744073709551616 := by
  obtain ⟨a, rfl, _, _, hw⟩ := open_int Tryd.underlying36 hval h0
  have hb := bounds_u64 hw
  exact ⟨a.toNat, by rw [Int.toNat_of_nonneg hb.1], by omega⟩
theorem open_range (hval : Value.okWide Tryd.prog W .any base 44 v) (h0 : DataW.Trod enc Tryd.prog W 0 (fun _ => true) true 44 v d ps) : ∃ x y : Nat, v = .agg #[.int .u64 (x : Int), .int .u64 (y : Int)] ∧ x < 18446744073709551616 ∧ y < 18446744073709551616 := by
  unfold Value.okWide at hval
  rw [Tryd.underlying44] at hval
  obtain ⟨cs, rfl, hsz, _⟩ := hval
  obtain ⟨fuel, hf⟩ := h0
  obtain ⟨r, hcs, h1, h2⟩ := open_rg hf
  refine ⟨r.1, r.2, ?_, h1, h2⟩
  have hcs' : cs.toList = [.int .u64 (r.1 : Int), .int .u64 (r.2 : Int)] := hcs
  congr 1
  apply Array.ext'
  exact hcs'
end
end Go.Proofs.YtjhgelhdhdcmfaaDoor

/-! Bytes, ranges and frames that came in. -/
namespace Go.Proofs.YtjhgelhdhdcmfaaDoor
open Go Go.ChangeShapes Go.WideShapes Go.ChangeAt Go.RowKit

theorem weights_mem_all {H : Type} {P : Program} {e : TypeId} : ∀ {ds : List (DataW H)} {j : Nat} {d : DataW H}, ds[j]? = some d → ∀ n ∈ d.weights P e, n ∈ DataW.weightsAll P e ds
  | d0 :: ds, 0, d, hd, n, hn => by
    simp only [List.getElem?_cons_zero, Option.some.injEq] at hd
    subst hd
    simp only [DataW.weightsAll, List.mem_append]
    exact Or.inl hn
  | d0 :: ds, j + 1, d, hd, n, hn => by
    rw [List.getElem?_cons_succ] at hd
    simp only [DataW.weightsAll, List.mem_append]
    exact Or.inr (weights_mem_all hd n hn)
section
variable {H : Type} {enc : TypeId × Value → H} {W : World}
set_option maxRecDepth 100000 in
theorem open_sl7 {fuel : Nat} {cs : List Value} {x : DataW H × List MemPlace} (hf : DataW.trod enc Tryd.prog W 0 (fun _ => true) true fuel 26 cs = some x) :
    ∃ q : SL, cs = [.slice q.a q.len q.cap] ∧ q.Ok W ∧ (0 < q.len → q.Told) ∧ ((∀ m ∈ x.1.weights Tryd.prog 26, m ≤ reachBytes) → q.len ≤ 140737488355328) := by
  rcases open_ints Tryd.underlying26 Tryd.underlying5 (by kernel_rfl) hf with ⟨hcs, hx⟩ | ⟨x0, l, c, zs, hcs, _, hl, hm, hz, hx, hcell, hwz⟩
  · obtain ⟨g, off, b, hr⟩ := isRowB_of (w := W) (a := none) (len := 0) (cap := 0) (.inl ⟨rfl, rfl, rfl⟩)
    exact ⟨⟨none, 0, 0, g, off, b⟩, hcs, ⟨hr.hlen, hr.hcap, hr.hnil, hr.at_, hr.hlt, hr.hcell⟩, fun p => absurd p (Nat.lt_irrefl _), fun _ => Nat.zero_le _⟩
  · have hz' : zs.length = c := by simpa using hz
    obtain ⟨g, off, b, hr⟩ := isRowB_of (w := W) (a := some x0) (len := l) (cap := c) (.inr ⟨_, zs, rfl, hl, hm, hz', hcell, hwz⟩)
    refine ⟨⟨some x0, l, c, g, off, b⟩, hcs, ⟨hr.hlen, hr.hcap, hr.hnil, hr.at_, hr.hlt, hr.hcell⟩, fun p q hq => ?_, fun hw => ?_⟩
    · have := hr.at_ p
      have e1 : some x0 = some q := hq
      rw [this] at e1
      exact (Option.some.inj e1).symm
    have e : x.1 = .slice (lits .u8 (zs.take l)) (lits .u8 (zs.drop l)) := congrArg Prod.fst hx
    rw [e] at hw
    have h := hw _ (show ((lits .u8 (zs.take l) : List (DataW H)).length + (lits .u8 (zs.drop l) : List (DataW H)).length) * Tryd.prog.bytesOf 5 ∈ _ by simp [DataW.weights, Tryd.underlying26])
    have hb : Tryd.prog.bytesOf 5 = 1 := by kernel_rfl
    rw [hb] at h
    have hr47 := reachBytes_lt
    simp only [lits, List.length_map, List.length_take, List.length_drop] at h
    show l ≤ _
    omega
theorem eight_cells {l : List Value} {a b c d e f g h : Value} (hl : l.length = 8) (h0 : (l.drop 0).take 1 = [a]) (h1 : (l.drop 1).take 1 = [b]) (h2 : (l.drop 2).take 1 = [c]) (h3 : (l.drop 3).take 1 = [d]) (h4 : (l.drop 4).take 1 = [e]) (h5 : (l.drop 5).take 1 = [f]) (h6 : (l.drop 6).take 1 = [g]) (h7 : (l.drop 7).take 1 = [h]) : l = [a, b, c, d, e, f, g, h] := by
  match l, hl with
  | [x0, x1, x2, x3, x4, x5, x6, x7], _ => simp at h0 h1 h2 h3 h4 h5 h6 h7; rw [h0, h1, h2, h3, h4, h5, h6, h7]
set_option maxRecDepth 100000 in
theorem open_fr7 {fuel : Nat} {cs : List Value} {x : DataW H × List MemPlace} (hf : DataW.trod enc Tryd.prog W 0 (fun _ => true) true fuel 39 cs = some x) :
    ∃ f : FrM, cs = f.cells.toList ∧ f.Ok W ∧ ((∀ m ∈ x.1.weights Tryd.prog 39, m ≤ reachBytes) → f.data.len ≤ 140737488355328 ∧ f.ranges.len ≤ 140737488355328) := by
  obtain ⟨xs, n, _, hxd, hlen, hxl, hfs⟩ := DataW.trod_struct Tryd.underlying39 hf
  have hl : Tryd.prog.cellsOf 39 = 8 := by kernel_rfl
  have cU : Tryd.prog.cellsOf 36 = 1 := by kernel_rfl
  have cK : Tryd.prog.cellsOf 35 = 1 := by kernel_rfl
  have cB : Tryd.prog.cellsOf 4 = 1 := by kernel_rfl
  have cD : Tryd.prog.cellsOf 26 = 1 := by kernel_rfl
  have cR : Tryd.prog.cellsOf 37 = 1 := by kernel_rfl
  have hx : xs.length = 8 := hxl
  have e0 : DataW.trod enc Tryd.prog W 0 (fun _ => true) true n 35 (List.take (Tryd.prog.cellsOf 35) (List.drop 0 _)) = xs[0]? := hfs 0 _ rfl
  have e1 : DataW.trod enc Tryd.prog W 0 (fun _ => true) true n 36 (List.take (Tryd.prog.cellsOf 36) (List.drop 1 _)) = xs[1]? := hfs 1 _ rfl
  have e2 : DataW.trod enc Tryd.prog W 0 (fun _ => true) true n 36 (List.take (Tryd.prog.cellsOf 36) (List.drop 2 _)) = xs[2]? := hfs 2 _ rfl
  have e3 : DataW.trod enc Tryd.prog W 0 (fun _ => true) true n 36 (List.take (Tryd.prog.cellsOf 36) (List.drop 3 _)) = xs[3]? := hfs 3 _ rfl
  have e4 : DataW.trod enc Tryd.prog W 0 (fun _ => true) true n 36 (List.take (Tryd.prog.cellsOf 36) (List.drop 4 _)) = xs[4]? := hfs 4 _ rfl
  have e5 : DataW.trod enc Tryd.prog W 0 (fun _ => true) true n 4 (List.take (Tryd.prog.cellsOf 4) (List.drop 5 _)) = xs[5]? := hfs 5 _ rfl
  have e6 : DataW.trod enc Tryd.prog W 0 (fun _ => true) true n 26 (List.take (Tryd.prog.cellsOf 26) (List.drop 6 _)) = xs[6]? := hfs 6 _ rfl
  have e7 : DataW.trod enc Tryd.prog W 0 (fun _ => true) true n 37 (List.take (Tryd.prog.cellsOf 37) (List.drop 7 _)) = xs[7]? := hfs 7 _ rfl
  rw [cK, List.getElem?_eq_getElem (by omega)] at e0
  rw [cU, List.getElem?_eq_getElem (by omega)] at e1 e2 e3 e4
  rw [cB, List.getElem?_eq_getElem (by omega)] at e5
  rw [cD, List.getElem?_eq_getElem (by omega)] at e6
  rw [cR, List.getElem?_eq_getElem (by omega)] at e7
  obtain ⟨k0, h0, _, w0⟩ := DataW.trod_int Tryd.underlying35 e0
  obtain ⟨n1, h1, b1⟩ := open_u64 e1
  obtain ⟨n2, h2, b2⟩ := open_u64 e2
  obtain ⟨n3, h3, b3⟩ := open_u64 e3
  obtain ⟨n4, h4, b4⟩ := open_u64 e4
  obtain ⟨b5, h5, _⟩ := DataW.trod_bool Tryd.underlying4 e5
  obtain ⟨sd, h6, ok6, _, hw6⟩ := open_sl7 e6
  obtain ⟨sr, h7, ok7, hw7⟩ := open_rl7 e7
  have hb0 := bounds_u8 w0
  rw [hl] at hlen
  have hd : x.1 = .agg (xs.map (·.1)) := congrArg Prod.fst hxd
  refine ⟨⟨k0.toNat, n1, n2, n3, n4, b5, sd, sr⟩, ?_, ⟨ok6, ok7, by show k0.toNat < 256; omega, b1, b2, b3, b4⟩, fun hw => ⟨hw6 fun m hm => hw m ?_, hw7 fun m hm => hw m ?_⟩⟩
  · rw [eight_cells hlen h0 h1 h2 h3 h4 h5 h6 h7]
    unfold FrM.cells
    simp only
    rw [Int.toNat_of_nonneg hb0.1]
  all_goals
    rw [hd]
    unfold DataW.weights
    rw [Tryd.underlying39]
  · refine DataW.weights_mem_each (j := 6) (t := 26) rfl (d := (xs[6]'(by omega)).1) ?_ m hm
    rw [List.getElem?_map, List.getElem?_eq_getElem (by omega)]
    rfl
  · refine DataW.weights_mem_each (j := 7) (t := 37) rfl (d := (xs[7]'(by omega)).1) ?_ m hm
    rw [List.getElem?_map, List.getElem?_eq_getElem (by omega)]
    rfl
set_option maxRecDepth 100000 in
theorem open_fs7 {fuel : Nat} {cs : List Value} {x : DataW H × List MemPlace} (hf : DataW.trod enc Tryd.prog W 0 (fun _ => true) true fuel 22 cs = some x) :
    ∃ q : FS, cs = [.slice q.a q.len q.cap] ∧ q.Ok W ∧ ((∀ m ∈ x.1.weights Tryd.prog 22, m ≤ reachBytes) → q.len ≤ 140737488355328 ∧ ∀ j, j < q.len → (gf q.l j).data.len ≤ 140737488355328 ∧ (gf q.l j).ranges.len ≤ 140737488355328) := by
  rcases DataW.trod_slice Tryd.underlying22 hf with ⟨hcs, hx⟩ | ⟨a, len, cap, elems, rest, n, _, hcs, hx, _, hl, hm, hlen, hel, hsp, _⟩
  · exact ⟨⟨none, 0, 0, 0, 0, []⟩, hcs, ⟨rfl, Nat.le_refl _, fun _ => ⟨rfl, rfl⟩, fun p => absurd p (Nat.lt_irrefl _), fun p => absurd p (Nat.lt_irrefl _), fun _ h => absurd h (Nat.not_lt_zero _), fun _ h => absurd h (Nat.not_lt_zero _)⟩, fun _ => ⟨Nat.zero_le _, fun _ h => absurd h (Nat.not_lt_zero _)⟩⟩
  · have hc8 : Tryd.prog.cellsOf 39 = 8 := by kernel_rfl
    have each : ∀ i, i < len → ∃ f : FrM, (∀ j, j < 8 → W.cell? ((a.add (i * 8)).add j) = f.cells.toList[j]?) ∧ f.Ok W ∧ ∃ e, elems[i]? = some e ∧ ((∀ m ∈ e.1.weights Tryd.prog 39, m ≤ reachBytes) → f.data.len ≤ 140737488355328 ∧ f.ranges.len ≤ 140737488355328) := by
      intro i hi
      have h := hel i hi
      rw [hc8, List.getElem?_eq_getElem (by omega), Option.bind_eq_some_iff] at h
      obtain ⟨cs', h1, h2⟩ := h
      obtain ⟨_, h3, h4⟩ := World.cells?_some h1
      obtain ⟨f, h5, h6, h7⟩ := open_fr7 h2
      rw [h5] at h4
      exact ⟨f, h4, h6, _, List.getElem?_eq_getElem (by omega), h7⟩
    obtain ⟨l, hll, hl2⟩ := pick_list len each
    obtain ⟨g, off, spot⟩ := a
    have hspot : 0 < len → spot = none := fun p => by
      obtain ⟨f, h1, _⟩ := each 0 p
      have := World.cell?_spot (h1 0 (by decide))
      simpa [Addr.add] using this
    have getl : ∀ j, j < len → ∃ f, gf l j = f ∧ (∀ i, i < 8 → W.cell? (((⟨g, off, spot⟩ : Addr).add (j * 8)).add i) = f.cells.toList[i]?) ∧ f.Ok W ∧ ∃ e, elems[j]? = some e ∧ ((∀ m ∈ e.1.weights Tryd.prog 39, m ≤ reachBytes) → f.data.len ≤ 140737488355328 ∧ f.ranges.len ≤ 140737488355328) := by
      intro j hj
      obtain ⟨f, h0, h1⟩ := hl2 j hj
      exact ⟨f, by unfold gf; rw [h0]; rfl, h1⟩
    refine ⟨⟨some ⟨g, off, spot⟩, len, cap, g, off, l⟩, hcs, ⟨hll, hl, (fun e => by cases e), fun p => by rw [hspot p], fun p => ?_, fun j hj => ?_, fun j hj => ?_⟩, fun hw => ?_⟩
    · obtain rfl := hspot p
      obtain ⟨f, h1, _⟩ := each 0 p
      have h2 := h1 0 (by decide)
      rcases Nat.lt_or_ge g W.heap.size with q | q
      · exact q
      · exfalso
        simp [World.cell?, Addr.add, Array.getElem?_eq_none q, FrM.cells] at h2
    · have hj' : j < len := hj
      obtain rfl := hspot (by omega)
      obtain ⟨f, e, h1, _⟩ := getl j hj'
      show W.rangeAt g (off + j * 8) (gf l j).cells.toList
      rw [e]
      intro i u hu
      have hi : i < 8 := by have := (List.getElem?_eq_some_iff.1 hu).1; exact this
      have := h1 i hi
      rw [Addr.add_mid, Addr.add_mid] at this
      rw [this]
      exact hu
    · obtain ⟨f, e, _, h2, _⟩ := getl j hj
      show (gf l j).Ok W
      rw [e]
      exact h2
    · have e : x.1 = .slice (elems.map (·.1)) (rest.map (·.1)) := congrArg Prod.fst hx
      rw [e] at hw
      refine ⟨?_, fun j hj => ?_⟩
      · have h := hw _ (show ((elems.map (·.1)).length + (rest.map (·.1)).length) * Tryd.prog.bytesOf 39 ∈ _ by simp [DataW.weights, Tryd.underlying22])
        have hb : Tryd.prog.bytesOf 39 = 96 := by kernel_rfl
        rw [hb] at h
        have hr47 := reachBytes_lt
        simp only [List.length_map] at h
        show len ≤ _
        omega
      · obtain ⟨f, e2, _, _, y, hy, h3⟩ := getl j hj
        show (gf l j).data.len ≤ _ ∧ (gf l j).ranges.len ≤ _
        rw [e2]
        refine h3 fun m hm => hw m ?_
        unfold DataW.weights
        rw [Tryd.underlying22]
        refine List.mem_cons_of_mem _ (List.mem_append_left _ (weights_mem_all (j := j) (d := y.1) ?_ m hm))
        rw [List.getElem?_map, hy]
        rfl
end
end Go.Proofs.YtjhgelhdhdcmfaaDoor

/-! Which errors reading frames may have. -/
namespace Go.Proofs.YtjhgelhdhdcmfaaDoor
namespace Fr
def Ers {α : Type} (m : R α) : Prop := ∀ b e, m b = .error e → e = 3 ∨ e = 4 ∨ e = 5
theorem ers_num : Ers numR := by
  intro b e h
  unfold numR at h
  split at h
  · injection h with h; exact .inr (.inl h.symm)
  · cases h
theorem ers_ok {α : Type} (a : α) : Ers (okR a) := by
  intro b e h
  cases h
theorem ers_no {α : Type} (e : Nat) (he : e = 3 ∨ e = 4 ∨ e = 5) : Ers (noR e : R α) := by
  intro b e' h
  injection h with h
  rw [← h]
  exact he
theorem ers_then {α β : Type} {m : R α} {f : α → R β} (hm : Ers m) (hf : ∀ a, Ers (f a)) : Ers (thenR m f) := by
  intro b e h
  unfold thenR at h
  split at h
  · exact hf _ _ _ h
  · rename_i e' he
    injection h with h
    rw [← h]
    exact hm _ _ he
theorem ers_ite {α : Type} {c : Prop} [Decidable c] {m n : R α} (hm : Ers m) (hn : Ers n) : Ers (if c then m else n) := by
  split
  · exact hm
  · exact hn
theorem ers_data (n : Nat) : Ers (dataR n) := by
  intro b e h
  unfold dataR at h
  split at h
  · injection h with h; exact .inr (.inl h.symm)
  · cases h
theorem ers_5 {α : Type} : Ers (noR 5 : R α) := ers_no 5 (.inr (.inr rfl))
theorem ers_placed (o : Nat) : Ers (placedR o) := ers_then ers_num fun _ => ers_ite ers_5 (ers_data _)
theorem ers_rest (o : Nat) : Ers (restR o) := by
  intro b e h
  unfold restR at h
  split at h
  · injection h with h; exact .inr (.inr h.symm)
  · cases h
theorem ers_ackLoop : ∀ m to, Ers (ackLoop m to)
  | 0, _ => ers_then ers_num fun _ => ers_ite ers_5 (ers_ok _)
  | m + 1, _ => ers_then ers_num fun _ => ers_ite ers_5 (ers_then ers_num fun _ => ers_ite ers_5 (ers_then (ers_ackLoop m _) fun _ => ers_ok _))
theorem ers_ack : Ers ackR := ers_then ers_num fun _ => ers_then ers_num fun _ => ers_then ers_num fun _ => ers_ite (ers_no 3 (.inl rfl)) (ers_then (ers_ackLoop _ _) fun _ => ers_ok _)
theorem ers_stream (k : Nat) : Ers (streamR k) := ers_then ers_num fun _ => ers_then (ers_ite ers_num (ers_ok _)) fun _ => ers_then (ers_ite (ers_placed _) (ers_rest _)) fun _ => ers_ok _
theorem ers_body (k : Nat) : Ers (bodyR k) := by
  unfold bodyR
  split
  all_goals first
    | exact ers_ok _
    | exact ers_5
    | exact ers_ack
    | exact ers_stream _
    | exact ers_then ers_num fun _ => ers_ok _
    | exact ers_then ers_num fun _ => ers_then ers_num fun _ => ers_ok _
    | exact ers_then ers_num fun _ => ers_then ers_num fun _ => ers_then ers_num fun _ => ers_ok _
    | exact ers_then ers_num fun _ => ers_then (ers_placed _) fun _ => ers_ok _
    | exact ers_then ers_num fun _ => ers_ite ers_5 (ers_ok _)
    | exact ers_then ers_num fun _ => ers_then ers_num fun _ => ers_ite (ers_then (ers_placed _) fun _ => ers_ok _) ers_5
theorem ers_frame : Ers frameR := by
  intro b e h
  unfold frameR at h
  split at h
  · injection h with h; exact .inr (.inl h.symm)
  · split at h
    · exact ers_body _ _ _ h
    · injection h with h; exact .inr (.inr h.symm)
theorem ers_loop : ∀ (fuel : Nat) (b : List By) (acc : List Frame) (e : Nat), b.length ≤ fuel → getLoop fuel b acc = .error e → e = 3 ∨ e = 4 ∨ e = 5
  | 0, [], acc, e, _, h => by cases h
  | 0, c :: b, acc, e, hl, _ => by simp at hl
  | fuel + 1, [], acc, e, _, h => by cases h
  | fuel + 1, c :: b, acc, e, hl, h => by
    have hl' : b.length ≤ fuel := by simpa using hl
    unfold getLoop at h
    split at h
    · split at h
      · injection h with h; exact .inl h.symm
      · exact ers_loop fuel b _ e hl' h
    · split at h
      · injection h with h; exact .inl h.symm
      · split at h
        · rename_i e' he
          injection h with h
          rw [← h]
          exact ers_frame _ _ he
        · rename_i f b' hf
          have hlt := frameR_less hf
          rw [List.length_cons] at hlt
          exact ers_loop fuel b' _ e (by omega) h
theorem get_errs {b : List By} {e : Nat} (h : getAll b = .error e) : e = 3 ∨ e = 4 ∨ e = 5 := by
  unfold getAll at h
  split at h
  · injection h with h; exact .inl h.symm
  · split at h
    · rename_i e' he
      injection h with h
      rw [← h]
      exact ers_loop _ _ _ _ (Nat.le_refl _) he
    · cases h
end Fr
end Go.Proofs.YtjhgelhdhdcmfaaDoor

/-! How great frames are, as the statements ask it: FrameSize, FramesSize, Beyond. -/
namespace Go.Proofs.YtjhgelhdhdcmfaaDoor
open Go Go.RowKit

theorem bytes_size (a : Option Addr) (n c : Nat) (w : World) : Calls Tryd.prog 23 #[.slice a n c] w fun e w' => e = .returned (.int .i64 (n : Int)) ∧ w' = w := by
  go_enter Tryd.func23, Tryd.ntmps23
  go_wp2_with fail
  go_ret
  exact ⟨rfl, rfl⟩
theorem ranges_size (a : Option Addr) (n c : Nat) (w : World) : Calls Tryd.prog 24 #[.slice a n c] w fun e w' => e = .returned (.int .i64 (n : Int)) ∧ w' = w := by
  go_enter Tryd.func24, Tryd.ntmps24
  go_wp2_with fail
  go_ret
  exact ⟨rfl, rfl⟩
set_option maxRecDepth 20000 in
set_option maxHeartbeats 1000000 in
theorem frame_size (f : FrM) (w : World) (hd : f.data.len ≤ 140737488355328) (hr : f.ranges.len ≤ 140737488355328) :
    Calls Tryd.prog 17 #[.agg f.cells] w fun e w' => (∃ N : Nat, e = .returned (.int .i64 (N : Int)) ∧ N ≤ 281474976710657 ∧ (N ≤ 1048576 → f.data.len ≤ 1048576 ∧ f.ranges.len ≤ 1048576)) ∧ Below w.heap.size w w' := by
  obtain ⟨k, st, of, li, co, fi, da, ra⟩ := f
  simp only at hd hr ⊢
  have r0 : Row (w.alloc (.cells (FrM.mk k st of li co fi da ra).cells 39)) w.heap.size 39 (FrM.mk k st of li co fi da ra).cells := Row.new _ _ _
  have b0 : Below w.heap.size w (w.alloc (.cells (FrM.mk k st of li co fi da ra).cells 39)) := (Below.refl _ w).alloc (Nat.le_refl _) _
  obtain ⟨c0, c1, c2, c3, c4, c5, c6, c7⟩ := fr_cells r0
  simp only at c0 c1 c2 c3 c4 c5 c6 c7
  have HB0 := veil b0
  clear r0 b0
  have w1 : IntKind.i64.wrap (1 + (da.len : Int)) = 1 + (da.len : Int) := by rw [IntKind.wrap_i64]; omega
  by_cases h1 : 1 + da.len ≤ 1048576
  · have f1 : decide (1 + (da.len : Int) ≤ 1048576) = true := by simp; omega
    have w2 : IntKind.i64.wrap (1 + (da.len : Int) + (ra.len : Int)) = 1 + (da.len : Int) + (ra.len : Int) := by rw [IntKind.wrap_i64]; omega
    have HR := veil (show ∃ N : Nat, Ending.returned (.int .i64 (1 + (da.len : Int) + (ra.len : Int))) = .returned (.int .i64 (N : Int)) ∧ N ≤ 281474976710657 ∧ (N ≤ 1048576 → da.len ≤ 1048576 ∧ ra.len ≤ 1048576) from ⟨1 + da.len + ra.len, by congr 2, by omega, by omega⟩)
    clear h1
    go_enter Tryd.func17, Tryd.ntmps17
    go_wp2_with fail
    refine (bytes_size _ _ _ _).mono ?_
    rintro e1 w1 ⟨rfl, rfl⟩
    go_wp2_with fail
    refine (ranges_size _ _ _ _).mono ?_
    rintro e2 w2 ⟨rfl, rfl⟩
    go_wp2_with fail
    go_ret
    exact ⟨HR.out, HB0.out⟩
  · have f1 : decide (1 + (da.len : Int) ≤ 1048576) = false := by simp; omega
    have HR := veil (show ∃ N : Nat, Ending.returned (.int .i64 (1 + (da.len : Int))) = .returned (.int .i64 (N : Int)) ∧ N ≤ 281474976710657 ∧ (N ≤ 1048576 → da.len ≤ 1048576 ∧ ra.len ≤ 1048576) from ⟨1 + da.len, by congr 2, by omega, by omega⟩)
    clear h1
    go_enter Tryd.func17, Tryd.ntmps17
    go_wp2_with fail
    refine (bytes_size _ _ _ _).mono ?_
    rintro e1 w1 ⟨rfl, rfl⟩
    go_wp2_with fail
    go_ret
    exact ⟨HR.out, HB0.out⟩

set_option maxRecDepth 20000 in
set_option maxHeartbeats 2000000 in
theorem frames_size (s : FS) (w : World) (hs : s.Ok w) (hl : s.len ≤ 140737488355328) (hd : ∀ j, j < s.len → (gf s.l j).data.len ≤ 140737488355328 ∧ (gf s.l j).ranges.len ≤ 140737488355328) :
    Calls Tryd.prog 9 #[.slice s.a s.len s.cap] w fun e w' => (∃ N : Nat, e = .returned (.int .i64 (N : Int)) ∧ N ≤ 1000000000000000 ∧ (N ≤ 1048576 → s.len ≤ 1048576 ∧ ∀ j, j < s.len → (gf s.l j).data.len ≤ 1048576 ∧ (gf s.l j).ranges.len ≤ 1048576)) ∧ Below w.heap.size w w' := by
  obtain ⟨a, len, cap, g, off, l⟩ := s
  have HP := veil hs
  have HD := veil hd
  clear hs hd
  simp only at hl HD ⊢
  go_enter Tryd.func9, Tryd.ntmps9
  go_wp2_with fail
  go_loopw [3, 4] (fun v i wr => ∃ (k N : Nat), k ≤ len ∧ i = .int .i64 (k : Int) ∧ v = .int .i64 (N : Int) ∧ (len ≤ N ∧ N ≤ 500000000000000) ∧ (N ≤ 1048576 → ∀ j, j < k → (gf l j).data.len ≤ 1048576 ∧ (gf l j).ranges.len ≤ 1048576) ∧ Below w.heap.size w wr)
    (fun _ i _ => len - (intOf i).toNat)
  case atStart => exact ⟨0, len, Nat.zero_le _, rfl, rfl, ⟨Nat.le_refl _, by omega⟩, fun _ j hj => absurd hj (Nat.not_lt_zero _), Below.refl _ _⟩
  case round =>
    obtain ⟨k, N, hk, rfl, rfl, ⟨hN1, hN2⟩, hJ, hbel⟩ := hrel
    have HJ := veil hJ
    have HB := veil hbel
    by_cases hlt : k < len
    · have hd0 : decide ((k : Int) < (len : Int)) = true := by simp; omega
      have hd0n : decide (k < len) = true := by simp; omega
      by_cases hm : N ≤ 1048576
      · have f1 : decide ((N : Int) ≤ 1048576) = true := by simp; omega
        have f1n : decide (N ≤ 1048576) = true := by simp; omega
        have e1 : a = some ⟨g, off, none⟩ := HP.out.at_ (show 0 < len by omega)
        subst e1
        have hc := (HP.out.below hbel).cell k hlt
        have hdk := HD.out k hlt
        obtain ⟨K, ek⟩ : ∃ K, K = gf l k := ⟨_, rfl⟩
        simp only at hc
        rw [← ek] at hc hdk
        obtain ⟨kk, st, of, li, co, fi, da, ra⟩ := K
        have a0 := hc 0 _ rfl
        have a1 := hc 1 _ rfl
        have a2 := hc 2 _ rfl
        have a3 := hc 3 _ rfl
        have a4 := hc 4 _ rfl
        have a5 := hc 5 _ rfl
        have a6 := hc 6 _ rfl
        have a7 := hc 7 _ rfl
        simp only [Nat.add_zero] at a0 a1 a2 a3 a4 a5 a6 a7
        have EK := veil ek
        clear hc ek hJ hbel
        go_wp2_with fail
        clear a0 a1 a2 a3 a4 a5 a6 a7
        refine (frame_size ⟨kk, st, of, li, co, fi, da, ra⟩ wr hdk.1 hdk.2).mono ?_
        rintro e2 w2 ⟨⟨M, rfl, hM1, hM2⟩, hb2⟩
        have B2 := veil (HB.out.trans (hb2.mono HB.out.size))
        have hw : IntKind.i64.wrap ((N : Int) + (M : Int)) = ((N + M : Nat) : Int) := by rw [IntKind.wrap_i64]; omega
        have J2 := veil (show N + M ≤ 1048576 → ∀ j, j < k + 1 → (gf l j).data.len ≤ 1048576 ∧ (gf l j).ranges.len ≤ 1048576 by
          intro h j hj
          rcases Nat.lt_or_ge j k with q | q
          · exact HJ.out (by omega) j q
          · obtain rfl : j = k := by omega
            rw [← EK.out]
            exact hM2 (by omega))
        have hb3 : N + M ≤ 500000000000000 := by omega
        have hb4 : len ≤ N + M := by omega
        clear hM2 hb2 HJ EK
        go_wp2_with fail
        go_roundw
        case rel => exact ⟨k + 1, N + M, by omega, by go_num, by go_num, ⟨hb4, hb3⟩, J2.out, B2.out⟩
        case measure => simp [intOf]; omega
      · have f1 : decide ((N : Int) ≤ 1048576) = false := by simp; omega
        have f1n : decide (N ≤ 1048576) = false := by simp; omega
        have HR := veil (show ∃ M : Nat, Ending.returned (.int .i64 (N : Int)) = .returned (.int .i64 (M : Int)) ∧ M ≤ 1000000000000000 ∧ (M ≤ 1048576 → len ≤ 1048576 ∧ ∀ j, j < len → (gf l j).data.len ≤ 1048576 ∧ (gf l j).ranges.len ≤ 1048576) from ⟨N, rfl, by omega, fun h => absurd h hm⟩)
        clear hJ hbel hm
        go_wp2_with fail
        go_ret
        exact ⟨HR.out, HB.out⟩
    · obtain rfl : len = k := by omega
      have hd0 : decide ((len : Int) < (len : Int)) = false := by simp
      have hd0n : decide (len < len) = false := by simp
      have HR := veil (show ∃ M : Nat, Ending.returned (.int .i64 (N : Int)) = .returned (.int .i64 (M : Int)) ∧ M ≤ 1000000000000000 ∧ (M ≤ 1048576 → len ≤ 1048576 ∧ ∀ j, j < len → (gf l j).data.len ≤ 1048576 ∧ (gf l j).ranges.len ≤ 1048576) from ⟨N, rfl, by omega, fun h => ⟨by omega, HJ.out h⟩⟩)
      clear hJ hbel
      go_wp2_with fail
      go_ret
      exact ⟨HR.out, HB.out⟩
end Go.Proofs.YtjhgelhdhdcmfaaDoor

/-! Beyond: whether numbers together are more than MaxBytes. -/
namespace Go.Proofs.YtjhgelhdhdcmfaaDoor
open Go Go.RowKit

set_option maxRecDepth 20000 in
set_option maxHeartbeats 1000000 in
theorem beyond_any (g n : Nat) (v : Nat → Nat) (w : World) (hn : n ≤ 1000) (hc : ∀ j, j < n → w.cell? ⟨g, j, none⟩ = some (.int .i64 (v j : Int))) (hv : ∀ j, j < n → v j ≤ 1000000000000000) :
    Calls Tryd.prog 8 #[.slice (some ⟨g, 0, none⟩) n n] w fun e w' => (∃ b, e = .returned (.bool b) ∧ (b = false → ∀ j, j < n → v j ≤ 1048576)) ∧ w' = w := by
  have HC := veil hc
  have HV := veil hv
  clear hc hv
  go_enter Tryd.func8, Tryd.ntmps8
  go_wp2_with fail
  go_loopw [3, 4] (fun s i wr => ∃ (k N : Nat), k ≤ n ∧ i = .int .i64 (k : Int) ∧ s = .int .i64 (N : Int) ∧ N ≤ 1048576 ∧ (∀ j, j < k → v j ≤ N) ∧ wr = w)
    (fun _ i _ => n - (intOf i).toNat)
  case atStart => exact ⟨0, 0, Nat.zero_le _, rfl, rfl, Nat.zero_le _, fun j hj => absurd hj (Nat.not_lt_zero _), rfl⟩
  case round =>
    obtain ⟨k, N, hk, rfl, rfl, hN, hJ, rfl⟩ := hrel
    have HJ := veil hJ
    clear hJ
    by_cases hlt : k < n
    · have hd0 : decide ((k : Int) < (n : Int)) = true := by simp; omega
      have hd0n : decide (k < n) = true := by simp; omega
      have hck := HC.out k hlt
      have hvk := HV.out k hlt
      have hw : IntKind.i64.wrap ((N : Int) + (v k : Int)) = (N : Int) + (v k : Int) := by rw [IntKind.wrap_i64]; omega
      by_cases hb : 1048576 < N + v k
      · have f1 : decide ((1048576 : Int) < (N : Int) + (v k : Int)) = true := decide_eq_true (by omega)
        go_wp2_with fail
        go_ret
        exact ⟨⟨true, rfl, fun e => by cases e⟩, rfl⟩
      · have f1 : decide ((1048576 : Int) < (N : Int) + (v k : Int)) = false := decide_eq_false (by omega)
        have J2 := veil (show ∀ j, j < k + 1 → v j ≤ N + v k by
          intro j hj
          rcases Nat.lt_or_ge j k with q | q
          · have := HJ.out j q; omega
          · obtain rfl : j = k := by omega
            omega)
        go_wp2_with fail
        go_roundw
        case rel => exact ⟨k + 1, N + v k, by omega, by go_num, by go_num, by omega, J2.out, by trivial⟩
        case measure => simp [intOf]; omega
    · have hd0 : decide ((k : Int) < (n : Int)) = false := by simp; omega
      have hd0n : decide (k < n) = false := by simp; omega
      have HR := veil (show ∀ j, j < n → v j ≤ 1048576 from fun j hj => by have := HJ.out j (by omega); omega)
      go_wp2_with fail
      go_ret
      exact ⟨⟨false, rfl, fun _ => HR.out⟩, rfl⟩
theorem beyond_one (w : World) (N : Nat) (hN : N ≤ 1000000000000000) : Calls Tryd.prog 8 #[.slice (some ⟨w.heap.size, 0, none⟩) 1 1] (w.alloc (.cells #[.int .i64 (N : Int)] 3)) fun e w' => (∃ b, e = .returned (.bool b) ∧ (b = false → N ≤ 1048576)) ∧ Below w.heap.size w w' := by
  have r : Row (w.alloc (.cells #[.int .i64 (N : Int)] 3)) w.heap.size 3 #[.int .i64 (N : Int)] := Row.new _ _ _
  refine (beyond_any w.heap.size 1 (fun _ => N) _ (by decide) (fun j hj => ?_) (fun _ _ => hN)).mono ?_
  · obtain rfl : j = 0 := by omega
    exact r.cell 0
  · rintro e w' ⟨⟨b, rfl, h⟩, rfl⟩
    exact ⟨⟨b, rfl, fun hb => h hb 0 (by decide)⟩, (Below.refl _ w).alloc (Nat.le_refl _) _⟩
theorem beyond_two (w : World) (N M : Nat) (hN : N ≤ 1000000000000000) (hM : M ≤ 1000000000000000) : Calls Tryd.prog 8 #[.slice (some ⟨w.heap.size, 0, none⟩) 2 2] (w.alloc (.cells #[.int .i64 (N : Int), .int .i64 (M : Int)] 3)) fun e w' => (∃ b, e = .returned (.bool b) ∧ (b = false → N ≤ 1048576 ∧ M ≤ 1048576)) ∧ Below w.heap.size w w' := by
  have r : Row (w.alloc (.cells #[.int .i64 (N : Int), .int .i64 (M : Int)] 3)) w.heap.size 3 #[.int .i64 (N : Int), .int .i64 (M : Int)] := Row.new _ _ _
  refine (beyond_any w.heap.size 2 (fun j => if j = 0 then N else M) _ (by decide) (fun j hj => ?_) (fun j _ => ?_)).mono ?_
  · obtain rfl | rfl : j = 0 ∨ j = 1 := by omega
    · exact r.cell 0
    · exact r.cell 1
  · show (if j = 0 then N else M) ≤ _
    split <;> omega
  · rintro e w' ⟨⟨b, rfl, h⟩, rfl⟩
    exact ⟨⟨b, rfl, fun hb => ⟨h hb 0 (by decide), h hb 1 (by decide)⟩⟩, (Below.refl _ w).alloc (Nat.le_refl _) _⟩
end Go.Proofs.YtjhgelhdhdcmfaaDoor
