/-
  Out of FrMayAll, FrPut, FrVarR, FrRef, FrRefPutA.
-/
import Derived.Test.YtaighdppemnglaaGreatDoorGf8
import Derived.Test.YtaighdppemnglaaGreatDoorGf3
import Derived.Test.YtaighdppemnglaaGreatDoorGf5
import Derived.Test.YtaighdppemnglaaGreatDoorGf2

/-! frame.mayBe of any frame; frame.mayBeAll. -/
namespace Go.Proofs.YtaighdppemnglaaGreatDoor
open Go Go.RowKit

theorem fr_may (f : FrM) (w : World) (hf : f.Ok w) (hdl : f.data.len ≤ 4194304) (hN : Named w) :
    Calls Tryz.prog 76 #[.agg f.cells] w fun e w' => (e = .returned (.bool true) ∧ Fr.mayF f.fr ∨ e = .returned (.bool false) ∧ ¬ Fr.mayF f.fr) ∧ Below w.heap.size w w' := by
  cases hk : isK f.kind with
  | true => exact fr_may_in f w hf hdl hN hk
  | false =>
    refine (fr_may_no f w hf hk).mono ?_
    rintro e w' ⟨rfl, hb⟩
    refine ⟨.inr ⟨rfl, fun h => ?_⟩, hb⟩
    have h2 := may_kind h
    have : isK f.kind = true := by
      have h3 : 1 ≤ f.kind ∧ f.kind ≤ 14 := h2
      unfold isK; simp; omega
    rw [hk] at this
    cases this

set_option maxRecDepth 20000 in
set_option maxHeartbeats 4000000 in
theorem fr_mayAll (s : FS) (w : World) (hs : s.Ok w) (hl : s.len ≤ 8388608) (hd : ∀ j, j < s.len → (gf s.l j).data.len ≤ 4194304) (hN : Named w) :
    Calls Tryz.prog 24 #[.slice s.a s.len s.cap] w fun e w' => (e = .returned (.bool true) ∧ okT s.l s.len ∨ e = .returned (.bool false) ∧ ¬ okT s.l s.len) ∧ Below w.heap.size w w' := by
  obtain ⟨a, len, cap, g, off, l⟩ := s
  have HP := veil hs
  have HD := veil hd
  have HN := veil hN
  clear hs hd hN
  simp only at hl
  show Calls _ _ _ _ fun e w' => (e = .returned (.bool true) ∧ okT l len ∨ e = .returned (.bool false) ∧ ¬ okT l len) ∧ Below w.heap.size w w'
  go_enter Tryz.func24, Tryz.ntmps24
  go_wp2_with fail
  go_loopw [7] (fun i wr => ∃ k : Nat, k ≤ len ∧ i = .int .i64 k ∧ okT l k ∧ Below w.heap.size w wr)
    (fun i _ => len - (intOf i).toNat)
  case atStart => exact ⟨0, Nat.zero_le _, rfl, fun j hj => absurd hj (Nat.not_lt_zero _), Below.refl _ _⟩
  case round =>
    obtain ⟨k, hk, rfl, hto, hbel⟩ := hrel
    by_cases hlt : k < len
    · have e1 : a = some ⟨g, off, none⟩ := HP.out.at_ (show 0 < len by omega)
      subst e1
      have hc := (HP.out.below hbel).cell k hlt
      have HOKk := veil ((HP.out.below hbel).each k hlt)
      have hdk := HD.out k hlt
      obtain ⟨K, ek⟩ : ∃ K, K = gf l k := ⟨_, rfl⟩
      simp only at hc hdk HOKk
      rw [← ek] at hc hdk HOKk
      obtain ⟨kk, st, of, li, co, fi, da, ra⟩ := K
      have a0 := hc 0 _ rfl
      have a1 := hc 1 _ rfl
      have a2 := hc 2 _ rfl
      have a3 := hc 3 _ rfl
      have a4 := hc 4 _ rfl
      have a5 := hc 5 _ rfl
      have a6 := hc 6 _ rfl
      have a7 := hc 7 _ rfl
      simp only [Nat.add_zero] at a0 a1 a2 a3 a4 a5 a6 a7
      have HTO := veil hto
      have HB := veil hbel
      have EK := veil ek
      have rA : Row (wr.alloc (.cells (FrM.mk kk st of li co fi da ra).cells 37)) wr.heap.size 37 (FrM.mk kk st of li co fi da ra).cells := Row.new _ _ _
      have bA : Below wr.heap.size wr (wr.alloc (.cells (FrM.mk kk st of li co fi da ra).cells 37)) := (Below.refl _ wr).alloc (Nat.le_refl _) _
      have hlA := rA.lt
      have RA := veil rA
      have BA := veil bA
      obtain ⟨x0, x1, x2, x3, x4, x5, x6, x7⟩ := fr_cells rA
      simp only at x0 x1 x2 x3 x4 x5 x6 x7
      clear hc hto hbel ek rA bA
      go_wp2_with fail
      clear a0 a1 a2 a3 a4 a5 a6 a7 x0 x1 x2 x3 x4 x5 x6 x7
      refine (fr_may ⟨kk, st, of, li, co, fi, da, ra⟩ _ (HOKk.out.below BA.out) hdk (HN.out.step (HB.out.trans (BA.out.mono HB.out.size)))).mono ?_
      rintro e1 w1 ⟨h1, hb1⟩
      have HB1 := veil ((HB.out.trans (BA.out.mono HB.out.size)).trans (hb1.mono (Nat.le_trans HB.out.size BA.out.size)))
      have y0 := (fr_cells (RA.out.below hb1 hlA)).1
      simp only at y0
      clear hb1 HOKk
      rcases h1 with ⟨rfl, hm⟩ | ⟨rfl, hm⟩
      · by_cases hk0 : k = 0
        · have f3 : decide ((0 : Int) < (k : Int)) = false := by simp; omega
          have f3n : decide (0 < k) = false := by simp; omega
          have HS := veil (okT_succ HTO.out (by rw [← EK.out]; exact hm) (fun h => by omega))
          clear hm hk0 HTO EK
          go_wp2_with fail
          go_roundw
          case rel => exact ⟨k + 1, by omega, by go_num, HS.out, HB1.out⟩
          case measure => simp [intOf]; omega
        · have f3 : decide ((0 : Int) < (k : Int)) = true := by simp; omega
          have f3n : decide (0 < k) = true := by simp; omega
          have hk1 : (k : Int) - 1 = ((k - 1 : Nat) : Int) := by omega
          have hk2 : k - 1 < len := by omega
          have hcp := (HP.out.below HB1.out).cell (k - 1) hk2
          simp only at hcp
          have p0 := hcp 0 _ rfl
          simp only [Nat.add_zero] at p0
          clear hcp
          by_cases q1 : kk = 1
          · have f4 : ((kk : Int) == 1) = true := by simp; omega
            by_cases q2 : (gf l (k - 1)).kind = 1
            · have f5 : (((gf l (k - 1)).kind : Int) == 1) = true := by simp; omega
              have E1 := veil (show ¬ okT l len from fun h => (h k hlt).2 (by omega) ⟨by rw [← EK.out]; exact q1, q2⟩)
              clear hm q1 q2 hk0 HTO EK
              generalize ((gf l (k - 1)).kind : Int) = z at *
              go_wp2_with fail
              go_ret
              exact ⟨.inr ⟨rfl, E1.out⟩, HB1.out⟩
            · have f5 : (((gf l (k - 1)).kind : Int) == 1) = false := by simp; omega
              have HS := veil (okT_succ HTO.out (by rw [← EK.out]; exact hm) (fun _ h => q2 h.2))
              clear hm q1 q2 hk0 HTO EK
              generalize ((gf l (k - 1)).kind : Int) = z at *
              go_wp2_with fail
              go_roundw
              case rel => exact ⟨k + 1, by omega, by go_num, HS.out, HB1.out⟩
              case measure => simp [intOf]; omega
          · have f4 : ((kk : Int) == 1) = false := by simp; omega
            have HS := veil (okT_succ HTO.out (by rw [← EK.out]; exact hm) (fun _ h => q1 (by have := h.1; rwa [← EK.out] at this)))
            clear hm q1 hk0 HTO EK p0
            go_wp2_with fail
            go_roundw
            case rel => exact ⟨k + 1, by omega, by go_num, HS.out, HB1.out⟩
            case measure => simp [intOf]; omega
      · have E1 := veil (show ¬ okT l len from fun h => hm (by have := (h k hlt).1; rwa [← EK.out] at this))
        clear hm HTO EK
        go_wp2_with fail
        go_ret
        exact ⟨.inr ⟨rfl, E1.out⟩, HB1.out⟩
    · obtain rfl : len = k := by omega
      have HA := veil hto
      have HB1 := veil hbel
      clear hto hbel
      go_wp2_with fail
      go_ret
      exact ⟨.inl ⟨rfl, HA.out⟩, HB1.out⟩
end Go.Proofs.YtaighdppemnglaaGreatDoor

/-! frame.Put, of any frames. -/
namespace Go.Proofs.YtaighdppemnglaaGreatDoor
open Go Go.RowKit

theorem own_max {w : World} {base n : Nat} {v : Value} {xs : List Value} (h : w.ownsRow base 5 1 v n xs) : n ≤ maxLen := by
  rcases h.2 with ⟨_, rfl⟩ | ⟨g, c, cur, _, _, _, hc, hm, _⟩
  · exact Nat.zero_le _
  · omega
set_option maxRecDepth 20000 in
set_option maxHeartbeats 4000000 in
theorem fr_put (s : FS) (w : World) (hs : s.Ok w) (hl : s.len ≤ 8388608) (hd : ∀ j, j < s.len → (gf s.l j).data.len ≤ 4000000) (hL : Lens w) (hN : Named w) :
    Calls Tryz.prog 8 #[.slice s.a s.len s.cap] w fun e w' => ∃ v, e = .returned (.tuple #[v, .int .i64 (putE s.fr : Int)]) ∧ RowK w.heap.size (putO s.fr) w' v ∧ Below w.heap.size w w' := by
  obtain ⟨i0, hi, hz0, hz1, hz2⟩ := info_parts Tryz.infoByteV
  have HMA := veil (fr_mayAll s w hs hl (fun j hj => Nat.le_trans (hd j hj) (by decide)) hN)
  obtain ⟨a, len, cap, g, off, l⟩ := s
  have hll : l.length = len := hs.hb
  have HP := veil hs
  have HL := veil hll
  have HD := veil hd
  have HLn := veil hL
  clear hs hll hd hL hN
  simp only at hl HMA
  show Calls _ _ _ _ fun e w' => ∃ v, e = .returned (.tuple #[v, .int .i64 (putE (l.map FrM.fr) : Int)]) ∧ RowK w.heap.size (putO (l.map FrM.fr)) w' v ∧ Below w.heap.size w w'
  go_enter Tryz.func8, Tryz.ntmps8
  go_wp2_with fail
  refine HMA.out.mono ?_
  rintro e1 w1 ⟨h1, hb1⟩
  have HB1 := veil hb1
  clear hb1 HMA
  rcases h1 with ⟨rfl, hok⟩ | ⟨rfl, hok⟩
  rotate_left
  · have E1 := veil (putE_no (l := l.map FrM.fr) fun h => hok (by have := (okT_iff l).2 h; rwa [HL.out] at this))
    clear hok
    go_wp2_with fail
    go_ret2
    refine ⟨.slice none 0 0, by rw [E1.out]; rfl, ?_, HB1.out⟩
    rw [putO_err E1.out (by decide)]
    exact World.ownsRow_nil _ _ _ _
  have HA := veil ((okT_iff l).1 (by rw [HL.out]; exact hok))
  clear hok
  by_cases h1024 : 1024 < len
  · have f1 : decide ((1024 : Int) < (len : Int)) = true := by simp; omega
    have f1n : decide (1024 < len) = true := by simp; omega
    have E1 := veil (putE_many HA.out (by rw [List.length_map, HL.out]; exact h1024))
    clear h1024
    go_wp2_with fail
    go_ret2
    refine ⟨.slice none 0 0, by rw [E1.out]; rfl, ?_, HB1.out⟩
    rw [putO_err E1.out (by decide)]
    exact World.ownsRow_nil _ _ _ _
  · have f1 : decide ((1024 : Int) < (len : Int)) = false := by simp; omega
    have f1n : decide (1024 < len) = false := by simp; omega
    have H1024 := veil h1024
    clear h1024
    go_wp2_with fail
    go_loopw [4, 16] (fun v i wr => ∃ k : Nat, k ≤ len ∧ i = .int .i64 k ∧ RowK w.heap.size (Fr.putAll ((l.take k).map FrM.fr)) wr v ∧ (Fr.putAll ((l.take k).map FrM.fr)).length ≤ 1048576 ∧ Below w.heap.size w wr)
      (fun _ i _ => len - (intOf i).toNat)
    case atStart => exact ⟨0, Nat.zero_le _, rfl, World.ownsRow_nil _ _ _ _, Nat.zero_le _, HB1.out⟩
    case round =>
      clear HB1
      obtain ⟨k, hk, rfl, hrow, hlen, hbel⟩ := hrel
      by_cases hlt : k < len
      · have e1 : a = some ⟨g, off, none⟩ := HP.out.at_ (show 0 < len by omega)
        subst e1
        have hc := (HP.out.below hbel).cell k hlt
        have HOKk := veil ((HP.out.below hbel).each k hlt)
        have HOKw := veil (HP.out.each k hlt)
        have hdk := HD.out k hlt
        have hm := ((okT_iff l).2 HA.out k (by rw [HL.out]; exact hlt)).1
        have hT := putAll_take l k (by rw [HL.out]; exact hlt)
        obtain ⟨K, ek⟩ : ∃ K, K = gf l k := ⟨_, rfl⟩
        simp only at hc hdk HOKk HOKw
        rw [← ek] at hc hdk HOKk HOKw hm hT
        obtain ⟨kk, st, of, li, co, fi, da, ra⟩ := K
        have a0 := hc 0 _ rfl
        have a1 := hc 1 _ rfl
        have a2 := hc 2 _ rfl
        have a3 := hc 3 _ rfl
        have a4 := hc 4 _ rfl
        have a5 := hc 5 _ rfl
        have a6 := hc 6 _ rfl
        have a7 := hc 7 _ rfl
        simp only [Nat.add_zero] at a0 a1 a2 a3 a4 a5 a6 a7
        obtain ⟨aV, cV, rfl⟩ := own_shapeF hrow
        obtain ⟨B, eB⟩ : ∃ B, B = Fr.putAll ((l.take k).map FrM.fr) := ⟨_, rfl⟩
        rw [← eB] at hT hrow hlen ⊢
        have HB := veil hbel
        have HT := veil hT
        have HM := veil hm
        have HR := veil hrow
        have rA : Row (wr.alloc (.cells (FrM.mk kk st of li co fi da ra).cells 37)) wr.heap.size 37 (FrM.mk kk st of li co fi da ra).cells := Row.new _ _ _
        have bA : Below wr.heap.size wr (wr.alloc (.cells (FrM.mk kk st of li co fi da ra).cells 37)) := (Below.refl _ wr).alloc (Nat.le_refl _) _
        have hlA := rA.lt
        obtain ⟨x0, x1, x2, x3, x4, x5, x6, x7⟩ := fr_cells rA
        simp only at x0 x1 x2 x3 x4 x5 x6 x7
        have RA := veil rA
        have BA := veil bA
        have BW := veil (HB.out.trans (BA.out.mono HB.out.size))
        clear hc hbel ek hT hm hrow rA bA eB
        go_wp2_with fail
        clear a0 a1 a2 a3 a4 a5 a6 a7 x0 x1 x2 x3 x4 x5 x6 x7
        refine (fr_ahead ⟨kk, st, of, li, co, fi, da, ra⟩ _ HM.out (HOKk.out.below BA.out) (Nat.le_trans hdk (by decide)) (HLn.out.step BW.out)).mono ?_
        rintro e3 w3 ⟨v3, A, rfl, ⟨hA, hAm⟩, ho3, hb3⟩
        have hAl : A ++ da.b = Fr.putF (FrM.mk kk st of li co fi da ra).fr := hA
        have HT2 := veil (show Fr.putAll ((l.take (k + 1)).map FrM.fr) = B ++ A ++ da.b by rw [HT.out, ← hAl, List.append_assoc])
        have hdb := HOKk.out.data.hb
        simp only at hdb hdk
        have hlen2 : (Fr.putAll ((l.take (k + 1)).map FrM.fr)).length = B.length + A.length + da.len := by rw [HT2.out, List.length_append, List.length_append, hdb]
        have BW3 := veil (BW.out.trans (hb3.mono (Nat.le_trans HB.out.size BA.out.size)))
        obtain ⟨s3, hv3, hsl3, hsb3, hok3, _⟩ := SL.of_own ho3
        have y6 := (fr_cells (RA.out.below hb3 hlA)).2.2.2.2.2.2.1
        simp only at y6
        have HO3 := veil (own_below (own_below HR.out BA.out) hb3)
        rw [← hv3]
        unfold SL.v
        have HS3 := veil hok3
        have HSB := veil hsb3
        have hs3l : s3.len = A.length := hsl3
        have DOK := veil (HOKk.out.data.below (BA.out.trans (hb3.mono BA.out.size)))
        have RA3 := veil (RA.out.below hb3 hlA)
        have hbs : w.heap.size ≤ w3.heap.size := BW3.out.size
        have hmx : s3.len ≤ 70000 := by rw [hs3l]; exact hAm
        have hlen3 : (Fr.putAll ((l.take (k + 1)).map FrM.fr)).length = B.length + s3.len + da.len := by rw [hlen2, hs3l]
        have HLEN := veil hlen3
        clear ho3 hb3 hv3 hok3 hsb3 hsl3 hA hAl hlen2 hAm hlen3 hdb
        have q1 : IntKind.i64.wrap ((B.length : Int) + (s3.len : Int)) = (B.length : Int) + (s3.len : Int) := by rw [IntKind.wrap_i64]; omega
        have q2 : IntKind.i64.wrap ((B.length : Int) + (s3.len : Int) + (da.len : Int)) = (B.length : Int) + (s3.len : Int) + (da.len : Int) := by rw [IntKind.wrap_i64]; omega
        by_cases hn : 1048576 < B.length + s3.len + da.len
        · have E1 := veil (putE_long HA.out (show 1048576 < (Fr.putAll (l.map FrM.fr)).length by have := putAll_mono l (k + 1); have := HLEN.out; omega))
          have f2 : decide ((1048576 : Int) < (B.length : Int) + (s3.len : Int) + (da.len : Int)) = true := decide_eq_true (by omega)
          have f2n : decide (1048576 < B.length + s3.len + da.len) = true := decide_eq_true (by omega)
          clear hn HO3 HT hlen hs3l
          go_wp2_with fail
          go_ret2
          refine ⟨.slice none 0 0, by rw [E1.out]; rfl, ?_, BW3.out⟩
          rw [putO_err E1.out (by decide)]
          exact World.ownsRow_nil _ _ _ _
        · have f2 : decide ((1048576 : Int) < (B.length : Int) + (s3.len : Int) + (da.len : Int)) = false := decide_eq_false (by omega)
          have f2n : decide (1048576 < B.length + s3.len + da.len) = false := decide_eq_false (by omega)
          have HN := veil (Nat.le_of_not_lt hn)
          have hle1 : B.length + s3.len ≤ 8388608 := by omega
          have hle2 : B.length + s3.len + da.len ≤ 8388608 := by omega
          clear hn hlen hs3l
          go_wp2_with (first
            | (with_reducible (show wpList _ _ _ (⟨some 34, Op.call _, _, _, _, _⟩ :: _) _ _)
               refine append_sl rfl _ _ 26 rfl w.heap.size i0 Tryz.underlying26 hi hz0 hz1 hz2 _ B.length B rfl HO3.out s3 HS3.out rfl hle1 hbs ?_
               intro v5 w5 hown5 hgrow5
               have K5 := veil (Keep.of_grown HO3.out hgrow5 hbs)
               have O5 := veil hown5
               have z6 := (fr_cells (K5.out.row (by decide) RA3.out)).2.2.2.2.2.2.1
               simp only at z6
               have D5 := veil (DOK.out.below' K5.out.bel HOKw.out.data.lt)
               have hbs5 : w.heap.size ≤ w5.heap.size := Nat.le_trans hbs K5.out.size
               clear hown5 hgrow5)
            | (with_reducible (show wpList _ _ _ (⟨some 38, Op.call _, _, _, _, _⟩ :: _) _ _)
               refine append_sl rfl _ _ 26 rfl w.heap.size i0 Tryz.underlying26 hi hz0 hz1 hz2 _ (B.length + s3.len) (B ++ s3.b) rfl O5.out da D5.out rfl hle2 hbs5 ?_
               intro v6 w6 hown6 hgrow6
               have K6 := veil (Keep.of_grown O5.out hgrow6 hbs5)
               have O6 := veil (show RowK w.heap.size (Fr.putAll ((l.take (k + 1)).map FrM.fr)) w6 v6 by
                 unfold RowK
                 rw [HLEN.out, HT2.out, ← HSB.out]
                 exact hown6)
               clear hown6 hgrow6))
          go_roundw
          case rel => exact ⟨k + 1, by omega, by go_num, O6.out, by rw [HLEN.out]; exact HN.out, (BW3.out.trans K5.out.bel).trans K6.out.bel⟩
          case measure => simp [intOf]; omega
      · obtain rfl : len = k := by omega
        have HRow := veil (show RowK w.heap.size (Fr.putAll (l.map FrM.fr)) wr _ by rw [← List.take_of_length_le (show l.length ≤ len by rw [HL.out]; omega)]; exact hrow)
        have HN := veil (show (Fr.putAll (l.map FrM.fr)).length ≤ 1048576 by rw [← List.take_of_length_le (show l.length ≤ len by rw [HL.out]; omega)]; exact hlen)
        have E0 := veil (putE_ok HA.out (by rw [List.length_map, HL.out]; exact H1024.out) (by have := HN.out; omega))
        have HB := veil hbel
        clear hrow hbel hlen
        go_wp2_with fail
        go_ret2
        refine ⟨_, by rw [E0.out]; rfl, ?_, HB.out⟩
        rw [putO_ok E0.out]
        exact HRow.out
end Go.Proofs.YtaighdppemnglaaGreatDoor

/-! What the document's Put answers. -/
namespace Go.Proofs.YtaighdppemnglaaGreatDoor
open Go.RowKit

/-- A row of bytes of the call's own, all of it taken. -/
def Owns (base : Nat) (w : World) (g len cap : Nat) (zs : List Int) : Prop :=
  zs.length = len ∧ w.ownsRow base 5 1 (.slice (some ⟨g, 0, none⟩) len cap) len (zs.map (Value.int .u8))


/-- As many bytes as a number needs. -/
def IsSize (n : Int) (K : Nat) : Prop := (n < 64 ∧ K = 1) ∨ (64 ≤ n ∧ n < 16384 ∧ K = 2) ∨ (16384 ≤ n ∧ n < 1073741824 ∧ K = 4) ∨ (1073741824 ≤ n ∧ K = 8)

theorem size_any (n : Int) (K : Nat) (w : World) (h : IsSize n K) :
    Calls Tryz.prog 144 #[.int .u64 n] w fun e w' => e = .returned (.int .i64 K) ∧ w' = w := by
  unfold IsSize at h
  rcases h with ⟨h1, rfl⟩ | ⟨h0, h1, rfl⟩ | ⟨h0, h1, rfl⟩ | ⟨h0, rfl⟩
  all_goals
    go_enter Tryz.func144, Tryz.ntmps144
    go_wp2
    go_ret
    exact ⟨rfl, rfl⟩

theorem shr8 (p : Int) (i : Nat) (h : i < 8) : Op.shift .shr .u64 p .i64 (8 * (i : Int)) = pure (.int .u64 (p / 2 ^ (8 * i))) := by
  rw [shift_shr_u64 (x := p) (yk := .i64) (y := 8 * (i : Int)) (by omega) (by omega), show (8 * (i : Int)).toNat = 8 * i by omega]
theorem wrap8 (i : Nat) (h : i < 8) : IntKind.i64.wrap (8 * (i : Int)) = 8 * (i : Int) := by rw [IntKind.wrap_i64]; omega

/-- The bytes from the top on, j of K. -/
def tops (n : Int) (K : Nat) : Nat → List Int
  | 0 => []
  | j + 1 => tops n K j ++ [n / 2 ^ (8 * (K - 1 - j)) % 256]

theorem tops1 (n : Int) (h0 : 0 ≤ n) (h : n < 64) : tops n 1 1 = [n] := by
  simp [tops]; omega
theorem tops2 (n : Int) (h0 : 0 ≤ n) (h : n < 16384) : tops n 2 2 = [n / 256, n % 256] := by
  simp [tops]; omega
theorem tops4 (n : Int) (h0 : 0 ≤ n) (h : n < 1073741824) : tops n 4 4 = [n / 16777216, n / 65536 % 256, n / 256 % 256, n % 256] := by
  simp [tops]; omega
theorem tops8 (n : Int) (h0 : 0 ≤ n) (h : n < 4611686018427387904) : tops n 8 8 = [n / 72057594037927936, n / 281474976710656 % 256, n / 1099511627776 % 256, n / 4294967296 % 256, n / 16777216 % 256, n / 65536 % 256, n / 256 % 256, n % 256] := by
  simp [tops]; omega

theorem own_shape' {W : World} {S : Nat} {a : Option Addr} {n c : Nat} {xs : List Value} (h : W.ownsRow S 5 1 (.slice a n c) n xs) : (a = none ∧ n = 0) ∨ ∃ g, a = some ⟨g, 0, none⟩ := by
  rcases h.2 with ⟨h1, h2⟩ | ⟨g, c, _, h1, _, _, h2, _⟩
  · injection h1 with e; exact .inl ⟨e, h2⟩
  · injection h1 with e; exact .inr ⟨g, e⟩

set_option maxRecDepth 20000 in
set_option maxHeartbeats 4000000 in
theorem refput_own (n : Int) (K : Nat) (w : World) (h0 : 0 ≤ n) (h1 : n < 4611686018427387904) (hK : IsSize n K) :
    Calls Tryz.prog 126 #[.int .u64 n] w fun e w' => ∃ g c, e = .returned (.tuple #[.slice (some ⟨g, 0, none⟩) (putL n).length c, .int .i64 0]) ∧ Owns w.heap.size w' g (putL n).length c (putL n) ∧ Below w.heap.size w w' := by
  obtain ⟨i0, hi, hz0, hz1, hz2⟩ := info_parts Tryz.infoByteV
  have HK : Hid (IsSize n K) := hK
  have hK8 : K ≤ 8 := by unfold IsSize at hK; omega
  have hK1 : 1 ≤ K := by unfold IsSize at hK; omega
  clear hK
  go_enter Tryz.func126, Tryz.ntmps126
  go_wp2_with fail
  refine (size_any n K w HK.out).mono ?_
  rintro e2 w2 ⟨rfl, hw2⟩
  obtain rfl := hw2.symm
  go_wp2_with fail
  go_loopw [5, 6] (fun t i wr => ∃ (j : Nat) (ao : Option Addr) (c : Nat), j ≤ K ∧ i = .int .i64 ((K : Int) - 1 - j) ∧ t = .slice ao j c ∧ wr.ownsRow w.heap.size 5 1 (.slice ao j c) j ((tops n K j).map (Value.int .u8)) ∧ Below w.heap.size w wr) (fun _ i _ => (intOf i + 1).toNat)
  case atStart => exact ⟨0, none, 0, Nat.zero_le _, by simp, rfl, World.ownsRow_nil _ _ _ _, Below.refl _ _⟩
  case round =>
    obtain ⟨j, ao, c, hj, rfl, rfl, hown, hbel⟩ := hrel
    have hsz := hbel.size
    by_cases hlt : j < K
    · obtain ⟨r, hr⟩ : ∃ r : Nat, r = K - 1 - j := ⟨_, rfl⟩
      have hr2 : (K : Int) - 1 - j = (r : Int) := by omega
      have hr8 : r < 8 := by omega
      have hs1 := shr8 n r hr8
      have hs2 := wrap8 r hr8
      rw [hr2]
      have HR : Hid (r = K - 1 - j) := hr
      clear hr hr2
      have HO : Hid (wr.ownsRow w.heap.size 5 1 (.slice ao j c) j ((tops n K j).map (Value.int .u8))) := hown
      have HB : Hid (Below w.heap.size w wr) := hbel
      clear hown hbel
      go_wp2_with (at_builtin; refine wpList_append_own _ rfl _ _ 26 rfl w.heap.size 5 i0 (.int .u8 0) 1 1 Tryz.underlying26 hi hz0 hz1 hz2 rfl (by decide) _ _ _ rfl (HO.out.alloc _) ⟨wr.heap.size, 0, none⟩ 1 1 [.int .u8 (n / 2 ^ (8 * r) % 256)] rfl rfl (cell_one_new _ _ _) (by simp [Value.oneCell']) (by unfold maxLen; omega) (by omega) (by simp; omega) ?_; intro v' w1 hown' hgrow _)
      obtain ⟨g', c', rfl⟩ := ownsRow_succ hown'
      have HO1 : Hid (w1.ownsRow w.heap.size 5 1 (.slice (some ⟨g', 0, none⟩) (j + 1) c') (j + 1) ((tops n K (j + 1)).map (Value.int .u8))) := by
        have e : (tops n K (j + 1)).map (Value.int .u8) = (tops n K j).map (Value.int .u8) ++ [.int .u8 (n / 2 ^ (8 * r) % 256)] := by
          rw [tops, List.map_append, HR.out]; rfl
        rw [e]
        exact hown'
      have HB1 : Hid (Below w.heap.size w w1) := (HB.out.alloc HB.out.size _).grown hgrow (by simp; omega) (fun k e => by
        have := (HO.out.alloc (.cells #[.int .u8 (n / 2 ^ (8 * r) % 256)] 5)).lt k e
        exact this.1)
      have hrK : (r : Int) - 1 = (K : Int) - 1 - ((j + 1 : Nat) : Int) := by have := HR.out; omega
      clear hown' hgrow hs1 hs2
      go_wp2_with fail
      go_roundw
      case rel => exact ⟨j + 1, _, c', by omega, by rw [hrK], rfl, HO1.out, HB1.out⟩
      case measure => simp [intOf]
    · have hjK : j = K := by omega
      subst hjK
      have hng : (j : Int) - 1 - j = -1 := by omega
      rw [hng]
      clear hng
      obtain ⟨g, rfl⟩ : ∃ g, ao = some ⟨g, 0, none⟩ := by
        rcases own_shape' hown with ⟨_, h2⟩ | ⟨g, h1⟩
        · omega
        · exact ⟨g, h1⟩
      have HB : Hid (Below w.heap.size w wr) := hbel
      clear hbel
      have hg := (hown.lt g rfl).1
      rcases HK.out with ⟨c1, rfl⟩ | ⟨c1, c2, rfl⟩ | ⟨c1, c2, rfl⟩ | ⟨c1, rfl⟩
      · rw [tops1 n h0 c1] at hown
        have HO : Hid (wr.ownsRow w.heap.size 5 1 (.slice (some ⟨g, 0, none⟩) 1 c) 1 ([n].map (Value.int .u8))) := hown
        clear hown
        go_wp2_with fail
        go_ret2
        have e : putL n = [n] := by unfold putL; rw [if_pos c1]
        rw [e]
        exact ⟨g, c, rfl, ⟨rfl, HO.out⟩, HB.out⟩
      · rw [tops2 n h0 c2] at hown
        have hor := or_kind (n / 256) 1 (by omega) (by omega) (by decide) (by decide)
        simp only [Int.reduceMul] at hor
        have hc0 : wr.cell? ⟨g, 0, none⟩ = some (.int .u8 (n / 256)) := by rw [hown.cellAt 0 (by decide)]; rfl
        have hf0 := hown.frozenAt 0
        have HO : Hid ((wr.setCell ⟨g, 0, none⟩ (.int .u8 (64 + n / 256))).ownsRow w.heap.size 5 1 (.slice (some ⟨g, 0, none⟩) 2 c) 2 ([64 + n / 256, n % 256].map (Value.int .u8))) := (hown.stored 0 (.int .u8 (64 + n / 256))).1
        clear hown
        go_wp2_with fail
        go_ret2
        have e : putL n = [64 + n / 256, n % 256] := by unfold putL; rw [if_neg (show ¬ n < 64 by omega), if_pos c2]
        rw [e]
        exact ⟨g, c, rfl, ⟨rfl, HO.out⟩, HB.out.setCell (p := ⟨g, 0, none⟩) hg _⟩
      · rw [tops4 n h0 c2] at hown
        have hor := or_kind (n / 16777216) 2 (by omega) (by omega) (by decide) (by decide)
        simp only [Int.reduceMul] at hor
        have hc0 : wr.cell? ⟨g, 0, none⟩ = some (.int .u8 (n / 16777216)) := by rw [hown.cellAt 0 (by decide)]; rfl
        have hf0 := hown.frozenAt 0
        have HO : Hid ((wr.setCell ⟨g, 0, none⟩ (.int .u8 (128 + n / 16777216))).ownsRow w.heap.size 5 1 (.slice (some ⟨g, 0, none⟩) 4 c) 4 ([128 + n / 16777216, n / 65536 % 256, n / 256 % 256, n % 256].map (Value.int .u8))) := (hown.stored 0 (.int .u8 (128 + n / 16777216))).1
        clear hown
        go_wp2_with fail
        go_ret2
        have e : putL n = [128 + n / 16777216, n / 65536 % 256, n / 256 % 256, n % 256] := by unfold putL; rw [if_neg (show ¬ n < 64 by omega), if_neg (show ¬ n < 16384 by omega), if_pos c2]
        rw [e]
        exact ⟨g, c, rfl, ⟨rfl, HO.out⟩, HB.out.setCell (p := ⟨g, 0, none⟩) hg _⟩
      · rw [tops8 n h0 h1] at hown
        have hor := or_kind (n / 72057594037927936) 3 (by omega) (by omega) (by decide) (by decide)
        simp only [Int.reduceMul] at hor
        have hc0 : wr.cell? ⟨g, 0, none⟩ = some (.int .u8 (n / 72057594037927936)) := by rw [hown.cellAt 0 (by decide)]; rfl
        have hf0 := hown.frozenAt 0
        have HO : Hid ((wr.setCell ⟨g, 0, none⟩ (.int .u8 (192 + n / 72057594037927936))).ownsRow w.heap.size 5 1 (.slice (some ⟨g, 0, none⟩) 8 c) 8 ([192 + n / 72057594037927936, n / 281474976710656 % 256, n / 1099511627776 % 256, n / 4294967296 % 256, n / 16777216 % 256, n / 65536 % 256, n / 256 % 256, n % 256].map (Value.int .u8))) := (hown.stored 0 (.int .u8 (192 + n / 72057594037927936))).1
        clear hown
        go_wp2_with fail
        go_ret2
        have e : putL n = [192 + n / 72057594037927936, n / 281474976710656 % 256, n / 1099511627776 % 256, n / 4294967296 % 256, n / 16777216 % 256, n / 65536 % 256, n / 256 % 256, n % 256] := by unfold putL; rw [if_neg (show ¬ n < 64 by omega), if_neg (show ¬ n < 16384 by omega), if_neg (show ¬ n < 1073741824 by omega)]
        rw [e]
        exact ⟨g, c, rfl, ⟨rfl, HO.out⟩, HB.out.setCell (p := ⟨g, 0, none⟩) hg _⟩
end Go.Proofs.YtaighdppemnglaaGreatDoor

/-! The document's Put of a number, and what it puts behind bytes. -/
namespace Go.Proofs.YtaighdppemnglaaGreatDoor
open Go Go.RowKit

theorem isSize_num (n : Nat) : IsSize (n : Int) (Fr.szN n) := by
  unfold IsSize Fr.szN
  by_cases c1 : n < 64
  · rw [if_pos c1]; exact .inl ⟨by omega, rfl⟩
  by_cases c2 : n < 16384
  · rw [if_neg c1, if_pos c2]; exact .inr (.inl ⟨by omega, by omega, rfl⟩)
  by_cases c3 : n < 1073741824
  · rw [if_neg c1, if_neg c2, if_pos c3]; exact .inr (.inr (.inl ⟨by omega, by omega, rfl⟩))
  · rw [if_neg c1, if_neg c2, if_neg c3]; exact .inr (.inr (.inr ⟨by omega, rfl⟩))

theorem ref_size (n : Nat) (w : World) : Calls Tryz.prog 144 #[.int .u64 (n : Int)] w fun e w' => e = .returned (.int .i64 (Fr.szN n)) ∧ w' = w := size_any _ _ w (isSize_num n)

theorem ref_put (n : Nat) (w : World) (h : n ≤ 4611686018427387903) :
    Calls Tryz.prog 126 #[.int .u64 (n : Int)] w fun e w' => ∃ s : SL, e = .returned (.tuple #[.slice s.a s.len s.cap, .int .i64 0]) ∧ s.Ok w' ∧ s.b = Fr.numL n ∧ s.len = Fr.szN n ∧ Below w.heap.size w w' := by
  refine (refput_own (n : Int) _ w (by omega) (by omega) (isSize_num n)).mono ?_
  rintro e w' ⟨g, c, rfl, ⟨_, hown⟩, hB⟩
  rw [putL_num n h, vb_map, List.length_map] at hown
  obtain ⟨s, hv, hsl, hsb, hok, _⟩ := SL.of_own hown
  refine ⟨s, ?_, hok, hsb, by rw [hsl, Fr.numL_length], hB⟩
  rw [putL_num n h, List.length_map, ← hv]
  rfl

set_option maxHeartbeats 400000 in
/-- number: a number behind bytes. -/
theorem ref_number (v : Value) (N base n : Nat) (xs : List By) (w : World) (h : n ≤ 4611686018427387903) (hown : w.ownsRow base 5 1 v N (vb xs)) (hbase : base ≤ w.heap.size) (hl : N ≤ 8000000) :
    Calls Tryz.prog 84 #[v, .int .u64 (n : Int)] w fun e w' => ∃ v', e = .returned v' ∧ w'.ownsRow base 5 1 v' (N + Fr.szN n) (vb (xs ++ Fr.numL n)) ∧ Keep base w w' := by
  obtain ⟨i0, hi, hz0, hz1, hz2⟩ := info_parts Tryz.infoByteV
  have hsz8 := Fr.szN_le n
  have HN := veil h
  have HOWN := veil hown
  clear hown h
  go_enter Tryz.func84, Tryz.ntmps84
  go_wp2_with fail
  refine (ref_put n w HN.out).mono ?_
  rintro e1 w1 ⟨s, rfl, hok, hsb, hsl, hB⟩
  have hz := hB.size
  have ho1 := own_below HOWN.out hB
  have HO1 := veil ho1
  have HOK := veil hok
  have HSB := veil hsb
  have HB := veil hB
  have hle : N + s.len ≤ 8388608 := by omega
  have hbase1 : base ≤ w1.heap.size := by omega
  have HSL := veil hsl
  clear ho1 hok hsb hB hsl
  go_wp2_with (with_reducible (show wpList _ _ _ (⟨some 14, Op.call _, _, _, _, _⟩ :: _) _ _)
               refine append_sl rfl _ _ 26 rfl base i0 Tryz.underlying26 hi hz0 hz1 hz2 _ N xs rfl HO1.out s HOK.out rfl hle hbase1 ?_
               intro v3 w3 hown3 hgrow3)
  have hb3 : Keep base w w3 := (Keep.of_below HB.out hbase).trans (Keep.of_grown HO1.out hgrow3 hbase1)
  rw [HSB.out] at hown3
  rw [HSL.out] at hown3
  have HO3 := veil hown3
  clear hown3 hgrow3
  go_wp2_with fail
  go_ret
  exact ⟨v3, rfl, HO3.out, hb3⟩

set_option maxHeartbeats 400000 in
/-- sized: bytes behind bytes, with how many they are. -/
theorem ref_sized (v : Value) (N base : Nat) (d : SL) (xs : List By) (w : World) (hown : w.ownsRow base 5 1 v N (vb xs)) (hbase : base ≤ w.heap.size) (hl : N ≤ 4000000) (hd : d.Ok w) (hdl : d.len ≤ 4000000) (hdb : 0 < d.len → d.g < base) :
    Calls Tryz.prog 86 #[v, .slice d.a d.len d.cap] w fun e w' => ∃ v', e = .returned v' ∧ w'.ownsRow base 5 1 v' (N + (Fr.sizedL d.b).length) (vb (xs ++ Fr.sizedL d.b)) ∧ Keep base w w' := by
  obtain ⟨i0, hi, hz0, hz1, hz2⟩ := info_parts Tryz.infoByteV
  have hsz8 := Fr.szN_le d.len
  have HOWN := veil hown
  have HD := veil hd
  clear hown hd
  go_enter Tryz.func86, Tryz.ntmps86
  go_wp2_with fail
  refine (ref_number v N base d.len xs w (by omega) HOWN.out hbase (by omega)).mono ?_
  rintro e1 w1 ⟨v1, rfl, ho1, hk1⟩
  have hz := hk1.size
  have HO1 := veil ho1
  have HK := veil hk1
  have hok := veil (HD.out.below' hk1.bel hdb)
  have hle : N + Fr.szN d.len + d.len ≤ 8388608 := by omega
  have hbase1 : base ≤ w1.heap.size := by omega
  clear ho1 hk1
  go_wp2_with (with_reducible (show wpList _ _ _ (⟨some 11, Op.call _, _, _, _, _⟩ :: _) _ _)
               refine append_sl rfl _ _ 26 rfl base i0 Tryz.underlying26 hi hz0 hz1 hz2 _ (N + Fr.szN d.len) (xs ++ Fr.numL d.len) rfl HO1.out d hok.out rfl hle hbase1 ?_
               intro v3 w3 hown3 hgrow3)
  have hb3 : Keep base w w3 := HK.out.trans (Keep.of_grown HO1.out hgrow3 hbase1)
  have e1 : xs ++ Fr.numL d.len ++ d.b = xs ++ Fr.sizedL d.b := by unfold Fr.sizedL; rw [HD.out.hb, List.append_assoc]
  have e2 : N + Fr.szN d.len + d.len = N + (Fr.sizedL d.b).length := by unfold Fr.sizedL; rw [List.length_append, Fr.numL_length, HD.out.hb]; omega
  rw [e1, e2] at hown3
  have HO3 := veil hown3
  clear hown3 hgrow3 e1 e2
  go_wp2_with fail
  go_ret
  exact ⟨v3, rfl, HO3.out, hb3⟩

set_option maxHeartbeats 400000 in
/-- kind: a type, one more by a flag. -/
theorem ref_kind (v : Value) (N base n : Nat) (more : Bool) (xs : List By) (w : World) (h : n ≤ 63) (hown : w.ownsRow base 5 1 v N (vb xs)) (hbase : base ≤ w.heap.size) (hl : N ≤ 8000000) :
    Calls Tryz.prog 87 #[v, .int .u64 (n : Int), .bool more] w fun e w' => ∃ v', e = .returned v' ∧ w'.ownsRow base 5 1 v' (N + Fr.szN (n + if more then 1 else 0)) (vb (xs ++ Fr.numL (n + if more then 1 else 0))) ∧ Keep base w w' := by
  have HOWN := veil hown
  clear hown
  cases more with
  | true =>
    have HC := veil (ref_number v N base (n + 1) xs w (by omega) HOWN.out hbase hl)
    have hw : IntKind.u64.wrap ((n : Int) + 1) = ((n + 1 : Nat) : Int) := by rw [IntKind.wrap_u64]; omega
    go_enter Tryz.func87, Tryz.ntmps87
    go_wp2_with fail
    refine HC.out.mono ?_
    rintro e1 w1 ⟨v1, rfl, ho1, hk1⟩
    have HO := veil ho1
    have HK := veil hk1
    clear ho1 hk1
    go_wp2_with fail
    go_ret
    exact ⟨v1, rfl, HO.out, HK.out⟩
  | false =>
    have HC := veil (ref_number v N base n xs w (by omega) HOWN.out hbase hl)
    go_enter Tryz.func87, Tryz.ntmps87
    go_wp2_with fail
    refine HC.out.mono ?_
    rintro e1 w1 ⟨v1, rfl, ho1, hk1⟩
    have HO := veil ho1
    have HK := veil hk1
    clear ho1 hk1
    go_wp2_with fail
    go_ret
    exact ⟨v1, rfl, HO.out, HK.out⟩
end Go.Proofs.YtaighdppemnglaaGreatDoor

/-! The document's put: a frame behind bytes. -/
namespace Go.Proofs.YtaighdppemnglaaGreatDoor
open Go Go.RowKit


theorem len_num {L : List By} {n b : Nat} (h : L.length ≤ b) : (L ++ Fr.numL n).length ≤ b + 8 := by
  have := Fr.szN_le n
  rw [List.length_append, Fr.numL_length]
  omega
theorem ref_numberK (v : Value) (base n : Nat) (L : List By) (w : World) (h : n ≤ 4611686018427387903) (hown : RowK base L w v) (hbase : base ≤ w.heap.size) (hl : L.length ≤ 4000000) :
    Calls Tryz.prog 84 #[v, .int .u64 (n : Int)] w fun e w' => ∃ v', e = .returned v' ∧ RowK base (L ++ Fr.numL n) w' v' ∧ Keep base w w' := by
  refine (ref_number v L.length base n L w h hown hbase (by omega)).mono ?_
  rintro e w' ⟨v', rfl, ho, hk⟩
  refine ⟨v', rfl, ?_, hk⟩
  unfold RowK
  rw [List.length_append, Fr.numL_length]
  exact ho
theorem ref_kindK (v : Value) (base n : Nat) (more : Bool) (L : List By) (w : World) (h : n ≤ 63) (hown : RowK base L w v) (hbase : base ≤ w.heap.size) (hl : L.length ≤ 4000000) :
    Calls Tryz.prog 87 #[v, .int .u64 (n : Int), .bool more] w fun e w' => ∃ v', e = .returned v' ∧ RowK base (L ++ Fr.numL (n + if more then 1 else 0)) w' v' ∧ Keep base w w' := by
  refine (ref_kind v L.length base n more L w h hown hbase (by omega)).mono ?_
  rintro e w' ⟨v', rfl, ho, hk⟩
  refine ⟨v', rfl, ?_, hk⟩
  unfold RowK
  rw [List.length_append, Fr.numL_length]
  exact ho
theorem ref_sizedK (v : Value) (base : Nat) (d : SL) (L : List By) (w : World) (hown : RowK base L w v) (hbase : base ≤ w.heap.size) (hl : L.length ≤ 4000000) (hd : d.Ok w) (hdl : d.len ≤ 4000000) (hdb : 0 < d.len → d.g < base) :
    Calls Tryz.prog 86 #[v, .slice d.a d.len d.cap] w fun e w' => ∃ v', e = .returned v' ∧ RowK base (L ++ Fr.sizedL d.b) w' v' ∧ Keep base w w' := by
  refine (ref_sized v L.length base d L w hown hbase hl hd hdl hdb).mono ?_
  rintro e w' ⟨v', rfl, ho, hk⟩
  refine ⟨v', rfl, ?_, hk⟩
  unfold RowK
  rw [List.length_append]
  exact ho
end Go.Proofs.YtaighdppemnglaaGreatDoor
