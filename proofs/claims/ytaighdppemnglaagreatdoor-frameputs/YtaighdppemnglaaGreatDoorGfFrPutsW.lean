/-
  FramePuts, walked.
-/
import Derived.Test.YtaighdppemnglaaGreatDoorGfBkFrames
import Derived.Test.YtaighdppemnglaaGreatDoorGfFrBeyond
import Derived.Test.YtaighdppemnglaaGreatDoorGf9
import Derived.Test.YtaighdppemnglaaGreatDoorGf14
import Derived.Test.YtaighdppemnglaaGreatDoorGfFrElic
import Derived.Test.YtaighdppemnglaaGreatDoorGf5
namespace Go.Proofs.YtaighdppemnglaaGreatDoor
open Go Go.RowKit

theorem lensP_lt {w : World} (h : Lens w) : 1 < w.heap.size := by
  have h0 := h.1
  rcases Nat.lt_or_ge 1 w.heap.size with c | c
  · exact c
  · simp [World.cell?, Array.getElem?_eq_none c] at h0
theorem lensP_step {w w' : World} (h : Lens w) (hb : Below w.heap.size w w') : Lens w' := by
  have hl := lensP_lt h
  obtain ⟨h0, h1, h2, h3⟩ := h
  exact ⟨(hb.cell (p := ⟨1, 0, none⟩) hl).trans h0, (hb.cell (p := ⟨1, 1, none⟩) hl).trans h1, (hb.cell (p := ⟨1, 2, none⟩) hl).trans h2, (hb.cell (p := ⟨1, 3, none⟩) hl).trans h3⟩
/-- What is answered as bytes of a row of its own, as a slice. -/
theorem row_sl {base : Nat} {L : List By} {W : World} {v : Value} (h : RowK base L W v) : ∃ p : SL, v = .slice p.a p.len p.cap ∧ p.Ok W ∧ p.b = L ∧ p.len = L.length := by
  obtain ⟨p, h1, h2, h3, h4, _⟩ := SL.of_own h
  exact ⟨p, h1.symm, h4, h3, h2⟩
theorem putO_len (l : List Fr.Frame) : (putO l).length ≤ 1048576 := by
  unfold putO
  by_cases h : putE l = 0
  · rw [if_pos h]
    unfold putE at h
    by_cases h1 : (∀ f ∈ l, Fr.mayF f) ∧ Fr.sepL false l
    · rw [if_pos h1] at h
      by_cases h2 : 1024 < l.length
      · rw [if_pos h2] at h; cases h
      · rw [if_neg h2] at h
        by_cases h3 : 1048576 < (Fr.putAll l).length
        · rw [if_pos h3] at h; cases h
        · omega
    · rw [if_neg h1] at h; cases h
  · rw [if_neg h]; simp

set_option maxRecDepth 100000 in
set_option maxHeartbeats 4000000 in
theorem puts_walk7 (s : FS) (w : World) (hs : s.Ok w) (hl : s.len ≤ 140737488355328) (hd : ∀ j, j < s.len → (gf s.l j).data.len ≤ 140737488355328 ∧ (gf s.l j).ranges.len ≤ 140737488355328) (hL : Lens w) (hN : Named w) :
    Calls Tryz.prog 3 #[.slice s.a s.len s.cap] w fun e w' => e = .returned (.bool true) ∧ Below w.heap.size w w' := by
  have HS := veil hs
  have HSZ := veil (frames_size s w hs hl hd)
  have HL := veil hL
  have HN := veil hN
  clear hs hd hL hN
  go_enter Tryz.func3, Tryz.ntmps3
  go_wp2_with fail
  refine HSZ.out.mono ?_
  rintro e1 w1 ⟨⟨N, rfl, hNN, hfit⟩, b1⟩
  have HFIT := veil hfit
  clear hfit HSZ
  go_wp2_with fail
  refine (beyond_one w1 N hNN).mono ?_
  rintro e2 w2 ⟨⟨b, rfl, hb⟩, hb2⟩
  have B2 := veil (b1.trans (hb2.mono b1.size))
  clear b1 hb2
  cases b with
  | true =>
    go_wp2_with fail
    go_ret
    exact ⟨rfl, B2.out⟩
  | false =>
    obtain ⟨hlen, hdd⟩ := HFIT.out (hb rfl)
    have HDD := veil hdd
    have sw2 := B2.out.size
    have HT0 := veil (twin_fsF s w2 (HS.out.below B2.out) hlen hdd)
    clear hb hdd HFIT
    go_wp2_with fail
    refine HT0.out.mono ?_
    rintro e3 w3 ⟨G, rfl, ht3, hb3⟩
    have T3 := veil ht3
    have ht3x := ht3
    have B3 := veil (B2.out.trans (hb3.mono B2.out.size))
    have hT2 : w2.heap.size < w3.heap.size := ht3.lt
    have HOKT := veil (show ∀ W, TwF w2.heap.size W w2.heap.size s.len s.l G → (twS w2.heap.size s.len s.l G).Ok W from fun W h => h.ok (fun j hj => ⟨w, HS.out.each j hj⟩))
    have HFR := veil (show (twS w2.heap.size s.len s.l G).fr = s.fr from twS_fr HS.out.hb ht3.len)
    have HDT := veil (show ∀ j, j < (twS w2.heap.size s.len s.l G).len → (gf (twS w2.heap.size s.len s.l G).l j).data.len ≤ 4000000 from fun j hj => by
      have hj' : j < s.len := hj
      show (gf (twl s.l G) j).data.len ≤ 4000000
      rw [twl_get s.l G j (by rw [ht3.len]; exact hj')]
      have := (HDD.out j hj').1
      show (gf s.l j).data.len ≤ 4000000
      omega)
    have HP3 := veil (fr_put (twS w2.heap.size s.len s.l G) w3 (HOKT.out w3 ht3) (by show s.len ≤ 8388608; omega) HDT.out (lensP_step HL.out B3.out) (HN.out.step B3.out))
    clear ht3 hb3 B2 HT0
    go_wp2_with fail
    refine HP3.out.mono ?_
    rintro e4 w4 ⟨va, rfl, ra, hb4⟩
    rw [HFR.out] at ra ⊢
    obtain ⟨pa, rfl, hpa, hpab, hpal⟩ := row_sl ra
    have B4 := veil (B3.out.trans (hb4.mono B3.out.size))
    have T4 := veil (T3.out.below hb4)
    have RA := veil ra
    have PA := veil hpa
    have PAB := veil hpab
    have PAL := veil hpal
    have s34 := hb4.size
    have HP4 := veil (fr_put (twS w2.heap.size s.len s.l G) w4 (HOKT.out w4 T4.out) (by show s.len ≤ 8388608; omega) HDT.out (lensP_step HL.out B4.out) (HN.out.step B4.out))
    clear ra hpa hpab hpal hb4 B3 T3 HP3
    have ZZ := veil (show ∀ j, j < s.len → (G[j]?.getD (0, 0)).1 < w3.heap.size from fun j hj => (ht3x.all.dat j (by rw [ht3x.len]; exact hj)).lt)
    clear ht3x
    go_wp2_with fail
    refine HP4.out.mono ?_
    rintro e5 w5 ⟨vb5, rfl, rb, hb5⟩
    rw [HFR.out] at rb ⊢
    obtain ⟨pb, rfl, hpb, hpbb, hpbl⟩ := row_sl rb
    have B5 := veil (B4.out.trans (hb5.mono B4.out.size))
    have T5 := veil (T4.out.below hb5)
    have RA5 := veil (own_belowK RA.out hb5)
    have RB := veil rb
    have PA5 := veil (PA.out.below hb5)
    have PB := veil hpb
    have PBB := veil hpbb
    have PBL := veil hpbl
    have s45 := hb5.size
    have lA : ∀ k, (Value.slice pa.a pa.len pa.cap).ownBlock = some k → w3.heap.size ≤ k ∧ k < w4.heap.size := fun k e => RA.out.lt k e
    have lB : ∀ k, (Value.slice pb.a pb.len pb.cap).ownBlock = some k → w4.heap.size ≤ k ∧ k < w5.heap.size := fun k e => rb.lt k e
    have LA := veil lA
    have LB := veil lB
    have HR5 := veil (ref_putAll s w5 (HS.out.below B5.out) (by omega) (fun j hj => by have := (HDD.out j hj).1; omega))
    clear rb hpb hpbb hpbl hb5 B4 T4 HP4 RA PA lA lB
    go_wp2_with fail
    refine HR5.out.mono ?_
    rintro e6 w6 ⟨vc, rfl, rc, hb6⟩
    obtain ⟨pc, rfl, hpc, hpcb, hpcl⟩ := row_sl rc
    have B6 := veil (B5.out.trans (hb6.mono B5.out.size))
    have T6 := veil (T5.out.below hb6)
    have RA6 := veil (own_belowK RA5.out hb6)
    have RB6 := veil (own_belowK RB.out hb6)
    have hol := putO_len s.fr
    have hpal : pa.len ≤ 1048576 := by rw [PAL.out]; exact hol
    have hpbl : pb.len ≤ 1048576 := by rw [PBL.out]; exact hol
    have HS1 := veil (same_sl pa pc w6 (PA5.out.below hb6) hpc (by rw [PAB.out, hpcb]) (by omega))
    have HS2 := veil (show ∀ W, Below w6.heap.size w6 W → Calls Tryz.prog 10 #[.slice pb.a pb.len pb.cap, .slice pc.a pc.len pc.cap] W fun e w' => e = .returned (.bool true) ∧ Below W.heap.size W w' from fun W hW => same_sl pb pc W ((PB.out.below hb6).below hW) (hpc.below hW) (by rw [PBB.out, hpcb]) (by omega))
    have s56 := hb6.size
    clear rc hpc hpcb hpcl hb6 B5 T5 HR5 RA5 RB PA5 PB hol
    have hee : (((putE s.fr : Nat) : Int) != ((putE s.fr : Nat) : Int)) = false := by simp
    generalize putE s.fr = E at *
    go_wp2_with fail
    refine HS1.out.mono ?_
    rintro e7 w7 ⟨rfl, hb7⟩
    go_wp2_with fail
    refine (HS2.out w7 hb7).mono ?_
    rintro e8 w8 ⟨rfl, hb8⟩
    have b68 := hb7.trans (hb8.mono hb7.size)
    have B8 := veil (B6.out.trans (b68.mono B6.out.size))
    have T8 := veil (T6.out.below b68)
    have RA8 := veil (own_belowK RA6.out b68)
    have RB8 := veil (own_belowK RB6.out b68)
    have s68 := b68.size
    have HLF := veil (left_fs s w2.heap.size w2.heap.size G w8 (HS.out.below B8.out) hlen HDD.out T8.out)
    clear hb7 hb8 b68 B6 T6 RA6 RB6 HS1 HS2
    go_wp2_with fail
    refine HLF.out.mono ?_
    rintro e9 w9 ⟨rfl, hb9⟩
    have B9 := veil (B8.out.trans (hb9.mono B8.out.size))
    have T9 := veil (T8.out.below hb9)
    have RA9 := veil (own_belowK RA8.out hb9)
    have RB9 := veil (own_belowK RB8.out hb9)
    have s89 := hb9.size
    clear hb9 B8 T8 RA8 RB8 HLF
    obtain ⟨T, hT⟩ : ∃ T, T = w2.heap.size := ⟨_, rfl⟩
    rw [← hT] at T9 HOKT ⊢
    have HTT := veil hT
    clear hT HOKT
    go_wp2_with fail
    go_loopw [10] (fun i wr => ∃ k : Nat, k ≤ s.len ∧ i = .int .i64 k ∧ Below w9.heap.size w9 wr)
      (fun i _ => s.len - (intOf i).toNat)
    case atStart => exact ⟨0, Nat.zero_le _, rfl, Below.refl _ _⟩
    case round =>
      obtain ⟨k, hk, rfl, hbel⟩ := hrel
      by_cases hlt : k < s.len
      · have e1 : s.a = some ⟨s.g, s.off, none⟩ := HS.out.at_ (show 0 < s.len by omega)
        have hsb := (HS.out.below B9.out).below hbel
        have htb := T9.out.below hbel
        have cS := hsb.cell k hlt
        have cT := htb.row k hlt
        have hk8 := (hsb.each k hlt).k8
        have HLG := veil (hsb.lt (show 0 < s.len by omega))
        have HLT := veil htb.lt
        generalize (G[k]?.getD (0, 0)).1 = g1 at *
        generalize (G[k]?.getD (0, 0)).2 = g2 at *
        obtain ⟨K, ek⟩ : ∃ K, K = gf s.l k := ⟨_, rfl⟩
        rw [← ek] at cS cT hk8
        obtain ⟨kk, st, of, li, co, fi, da, ra⟩ := K
        have a0 := cS 0 _ rfl
        have a1 := cS 1 _ rfl
        have a2 := cS 2 _ rfl
        have a3 := cS 3 _ rfl
        have a4 := cS 4 _ rfl
        have a5 := cS 5 _ rfl
        have a6 := cS 6 _ rfl
        have a7 := cS 7 _ rfl
        have x0 := cT 0 _ rfl
        have x1 := cT 1 _ rfl
        have x2 := cT 2 _ rfl
        have x3 := cT 3 _ rfl
        have x4 := cT 4 _ rfl
        have x5 := cT 5 _ rfl
        have x6 := cT 6 _ rfl
        have x7 := cT 7 _ rfl
        simp only [Nat.add_zero] at a0 a1 a2 a3 a4 a5 a6 a7 x0 x1 x2 x3 x4 x5 x6 x7
        simp only at hk8
        have hix : ∀ W, (Instr.indexAt 22 (.slice s.a s.len s.cap) (.int .i64 (k : Int))).run Tryz.prog W = .ok (.pointer (some ⟨s.g, s.off + k * 8, none⟩)) W := fun W => by
          have hsz : ∀ W, (sizeOf 37).run Tryz.prog W = .ok 8 W := fun W => by kernel_rfl
          rw [e1]
          simp [Instr.indexAt, asIntOf, run_underlying Tryz.underlying22, hlt, hsz, Addr.add_mid]
        have HB := veil hbel
        have hel : (elic kk != elic kk) = false := by simp
        clear hsb htb cS cT ek hbel e1
        go_wp2_with fail
        go_region_held3 (fun w' => (w'.cell? ⟨s.g, s.off + k * 8, none⟩ = some (.int .u8 (kk : Int)) ∧ w'.cell? ⟨s.g, s.off + k * 8 + 1, none⟩ = some (.int .u64 (st : Int)) ∧ w'.cell? ⟨s.g, s.off + k * 8 + 2, none⟩ = some (.int .u64 (of : Int)) ∧ w'.cell? ⟨s.g, s.off + k * 8 + 3, none⟩ = some (.int .u64 (li : Int)) ∧ w'.cell? ⟨s.g, s.off + k * 8 + 4, none⟩ = some (.int .u64 (co : Int)) ∧ w'.cell? ⟨s.g, s.off + k * 8 + 5, none⟩ = some (.bool fi) ∧ w'.cell? ⟨s.g, s.off + k * 8 + 6, none⟩ = some (.slice da.a da.len da.cap) ∧ w'.cell? ⟨s.g, s.off + k * 8 + 7, none⟩ = some (.slice ra.a ra.len ra.cap)) ∧ (w'.cell? ⟨T, k * 8, none⟩ = some (.int .u8 (kk : Int)) ∧ w'.cell? ⟨T, k * 8 + 1, none⟩ = some (.int .u64 (st : Int)) ∧ w'.cell? ⟨T, k * 8 + 2, none⟩ = some (.int .u64 (of : Int)) ∧ w'.cell? ⟨T, k * 8 + 3, none⟩ = some (.int .u64 (li : Int)) ∧ w'.cell? ⟨T, k * 8 + 4, none⟩ = some (.int .u64 (co : Int)) ∧ w'.cell? ⟨T, k * 8 + 5, none⟩ = some (.bool fi) ∧ w'.cell? ⟨T, k * 8 + 6, none⟩ = some (.slice (some ⟨g1, 0, none⟩) da.len (da.len + 1)) ∧ w'.cell? ⟨T, k * 8 + 7, none⟩ = some (.slice (some ⟨g2, 0, none⟩) ra.len (ra.len + 1))))
          (first | exact ⟨⟨a0, a1, a2, a3, a4, a5, a6, a7⟩, ⟨x0, x1, x2, x3, x4, x5, x6, x7⟩⟩ | exact ⟨⟨(hkk ⟨s.g, _, none⟩ HLG.out).trans a0, (hkk ⟨s.g, _, none⟩ HLG.out).trans a1, (hkk ⟨s.g, _, none⟩ HLG.out).trans a2, (hkk ⟨s.g, _, none⟩ HLG.out).trans a3, (hkk ⟨s.g, _, none⟩ HLG.out).trans a4, (hkk ⟨s.g, _, none⟩ HLG.out).trans a5, (hkk ⟨s.g, _, none⟩ HLG.out).trans a6, (hkk ⟨s.g, _, none⟩ HLG.out).trans a7⟩, ⟨(hkk ⟨T, _, none⟩ HLT.out).trans x0, (hkk ⟨T, _, none⟩ HLT.out).trans x1, (hkk ⟨T, _, none⟩ HLT.out).trans x2, (hkk ⟨T, _, none⟩ HLT.out).trans x3, (hkk ⟨T, _, none⟩ HLT.out).trans x4, (hkk ⟨T, _, none⟩ HLT.out).trans x5, (hkk ⟨T, _, none⟩ HLT.out).trans x6, (hkk ⟨T, _, none⟩ HLT.out).trans x7⟩⟩)
          (first
            | (go_at_call 12; refine (elic_code ⟨kk, st, of, li, co, fi, twinS g1 da.len da.b, twinRS g2 ra.len ra.l⟩ _ hk8).mono ?_; rintro e5 w5 ⟨rfl, hb5⟩; have hkk : ∀ p : Addr, p.block < wr.heap.size → w5.cell? p = wr.cell? p := (by first | exact fun p h => hb5.cell (p := p) h | exact fun p h => (hb5.cell (p := p) (Nat.lt_of_lt_of_le h hww)).trans (hkk p h)); have hww : wr.heap.size ≤ w5.heap.size := (by first | exact hb5.size | exact Nat.le_trans hww hb5.size); have hqq : Below w9.heap.size w9 w5 := (by first | exact HB.out.drew.trans (hb5.mono HB.out.size) | exact hqq.trans (hb5.mono hqq.size)))
            | (go_at_call 13; refine (elic_ref ⟨kk, st, of, li, co, fi, da, ra⟩ _ hk8).mono ?_; rintro e6 w6 ⟨rfl, hb6⟩; have hkk : ∀ p : Addr, p.block < wr.heap.size → w6.cell? p = wr.cell? p := (by first | exact fun p h => hb6.cell (p := p) h | exact fun p h => (hb6.cell (p := p) (Nat.lt_of_lt_of_le h hww)).trans (hkk p h)); have hww : wr.heap.size ≤ w6.heap.size := (by first | exact hb6.size | exact Nat.le_trans hww hb6.size); have hqq : Below w9.heap.size w9 w6 := (by first | exact HB.out.drew.trans (hb6.mono HB.out.size) | exact hqq.trans (hb6.mono hqq.size))))
        all_goals
          have Q9 := veil hqq
          clear hqq hkk hww a0 a1 a2 a3 a4 a5 a6 a7 x0 x1 x2 x3 x4 x5 x6 x7 hb5 hb6
          go_wp2_with fail
          go_roundw
          case rel => exact ⟨k + 1, by omega, by go_num, Q9.out⟩
          case measure => simp [intOf]; omega
      · have BR := veil (B9.out.trans (hbel.mono B9.out.size))
        have TR := veil (T9.out.below hbel)
        have RAr := veil (own_belowK RA9.out hbel)
        have RBr := veil (own_belowK RB9.out hbel)
        have sr := hbel.size
        have KN := veil (Ba.K3.new w.heap.size w wr 51 BR.out.size BR.out)
        clear hbel T9 RA9 RB9 B9
        have hTW : w.heap.size ≤ T := by rw [HTT.out]; exact sw2
        have hBT : wr.heap.size < wr.heap.size + 1 := Nat.lt_succ_self _
        have OLD0 := veil (show ∀ b, b < wr.heap.size → (wr.alloc (.cells #[.int .i64 0, .slice none 0 0, .slice none 0 0, .slice none 0 0, .slice none 0 0, .slice none 0 0, .slice none 0 0, .slice none 0 0, .slice none 0 0, .slice none 0 0, .slice none 0 0, .slice none 0 0, .slice none 0 0] 51)).heap[b]? = wr.heap[b]? from fun b hb => ((Below.refl wr.heap.size wr).alloc (Nat.le_refl _) _).block b hb)
        have HFS := veil (KN.out.frames hBT T T s.len s.l G TR.out rfl OLD0.out hTW (Nat.le_refl _) (by omega) HDD.out w3.heap.size ZZ.out)
        have s3r : w3.heap.size ≤ wr.heap.size := by omega
        have s4r : w4.heap.size ≤ wr.heap.size := by omega
        have s5r : w5.heap.size ≤ wr.heap.size := by omega
        have s43 : w3.heap.size ≤ w4.heap.size := s34
        have hwr3 : w.heap.size ≤ w3.heap.size := by omega
        have hwr4 : w.heap.size ≤ w4.heap.size := by omega
        rw [← PAL.out] at RAr
        rw [← PBL.out] at RBr
        clear KN TR
        go_wp2_with fail
        refine HFS.out.mono ?_
        rintro e11 w11 ⟨rfl, ⟨H1, hB1, k1⟩, hz1, same1⟩
        have SAME1 := veil (show ∀ b, b < wr.heap.size → w11.heap[b]? = wr.heap[b]? from fun b hb => (same1 b hb).trans (OLD0.out b hb))
        have oa := own_lowK (own_keepK RAr.out (fun g e => SAME1.out g (by have := (LA.out g e).2; omega))) hwr3
        have HBA := veil (k1.bytes hB1 pa.a pa.len pa.cap w4.heap.size _ (by omega) oa (fun k e => ⟨(LA.out k e).1, (LA.out k e).2, by have := (LA.out k e).2; omega⟩) (by omega) (by omega))
        have KL := veil k1.lt
        clear k1 same1 oa HFS OLD0 RAr
        go_wp2_with fail
        refine HBA.out.mono ?_
        rintro e12 w12 ⟨rfl, k2, old2⟩
        have SAME2 := veil (show ∀ b, b < wr.heap.size → w12.heap[b]? = wr.heap[b]? from fun b hb => (old2.block b (by have := KL.out; omega) (.inl hb)).trans (SAME1.out b hb))
        have ob := own_lowK (own_keepK RBr.out (fun g e => SAME2.out g (by have := (LB.out g e).2; omega))) hwr4
        have HBB := veil (k2.bytes k2.lt pb.a pb.len pb.cap w5.heap.size _ (by omega) ob (fun k e => ⟨(LB.out k e).1, (LB.out k e).2, by have := (LB.out k e).2; omega⟩) (by omega) (by omega))
        clear k2 old2 ob HBA RBr
        go_wp2_with fail
        refine HBB.out.mono ?_
        rintro e13 w13 ⟨rfl, k3, old3⟩
        have HAP := veil (k3.apart (by omega))
        clear k3 old3 HBB
        go_wp2_with fail
        refine HAP.out.mono ?_
        rintro e14 w14 ⟨rfl, hb14⟩
        go_wp2_with fail
        go_ret
        exact ⟨rfl, hb14⟩
end Go.Proofs.YtaighdppemnglaaGreatDoor
