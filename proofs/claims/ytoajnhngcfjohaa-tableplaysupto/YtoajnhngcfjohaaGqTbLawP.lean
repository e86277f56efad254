/-
  The law of a table that plays: whatever comes, it has and answers what the document's has.
-/
import Derived.Test.YtoajnhngcfjohaaGqTbPlay0
import Derived.Deep.CutBlock
namespace Go.Proofs.Ytoajnhngcfjohaa
open Go Go.RowKit

namespace Tb
theorem bch {w W W' : World} (h : Below w.heap.size w W) (k : Below W.heap.size W W') : Below w.heap.size w W' := h.trans (k.mono h.size)
theorem act_range {W : World} {bx : Nat} {T : TypeId} {a : TA} (h : Row W bx T a.cells) : W.rangeAt bx 1 a.f.cells.toList := Row.rangeH h 1 _ fun j v e => by
  match j, e with
  | 0, e => exact e
  | 1, e => exact e
  | j + 2, e => simp [Fd.cells] at e
section
variable {P : Program} {a : Act} {o : Oper}
theorem lgRun_neqS (t t' : TypeId) (x y : Operand) (m : Int) (ho : o.op = .binOp .neq t x y t') (hx : a.eval x = .int .i64 m) (hy : a.eval y = .int .i64 m) (W : World) :
    (execOp a.eval o).run P W = .ok (.value (.bool false)) W := by
  unfold execOp
  simp only [ho, hx, hy]
  go_simp
end
def depP1 : Nat → List Nat
  | 2 => [1]
  | 3 => [0, 2]
  | 6 => [5]
  | 7 => [4, 6, 3]
  | 8 => [3, 7]
  | _ => []
def dsP1 : List Nat := [147, 148, 149, 150, 151, 152, 153, 154, 155]
def valP1 (h1 h2 bx E : Nat) (ga gb : ByteArray) : Nat → Value
  | 0 => .pointer (some ⟨h1, 0, none⟩)
  | 1 => .pointer (some ⟨bx, 1, none⟩)
  | 2 => .agg (Fd.cells (ga, gb))
  | 3 => .int .i64 (E : Int)
  | 4 => .pointer (some ⟨h2, 0, none⟩)
  | 5 => .pointer (some ⟨bx, 1, none⟩)
  | 6 => .agg (Fd.cells (ga, gb))
  | 7 => .int .i64 (E : Int)
  | 8 => .bool false
  | _ => undef
def depP2 : Nat → List Nat
  | 2 => [1]
  | 3 => [0, 2]
  | 6 => [5]
  | 7 => [4, 6, 3]
  | 8 => [3, 7]
  | _ => []
def dsP2 : List Nat := [158, 159, 160, 161, 162, 163, 164, 165, 166]
def valP2 (h1 h2 bx E : Nat) (num : Int) : Nat → Value
  | 0 => .pointer (some ⟨h1, 0, none⟩)
  | 1 => .pointer (some ⟨bx, 3, none⟩)
  | 2 => .int .i64 num
  | 3 => .int .i64 (E : Int)
  | 4 => .pointer (some ⟨h2, 0, none⟩)
  | 5 => .pointer (some ⟨bx, 3, none⟩)
  | 6 => .int .i64 num
  | 7 => .int .i64 (E : Int)
  | 8 => .bool false
  | _ => undef
set_option maxRecDepth 100000 in
set_option maxHeartbeats 8000000 in
theorem law_plays (room : Int) (s : AL) (w : World) (hs : s.Ok w) (hb : tot (fdsOf s.l) ≤ 2097152) :
    Calls Try.prog 4 #[.int .i64 room, .slice s.a s.len s.cap] w fun e w' => e = .returned (.bool true) ∧ Below w.heap.size w w' := by
  obtain ⟨a, len, cap, sg, off, l⟩ := s
  have hlen : l.length = len := hs.hb
  have hb : tot (fdsOf l) ≤ 2097152 := hb
  have hl2 := tot_length (fdsOf l)
  have hlf : (fdsOf l).length = len := by unfold fdsOf; rw [List.length_map]; exact hlen
  have hlb : len ≤ 2097152 := by omega
  have HS := veil (show _ ∧ _ from ⟨hs, hb⟩)
  have HL := veil (And.intro hlen hlf)
  clear hs hb hlen hl2 hlf
  show Calls Try.prog 4 #[.int .i64 room, .slice a len cap] w _
  go_enter Try.func4, Try.ntmps4
  go_wp2_with fail
  go_loopw [5, 6] (fun nv iv wr => ∃ k N : Nat, k ≤ len ∧ iv = .int .i64 (k : Int) ∧ nv = .int .i64 (N : Int) ∧ tot ((fdsOf l).take k) = N ∧ ∃ m, wr = w.drewN m)
    (fun _ iv _ => len - (intOf iv).toNat)
  case atStart => exact ⟨0, 0, Nat.zero_le _, rfl, rfl, rfl, 0, rfl⟩
  case round =>
    obtain ⟨k, N, hk, rfl, rfl, hN, m, rfl⟩ := hrel
    by_cases hlt : k < len
    · obtain ⟨⟨kd, ⟨ga, gb⟩, num⟩, hg⟩ : ∃ g, l[k]? = some g := ⟨_, List.getElem?_eq_getElem (by have := HL.out.1; omega)⟩
      have hgf := fdsOf_get hg
      obtain rfl : a = some ⟨sg, off, none⟩ := HS.out.1.at_ (show 0 < len by omega)
      have hcell : w.rangeAt sg (off + k * 4) (TA.cells ⟨kd, (ga, gb), num⟩).toList := HS.out.1.cell k _ hg
      have x0 : w.cell? ⟨sg, off + k * 4 + 1, none⟩ = some (.string ga) := hcell 1 _ rfl
      have x1 : w.cell? ⟨sg, off + k * 4 + 2, none⟩ = some (.string gb) := hcell 2 _ rfl
      have x1' : w.cell? ⟨sg, off + k * 4 + 1 + 1, none⟩ = some (.string gb) := x1
      have hT := tot_take_succ hgf
      have hT2 := tot_take_le (fdsOf l) (k + 1)
      have hT3 : tot (fdsOf l) ≤ 2097152 := HS.out.2
      obtain ⟨La, hLa⟩ : ∃ La, ga.size = La := ⟨_, rfl⟩
      obtain ⟨Lb, hLb⟩ : ∃ Lb, gb.size = Lb := ⟨_, rfl⟩
      simp only [hLa, hLb] at hT
      rw [hN] at hT
      have HH := veil (show tot ((fdsOf l).take (k + 1)) = N + 1 + La + Lb ∧ N + 1 + La + Lb ≤ 2097152 from by omega)
      have w1 : IntKind.i64.wrap ((N : Int) + 1) = ((N + 1 : Nat) : Int) := by have := HH.out; rw [IntKind.wrap_i64]; omega
      have w2 : IntKind.i64.wrap (((N + 1 : Nat) : Int) + (La : Int)) = ((N + 1 + La : Nat) : Int) := by have := HH.out; rw [IntKind.wrap_i64]; omega
      have w3 : IntKind.i64.wrap (((N + 1 + La : Nat) : Int) + (Lb : Int)) = ((N + 1 + La + Lb : Nat) : Int) := by have := HH.out; rw [IntKind.wrap_i64]; omega
      have w5 : IntKind.i64.wrap ((k : Int) + 1) = ((k + 1 : Nat) : Int) := by rw [IntKind.wrap_i64]; omega
      have bI : (k : Int) < (len : Int) := by omega
      have HLT := veil hlt
      clear hcell hgf hg hT hT2 hT3 hN hlt hk
      generalize N + 1 = S1 at *
      generalize S1 + La = S2 at *
      generalize S2 + Lb = S3 at *
      go_wp2_with fail
      go_quiet (fail)
      go_wp2_with fail
      go_roundw
      case rel => exact ⟨k + 1, S3, HLT.out, (by first | rfl | go_num), rfl, HH.out.1, _, rfl⟩
      case measure => have := HLT.out; simp [intOf]; omega
    · obtain rfl : len = k := by omega
      have HN := veil (show tot (fdsOf l) = N from by rw [← hN, List.take_of_length_le (by have := HL.out.2; omega)])
      have bI : ¬ (len : Int) < (len : Int) := by omega
      clear hN hlt hk
      by_cases hbig : 50000 < N
      · have bN : (50000 : Int) < (N : Int) := by omega
        go_wp2_with (go_at_call 11; refine (lives_any _).mono ?_; rintro e1 w8 ⟨rfl, hb⟩)
        go_ret
        exact ⟨rfl, (below_drewN (Below.refl _ _) _).trans hb⟩
      · have bN : ¬ (50000 : Int) < (N : Int) := by omega
        by_cases hmany : 2000 < len
        · have bM : (2000 : Int) < (len : Int) := by omega
          go_wp2_with (go_at_call 11; refine (lives_any _).mono ?_; rintro e1 w8 ⟨rfl, hb⟩)
          go_ret
          exact ⟨rfl, (below_drewN (Below.refl _ _) _).trans hb⟩
        · have bM : ¬ (2000 : Int) < (len : Int) := by omega
          have hNN := HN.out
          have HSM := veil (show tot (fdsOf l) ≤ 50000 from by omega)
          by_cases hr : 0 ≤ room ∧ room ≤ 4096
          · obtain ⟨r, rfl⟩ : ∃ r : Nat, room = (r : Int) := ⟨room.toNat, by omega⟩
            have hr1 : r ≤ 4096 := by omega
            have dN : decide ((50000 : Int) < (N : Int)) = false := decide_eq_false bN
            have dM : decide ((2000 : Int) < (len : Int)) = false := decide_eq_false bM
            have dN2 : decide (50000 < N) = false := decide_eq_false hbig
            have dM2 : decide (2000 < len) = false := decide_eq_false hmany
            clear hNN hbig hr
            go_upto_region 10 with first
              | (go_at_call 12; refine (both_new (w := w) r hr1 (below_drewN (Below.refl _ _) _)).mono ?_; rintro e1 w1 ⟨h1, A1, p1, q1, rfl, hP1, hh1, hb1⟩)
              | (go_at_call 13; refine (both_ref (w := w) hr1 hP1 hh1 hb1).mono ?_; rintro e1 w2 ⟨h2, v2, rfl, hB2⟩)
            have HB := veil hB2
            clear hP1 hh1 hb1 hB2
            go_wp2_with fail
            clear bN bM bI hmany dN dM dN2 dM2
            go_loopw [13] (fun iv wr => ∃ (k : Nat) (T : Tab) (v : Value), k ≤ len ∧ iv = .int .i64 (k : Int) ∧ BT w h1 T h2 T v wr ∧ T.Fine ∧ T.came ≤ k)
              (fun iv _ => len - (intOf iv).toNat)
            case atStart => exact ⟨0, _, _, Nat.zero_le _, rfl, HB.out, ⟨hr1, Nat.zero_le _⟩, Nat.le_refl _⟩
            case round =>
              obtain ⟨k, T, v, hk, rfl, hX, hfine, hcm⟩ := hrel
              by_cases hlt : k < len
              · obtain ⟨⟨kd, ⟨ga, gb⟩, num⟩, hg⟩ : ∃ g, l[k]? = some g := ⟨_, List.getElem?_eq_getElem (by have := HL.out.1; omega)⟩
                have hgf := fdsOf_get hg
                have hok := HS.out.1.each k _ hg
                obtain rfl : a = some ⟨sg, off, none⟩ := HS.out.1.at_ (show 0 < len by omega)
                have hcell : wr.rangeAt sg (off + k * 4) (TA.cells ⟨kd, (ga, gb), num⟩).toList := (HS.out.1.below hX.bel).cell k _ hg
                have x0 : wr.cell? ⟨sg, off + k * 4, none⟩ = some (.int .u8 (kd : Int)) := hcell 0 _ rfl
                have x1 : wr.cell? ⟨sg, off + k * 4 + 1, none⟩ = some (.string ga) := hcell 1 _ rfl
                have x2 : wr.cell? ⟨sg, off + k * 4 + 2, none⟩ = some (.string gb) := hcell 2 _ rfl
                have x3 : wr.cell? ⟨sg, off + k * 4 + 3, none⟩ = some (.int .i64 num) := hcell 3 _ rfl
                have hT := tot_take_succ hgf
                have hT2 := tot_take_le (fdsOf l) (k + 1)
                have hT3 := HSM.out
                have hfz : ga.size + gb.size ≤ 1000000000000000000 := by
                  simp only at hT
                  omega
                have hkd : kd < 256 := hok.k
                have hnn : -9223372036854775808 ≤ num ∧ num < 9223372036854775808 := ⟨hok.n0, hok.n1⟩
                have hlen5 : len ≤ 50000 := by have := tot_length (fdsOf l); have := HL.out.2; omega
                have w5 : IntKind.i64.wrap ((k : Int) + 1) = ((k + 1 : Nat) : Int) := by rw [IntKind.wrap_i64]; omega
                have bI : (k : Int) < (len : Int) := by omega
                have HLT := veil hlt
                have HF := veil (show _ ∧ _ ∧ _ from ⟨hfine, hcm, hfz⟩)
                have hba : Below wr.heap.size wr (wr.alloc (.cells (TA.cells ⟨kd, (ga, gb), num⟩) 32)) := (Below.refl _ wr).alloc (Nat.le_refl _) _
                have HX := veil (hX.below hba)
                have HR := veil (Row.new wr 32 (TA.cells ⟨kd, (ga, gb), num⟩))
                clear hcell hgf hok hg hT hT2 hT3 hfine hcm hfz hlt hk hX hba
                go_upto_region 19 with fail
                have hwa : wr.alloc (.cells #[.int .u8 (kd : Int), .string ga, .string gb, .int .i64 num] 32) = wr.alloc (.cells (TA.cells ⟨kd, (ga, gb), num⟩) 32) := rfl
                rw [hwa]
                clear hwa x0 x1 x2 x3
                generalize wr.alloc (.cells (TA.cells ⟨kd, (ga, gb), num⟩) 32) = w3 at *
                generalize wr.heap.size = bx at *
                have y0 : w3.cell? ⟨bx, 0, none⟩ = some (.int .u8 (kd : Int)) := HR.out.cell 0
                obtain ⟨km, hkm⟩ : ∃ km, kd % 4 = km := ⟨_, rfl⟩
                have hkm4 : km < 4 := by omega
                have m0 : Int.tmod (kd : Int) 4 = (km : Int) := by rw [Int.tmod_eq_emod_of_nonneg (by omega)]; omega
                have m1 : IntKind.u8.wrap (km : Int) = (km : Int) := by rw [IntKind.wrap_u8]; omega
                go_upto_block 4 with fail
                clear y0 m0 m1 hkm
                go_cut [] (fun W => ∃ T' v', BT w h1 T' h2 T' v' W ∧ T'.Fine ∧ T'.came ≤ k + 1)
                case first =>
                  have hkc : km = 0 ∨ km = 1 ∨ km = 2 ∨ km = 3 := by omega
                  have HN := veil hnn
                  clear hkm4 hkd
                  rcases hkc with rfl | rfl | rfl | rfl
                  · go_upto_region 26 with fail
                    obtain ⟨E, hE⟩ : ∃ E, T.addE (ga, gb) = E := ⟨_, rfl⟩
                    have HE := veil hE
                    clear hE
                    go_wp2_with fail
                    refine (wpIn_wide (n := 4)).1 ?_
                    refine wpIn_region_any (by kernel_rfl) ?_
                    refine anyIn_line2 (valP1 h1 h2 bx E ga gb) (fun m W => (m ≤ 0 → Below w3.heap.size w3 W) ∧ (m = 1 → BT w h1 (T.add (ga, gb)) h2 T v W ∧ Row W bx 32 (TA.cells ⟨kd, (ga, gb), num⟩)) ∧ (m = 2 → ∃ v9, BT w h1 (T.add (ga, gb)) h2 (T.add (ga, gb)) v9 W)) [3, 7] dsP1 depP1 (by kernel_rfl) rfl (by decide) (by decide) ?ord ?inn ?h0 ?fix ?cal ?done
                    case ord =>
                      intro k i j h1 h2
                      match k, h1, h2 with
                      | 0, h1, h2 => obtain rfl := Option.some.inj h1; obtain rfl := Option.some.inj h2; exact .inl (by decide)
                      | k + 1, _, h2 => simp at h2
                    case inn => intro j hj; simp at hj; show j < 9; omega
                    case h0 => exact ⟨fun _ => (Below.refl _ _).drew, fun h => absurd h (by omega), fun h => absurd h (by omega)⟩
                    case fix =>
                      intro x W m ii d hR hm hdi hc hdep
                      match ii, hm, hdi, hc, hdep with
                      | 0, _, hdi, _, _ =>
                        obtain rfl := Option.some.inj hdi
                        exact OI_value rfl rfl (about_none (by intro c h; cases h)) (by intro c h; cases h) (.pointer (some ⟨h1, 0, none⟩)) W (by kernel_rfl) ⟨rfl, rfl⟩
                      | 1, _, hdi, _, _ =>
                        obtain rfl := Option.some.inj hdi
                        exact OI_value rfl rfl (about_none (by intro c h; cases h)) (by intro c h; cases h) (.pointer (some ⟨bx, 1, none⟩)) W (by kernel_rfl) ⟨rfl, rfl⟩
                      | 2, hm, hdi, _, hdep =>
                        obtain rfl := Option.some.inj hdi
                        have hm0 := hm 0 3 rfl (by simp [depP1])
                        have hrw : Row W bx 32 (TA.cells ⟨kd, (ga, gb), num⟩) := Row.below HR.out (hR.1 (by omega)) HR.out.lt
                        rw [updV_self (show x 1 = _ from hdep 1 (by simp [depP1]))]
                        exact OI_value rfl rfl (about_none (by intro c h; cases h)) (by intro c h; cases h) (.agg (Fd.cells (ga, gb))) W (run_midT 23 _ bx 1 (Fd.cells (ga, gb)).toList _ rfl (by kernel_rfl) Try.underlying23 rfl (by kernel_rfl) W (act_range hrw)) ⟨rfl, rfl⟩
                      | 3, _, _, hc, _ => exact (hc (by simp)).elim
                      | 4, _, hdi, _, _ =>
                        obtain rfl := Option.some.inj hdi
                        exact OI_value rfl rfl (about_none (by intro c h; cases h)) (by intro c h; cases h) (.pointer (some ⟨h2, 0, none⟩)) W (by kernel_rfl) ⟨rfl, rfl⟩
                      | 5, _, hdi, _, _ =>
                        obtain rfl := Option.some.inj hdi
                        exact OI_value rfl rfl (about_none (by intro c h; cases h)) (by intro c h; cases h) (.pointer (some ⟨bx, 1, none⟩)) W (by kernel_rfl) ⟨rfl, rfl⟩
                      | 6, hm, hdi, _, hdep =>
                        obtain rfl := Option.some.inj hdi
                        have hrw : Row W bx 32 (TA.cells ⟨kd, (ga, gb), num⟩) := by
                          have hm1 := hm 1 7 rfl (by simp [depP1])
                          rcases Nat.eq_zero_or_pos m with e | e
                          · exact Row.below HR.out (hR.1 (by omega)) HR.out.lt
                          · exact (hR.2.1 (by omega)).2
                        rw [updV_self (show x 5 = _ from hdep 5 (by simp [depP1]))]
                        exact OI_value rfl rfl (about_none (by intro c h; cases h)) (by intro c h; cases h) (.agg (Fd.cells (ga, gb))) W (run_midT 23 _ bx 1 (Fd.cells (ga, gb)).toList _ rfl (by kernel_rfl) Try.underlying23 rfl (by kernel_rfl) W (act_range hrw)) ⟨rfl, rfl⟩
                      | 7, _, _, hc, _ => exact (hc (by simp)).elim
                      | 8, _, hdi, _, hdep =>
                        obtain rfl := Option.some.inj hdi
                        rw [updV_self (show x 3 = _ from hdep 3 (by simp [depP1])), updV_self (show (updV x 3 _) 7 = _ from hdep 7 (by simp [depP1]))]
                        exact OI_value rfl rfl (about_none (by intro c h; cases h)) (by intro c h; cases h) (.bool false) W (lgRun_neqS _ _ _ _ (E : Int) rfl (by kernel_rfl) (by kernel_rfl) W) ⟨rfl, rfl⟩
                      | _ + 9, _, hdi, _, _ => simp [dsP1] at hdi
                    case cal =>
                      intro x W k ii d hR hk hdi hdep
                      match k, hk, hR with
                      | 0, hk, hR =>
                        obtain rfl := Option.some.inj hk
                        obtain rfl := Option.some.inj hdi
                        rw [updV_self (show x 0 = _ from hdep 0 (by simp [depP1])), updV_self (show (updV x 0 _) 2 = _ from hdep 2 (by simp [depP1]))]
                        have hW := hR.1 (by omega)
                        have hX3 := HX.out.below hW
                        have hR3 := Row.below HR.out hW HR.out.lt
                        obtain ⟨A, p, q, hP⟩ := hX3.pt
                        refine OI_call rfl rfl (by intro c h; cases h) 15 #[.pointer (some ⟨h1, 0, none⟩), .agg (Fd.cells (ga, gb))] (fun _ _ => trivial) (by kernel_rfl) (by decide) ?_
                        refine (callsIn_wide.2 (tab_add hP (ga, gb) HF.out.2.2 (by have := HF.out.2.1; have := HLT.out; omega))).mono ?_
                        rintro e w9 ⟨rfl, A9, p9, q9, hP9, hK9⟩
                        rw [HE.out]
                        exact ⟨_, rfl, rfl, fun h => absurd h (by omega), fun _ => ⟨hX3.prog hP9 hK9, (hK9.block bx hR3.lt (hX3.apart hR3).1).trans hR3⟩, fun h => absurd h (by omega)⟩
                      | 1, hk, hR =>
                        obtain rfl := Option.some.inj hk
                        obtain rfl := Option.some.inj hdi
                        rw [updV_self (show x 4 = _ from hdep 4 (by simp [depP1])), updV_self (show (updV x 4 _) 6 = _ from hdep 6 (by simp [depP1]))]
                        obtain ⟨hX4, hR4⟩ := hR.2.1 rfl
                        refine OI_call rfl rfl (by intro c h; cases h) 20 #[.pointer (some ⟨h2, 0, none⟩), .agg (Fd.cells (ga, gb))] (fun _ _ => trivial) (by kernel_rfl) (by decide) ?_
                        refine (callsIn_wide.2 (ref_add hX4.rt (ga, gb) HF.out.2.2 HF.out.1 (by have := HF.out.2.1; have := HLT.out; omega))).mono ?_
                        rintro e w9 ⟨rfl, v9, hs9⟩
                        rw [HE.out]
                        exact ⟨_, rfl, rfl, fun h => absurd h (by omega), fun h => absurd h (by omega), fun _ => ⟨v9, hX4.ref hs9⟩⟩
                      | _ + 2, hk, _ => simp at hk
                    case done =>
                      intro W hR
                      simp only [dsP1, putsV, valP1, Act.put, List.setIfInBounds_toArray, List.set_cons_succ, List.set_cons_zero, Nat.reduceAdd]
                      obtain ⟨v9, hX9⟩ := hR.2.2 rfl
                      have HR9 := veil hX9
                      clear hR hX9
                      go_wp2_with fail
                      go_meet
                      exact ⟨_, v9, HR9.out, HF.out.1.add _, Nat.le_trans (came_add T _) (Nat.succ_le_succ HF.out.2.1)⟩
                  · go_upto_region 26 with fail
                    obtain ⟨E, hE⟩ : ∃ E, T.addE (ga, gb) = E := ⟨_, rfl⟩
                    have HE := veil hE
                    clear hE
                    go_wp2_with fail
                    refine (wpIn_wide (n := 4)).1 ?_
                    refine wpIn_region_any (by kernel_rfl) ?_
                    refine anyIn_line2 (valP1 h1 h2 bx E ga gb) (fun m W => (m ≤ 0 → Below w3.heap.size w3 W) ∧ (m = 1 → BT w h1 (T.add (ga, gb)) h2 T v W ∧ Row W bx 32 (TA.cells ⟨kd, (ga, gb), num⟩)) ∧ (m = 2 → ∃ v9, BT w h1 (T.add (ga, gb)) h2 (T.add (ga, gb)) v9 W)) [3, 7] dsP1 depP1 (by kernel_rfl) rfl (by decide) (by decide) ?ord ?inn ?h0 ?fix ?cal ?done
                    case ord =>
                      intro k i j h1 h2
                      match k, h1, h2 with
                      | 0, h1, h2 => obtain rfl := Option.some.inj h1; obtain rfl := Option.some.inj h2; exact .inl (by decide)
                      | k + 1, _, h2 => simp at h2
                    case inn => intro j hj; simp at hj; show j < 9; omega
                    case h0 => exact ⟨fun _ => (Below.refl _ _).drew, fun h => absurd h (by omega), fun h => absurd h (by omega)⟩
                    case fix =>
                      intro x W m ii d hR hm hdi hc hdep
                      match ii, hm, hdi, hc, hdep with
                      | 0, _, hdi, _, _ =>
                        obtain rfl := Option.some.inj hdi
                        exact OI_value rfl rfl (about_none (by intro c h; cases h)) (by intro c h; cases h) (.pointer (some ⟨h1, 0, none⟩)) W (by kernel_rfl) ⟨rfl, rfl⟩
                      | 1, _, hdi, _, _ =>
                        obtain rfl := Option.some.inj hdi
                        exact OI_value rfl rfl (about_none (by intro c h; cases h)) (by intro c h; cases h) (.pointer (some ⟨bx, 1, none⟩)) W (by kernel_rfl) ⟨rfl, rfl⟩
                      | 2, hm, hdi, _, hdep =>
                        obtain rfl := Option.some.inj hdi
                        have hm0 := hm 0 3 rfl (by simp [depP1])
                        have hrw : Row W bx 32 (TA.cells ⟨kd, (ga, gb), num⟩) := Row.below HR.out (hR.1 (by omega)) HR.out.lt
                        rw [updV_self (show x 1 = _ from hdep 1 (by simp [depP1]))]
                        exact OI_value rfl rfl (about_none (by intro c h; cases h)) (by intro c h; cases h) (.agg (Fd.cells (ga, gb))) W (run_midT 23 _ bx 1 (Fd.cells (ga, gb)).toList _ rfl (by kernel_rfl) Try.underlying23 rfl (by kernel_rfl) W (act_range hrw)) ⟨rfl, rfl⟩
                      | 3, _, _, hc, _ => exact (hc (by simp)).elim
                      | 4, _, hdi, _, _ =>
                        obtain rfl := Option.some.inj hdi
                        exact OI_value rfl rfl (about_none (by intro c h; cases h)) (by intro c h; cases h) (.pointer (some ⟨h2, 0, none⟩)) W (by kernel_rfl) ⟨rfl, rfl⟩
                      | 5, _, hdi, _, _ =>
                        obtain rfl := Option.some.inj hdi
                        exact OI_value rfl rfl (about_none (by intro c h; cases h)) (by intro c h; cases h) (.pointer (some ⟨bx, 1, none⟩)) W (by kernel_rfl) ⟨rfl, rfl⟩
                      | 6, hm, hdi, _, hdep =>
                        obtain rfl := Option.some.inj hdi
                        have hrw : Row W bx 32 (TA.cells ⟨kd, (ga, gb), num⟩) := by
                          have hm1 := hm 1 7 rfl (by simp [depP1])
                          rcases Nat.eq_zero_or_pos m with e | e
                          · exact Row.below HR.out (hR.1 (by omega)) HR.out.lt
                          · exact (hR.2.1 (by omega)).2
                        rw [updV_self (show x 5 = _ from hdep 5 (by simp [depP1]))]
                        exact OI_value rfl rfl (about_none (by intro c h; cases h)) (by intro c h; cases h) (.agg (Fd.cells (ga, gb))) W (run_midT 23 _ bx 1 (Fd.cells (ga, gb)).toList _ rfl (by kernel_rfl) Try.underlying23 rfl (by kernel_rfl) W (act_range hrw)) ⟨rfl, rfl⟩
                      | 7, _, _, hc, _ => exact (hc (by simp)).elim
                      | 8, _, hdi, _, hdep =>
                        obtain rfl := Option.some.inj hdi
                        rw [updV_self (show x 3 = _ from hdep 3 (by simp [depP1])), updV_self (show (updV x 3 _) 7 = _ from hdep 7 (by simp [depP1]))]
                        exact OI_value rfl rfl (about_none (by intro c h; cases h)) (by intro c h; cases h) (.bool false) W (lgRun_neqS _ _ _ _ (E : Int) rfl (by kernel_rfl) (by kernel_rfl) W) ⟨rfl, rfl⟩
                      | _ + 9, _, hdi, _, _ => simp [dsP1] at hdi
                    case cal =>
                      intro x W k ii d hR hk hdi hdep
                      match k, hk, hR with
                      | 0, hk, hR =>
                        obtain rfl := Option.some.inj hk
                        obtain rfl := Option.some.inj hdi
                        rw [updV_self (show x 0 = _ from hdep 0 (by simp [depP1])), updV_self (show (updV x 0 _) 2 = _ from hdep 2 (by simp [depP1]))]
                        have hW := hR.1 (by omega)
                        have hX3 := HX.out.below hW
                        have hR3 := Row.below HR.out hW HR.out.lt
                        obtain ⟨A, p, q, hP⟩ := hX3.pt
                        refine OI_call rfl rfl (by intro c h; cases h) 15 #[.pointer (some ⟨h1, 0, none⟩), .agg (Fd.cells (ga, gb))] (fun _ _ => trivial) (by kernel_rfl) (by decide) ?_
                        refine (callsIn_wide.2 (tab_add hP (ga, gb) HF.out.2.2 (by have := HF.out.2.1; have := HLT.out; omega))).mono ?_
                        rintro e w9 ⟨rfl, A9, p9, q9, hP9, hK9⟩
                        rw [HE.out]
                        exact ⟨_, rfl, rfl, fun h => absurd h (by omega), fun _ => ⟨hX3.prog hP9 hK9, (hK9.block bx hR3.lt (hX3.apart hR3).1).trans hR3⟩, fun h => absurd h (by omega)⟩
                      | 1, hk, hR =>
                        obtain rfl := Option.some.inj hk
                        obtain rfl := Option.some.inj hdi
                        rw [updV_self (show x 4 = _ from hdep 4 (by simp [depP1])), updV_self (show (updV x 4 _) 6 = _ from hdep 6 (by simp [depP1]))]
                        obtain ⟨hX4, hR4⟩ := hR.2.1 rfl
                        refine OI_call rfl rfl (by intro c h; cases h) 20 #[.pointer (some ⟨h2, 0, none⟩), .agg (Fd.cells (ga, gb))] (fun _ _ => trivial) (by kernel_rfl) (by decide) ?_
                        refine (callsIn_wide.2 (ref_add hX4.rt (ga, gb) HF.out.2.2 HF.out.1 (by have := HF.out.2.1; have := HLT.out; omega))).mono ?_
                        rintro e w9 ⟨rfl, v9, hs9⟩
                        rw [HE.out]
                        exact ⟨_, rfl, rfl, fun h => absurd h (by omega), fun h => absurd h (by omega), fun _ => ⟨v9, hX4.ref hs9⟩⟩
                      | _ + 2, hk, _ => simp at hk
                    case done =>
                      intro W hR
                      simp only [dsP1, putsV, valP1, Act.put, List.setIfInBounds_toArray, List.set_cons_succ, List.set_cons_zero, Nat.reduceAdd]
                      obtain ⟨v9, hX9⟩ := hR.2.2 rfl
                      have HR9 := veil hX9
                      clear hR hX9
                      go_wp2_with fail
                      go_meet
                      exact ⟨_, v9, HR9.out, HF.out.1.add _, Nat.le_trans (came_add T _) (Nat.succ_le_succ HF.out.2.1)⟩
                  · go_upto_region 29 with fail
                    obtain ⟨E, hE⟩ : ∃ E, Tab.roomE num = E := ⟨_, rfl⟩
                    have HE := veil hE
                    clear hE
                    go_wp2_with fail
                    refine (wpIn_wide (n := 4)).1 ?_
                    refine wpIn_region_any (by kernel_rfl) ?_
                    refine anyIn_line2 (valP2 h1 h2 bx E num) (fun m W => (m ≤ 0 → Below w3.heap.size w3 W) ∧ (m = 1 → BT w h1 (T.setRoom num) h2 T v W ∧ Row W bx 32 (TA.cells ⟨kd, (ga, gb), num⟩)) ∧ (m = 2 → ∃ v9, BT w h1 (T.setRoom num) h2 (T.setRoom num) v9 W)) [3, 7] dsP2 depP2 (by kernel_rfl) rfl (by decide) (by decide) ?ord ?inn ?h0 ?fix ?cal ?done
                    case ord =>
                      intro k i j h1 h2
                      match k, h1, h2 with
                      | 0, h1, h2 => obtain rfl := Option.some.inj h1; obtain rfl := Option.some.inj h2; exact .inl (by decide)
                      | k + 1, _, h2 => simp at h2
                    case inn => intro j hj; simp at hj; show j < 9; omega
                    case h0 => exact ⟨fun _ => (Below.refl _ _).drew, fun h => absurd h (by omega), fun h => absurd h (by omega)⟩
                    case fix =>
                      intro x W m ii d hR hm hdi hc hdep
                      match ii, hm, hdi, hc, hdep with
                      | 0, _, hdi, _, _ =>
                        obtain rfl := Option.some.inj hdi
                        exact OI_value rfl rfl (about_none (by intro c h; cases h)) (by intro c h; cases h) (.pointer (some ⟨h1, 0, none⟩)) W (by kernel_rfl) ⟨rfl, rfl⟩
                      | 1, _, hdi, _, _ =>
                        obtain rfl := Option.some.inj hdi
                        exact OI_value rfl rfl (about_none (by intro c h; cases h)) (by intro c h; cases h) (.pointer (some ⟨bx, 3, none⟩)) W (by kernel_rfl) ⟨rfl, rfl⟩
                      | 2, hm, hdi, _, hdep =>
                        obtain rfl := Option.some.inj hdi
                        have hm0 := hm 0 3 rfl (by simp [depP2])
                        have hrw : Row W bx 32 (TA.cells ⟨kd, (ga, gb), num⟩) := Row.below HR.out (hR.1 (by omega)) HR.out.lt
                        rw [updV_self (show x 1 = _ from hdep 1 (by simp [depP2]))]
                        exact OI_value rfl rfl (about_none (by intro c h; cases h)) (by intro c h; cases h) (.int .i64 num) W (lgRun_cell 3 _ ⟨bx, 3, none⟩ _ _ rfl (by kernel_rfl) Try.underlying3 rfl W (Row.cell hrw 3)) ⟨rfl, rfl⟩
                      | 3, _, _, hc, _ => exact (hc (by simp)).elim
                      | 4, _, hdi, _, _ =>
                        obtain rfl := Option.some.inj hdi
                        exact OI_value rfl rfl (about_none (by intro c h; cases h)) (by intro c h; cases h) (.pointer (some ⟨h2, 0, none⟩)) W (by kernel_rfl) ⟨rfl, rfl⟩
                      | 5, _, hdi, _, _ =>
                        obtain rfl := Option.some.inj hdi
                        exact OI_value rfl rfl (about_none (by intro c h; cases h)) (by intro c h; cases h) (.pointer (some ⟨bx, 3, none⟩)) W (by kernel_rfl) ⟨rfl, rfl⟩
                      | 6, hm, hdi, _, hdep =>
                        obtain rfl := Option.some.inj hdi
                        have hrw : Row W bx 32 (TA.cells ⟨kd, (ga, gb), num⟩) := by
                          have hm1 := hm 1 7 rfl (by simp [depP2])
                          rcases Nat.eq_zero_or_pos m with e | e
                          · exact Row.below HR.out (hR.1 (by omega)) HR.out.lt
                          · exact (hR.2.1 (by omega)).2
                        rw [updV_self (show x 5 = _ from hdep 5 (by simp [depP2]))]
                        exact OI_value rfl rfl (about_none (by intro c h; cases h)) (by intro c h; cases h) (.int .i64 num) W (lgRun_cell 3 _ ⟨bx, 3, none⟩ _ _ rfl (by kernel_rfl) Try.underlying3 rfl W (Row.cell hrw 3)) ⟨rfl, rfl⟩
                      | 7, _, _, hc, _ => exact (hc (by simp)).elim
                      | 8, _, hdi, _, hdep =>
                        obtain rfl := Option.some.inj hdi
                        rw [updV_self (show x 3 = _ from hdep 3 (by simp [depP2])), updV_self (show (updV x 3 _) 7 = _ from hdep 7 (by simp [depP2]))]
                        exact OI_value rfl rfl (about_none (by intro c h; cases h)) (by intro c h; cases h) (.bool false) W (lgRun_neqS _ _ _ _ (E : Int) rfl (by kernel_rfl) (by kernel_rfl) W) ⟨rfl, rfl⟩
                      | _ + 9, _, hdi, _, _ => simp [dsP2] at hdi
                    case cal =>
                      intro x W k ii d hR hk hdi hdep
                      match k, hk, hR with
                      | 0, hk, hR =>
                        obtain rfl := Option.some.inj hk
                        obtain rfl := Option.some.inj hdi
                        rw [updV_self (show x 0 = _ from hdep 0 (by simp [depP2])), updV_self (show (updV x 0 _) 2 = _ from hdep 2 (by simp [depP2]))]
                        have hW := hR.1 (by omega)
                        have hX3 := HX.out.below hW
                        have hR3 := Row.below HR.out hW HR.out.lt
                        obtain ⟨A, p, q, hP⟩ := hX3.pt
                        refine OI_call rfl rfl (by intro c h; cases h) 16 #[.pointer (some ⟨h1, 0, none⟩), .int .i64 num] (fun _ _ => trivial) (by kernel_rfl) (by decide) ?_
                        refine (callsIn_wide.2 (tab_room hP num)).mono ?_
                        rintro e w9 ⟨rfl, A9, p9, q9, hP9, hK9⟩
                        rw [HE.out]
                        exact ⟨_, rfl, rfl, fun h => absurd h (by omega), fun _ => ⟨hX3.prog hP9 hK9, (hK9.block bx hR3.lt (hX3.apart hR3).1).trans hR3⟩, fun h => absurd h (by omega)⟩
                      | 1, hk, hR =>
                        obtain rfl := Option.some.inj hk
                        obtain rfl := Option.some.inj hdi
                        rw [updV_self (show x 4 = _ from hdep 4 (by simp [depP2])), updV_self (show (updV x 4 _) 6 = _ from hdep 6 (by simp [depP2]))]
                        obtain ⟨hX4, hR4⟩ := hR.2.1 rfl
                        refine OI_call rfl rfl (by intro c h; cases h) 21 #[.pointer (some ⟨h2, 0, none⟩), .int .i64 num] (fun _ _ => trivial) (by kernel_rfl) (by decide) ?_
                        refine (callsIn_wide.2 (ref_room hX4.rt num HF.out.1 (by have := HF.out.2.1; have := HLT.out; omega))).mono ?_
                        rintro e w9 ⟨rfl, v9, hs9⟩
                        rw [HE.out]
                        exact ⟨_, rfl, rfl, fun h => absurd h (by omega), fun h => absurd h (by omega), fun _ => ⟨v9, hX4.ref hs9⟩⟩
                      | _ + 2, hk, _ => simp at hk
                    case done =>
                      intro W hR
                      simp only [dsP2, putsV, valP2, Act.put, List.setIfInBounds_toArray, List.set_cons_succ, List.set_cons_zero, Nat.reduceAdd]
                      obtain ⟨v9, hX9⟩ := hR.2.2 rfl
                      have HR9 := veil hX9
                      clear hR hX9
                      go_wp2_with fail
                      go_meet
                      exact ⟨_, v9, HR9.out, HF.out.1.setRoom _, by rw [came_room]; exact Nat.le_succ_of_le HF.out.2.1⟩
                  · obtain ⟨mm, hmm⟩ : ∃ mm : Nat, IntKind.u64.wrap num = (mm : Int) := ⟨(IntKind.u64.wrap num).toNat, by rw [IntKind.wrap_u64]; omega⟩
                    have hmb : mm ≤ 18446744073709551615 := by rw [IntKind.wrap_u64] at hmm; omega
                    obtain ⟨⟨qa, qb⟩, hq⟩ : ∃ q, getF T mm = q := ⟨_, rfl⟩
                    obtain ⟨E, hE⟩ : ∃ E, getE T mm = E := ⟨_, rfl⟩
                    have hg1 : ∀ W, Below w3.heap.size w3 W → Calls Try.prog 14 #[.pointer (some ⟨h1, 0, none⟩), .int .u64 (mm : Int)] W fun e w' => e = .returned (.tuple #[.agg #[.string qa, .string qb], .int .i64 (E : Int)]) ∧ Below W.heap.size W w' := by
                      intro W hW
                      obtain ⟨A, p, q, hP⟩ := (HX.out.below hW).pt
                      have := tab_get hP mm hmb
                      rw [hq, hE] at this
                      exact this
                    have hg2 : ∀ W, Below w3.heap.size w3 W → Calls Try.prog 22 #[.pointer (some ⟨h2, 0, none⟩), .int .u64 (mm : Int)] W fun e w' => e = .returned (.tuple #[.agg #[.string qa, .string qb], .int .i64 (E : Int)]) ∧ Below W.heap.size W w' := by
                      intro W hW
                      have := ref_get (HX.out.below hW).rt mm hmb (by have := HF.out.2.1; have := HLT.out; omega)
                      rw [hq, hE] at this
                      exact this
                    have HG := veil (And.intro hg1 hg2)
                    have y3 : w3.cell? ⟨bx, 3, none⟩ = some (.int .i64 num) := HR.out.cell 3
                    clear hg1 hg2 hq hE hnn
                    go_upto_region 21 with (go_at_call 14; refine (HG.out.1 _ (Below.refl _ _)).mono ?_; rintro e1 w4 ⟨rfl, hb4⟩)
                    have hb5 := hb4.alloc hb4.size (.cells #[.string qa, .string qb] 23)
                    have HB5 := veil hb5
                    have HA5 := veil (Row.new w4 23 #[.string qa, .string qb])
                    have y3 : (w4.alloc (.cells #[.string qa, .string qb] 23)).cell? ⟨bx, 3, none⟩ = some (.int .i64 num) := (hb5.cell (p := ⟨bx, 3, none⟩) HR.out.lt).trans y3
                    clear hb4 hb5
                    generalize w4.heap.size = b4 at *
                    generalize w4.alloc (.cells #[.string qa, .string qb] 23) = w5 at *
                    go_upto_region 22 with (go_at_call 22; refine (HG.out.2 _ HB5.out).mono ?_; rintro e1 w6 ⟨rfl, hb6⟩)
                    have hb7 := hb6.alloc hb6.size (.cells #[.string qa, .string qb] 23)
                    have HB7 := veil (HB5.out.trans (hb7.mono HB5.out.size))
                    have HA7 := veil (Row.below HA5.out hb7 HA5.out.lt)
                    have HC7 := veil (Row.new w6 23 #[.string qa, .string qb])
                    clear hb6 hb7 y3
                    generalize w6.heap.size = b6 at *
                    generalize w6.alloc (.cells #[.string qa, .string qb] 23) = w7 at *
                    have z0 : w7.cell? ⟨b4, 0, none⟩ = some (.string qa) := HA7.out.cell 0
                    have z1 : w7.cell? ⟨b4, 1, none⟩ = some (.string qb) := HA7.out.cell 1
                    have z2 : w7.cell? ⟨b6, 0, none⟩ = some (.string qa) := HC7.out.cell 0
                    have z3 : w7.cell? ⟨b6, 1, none⟩ = some (.string qb) := HC7.out.cell 1
                    go_wp2_with fail
                    go_meet
                    exact ⟨T, v, HX.out.below HB7.out, HF.out.1, Nat.le_succ_of_le HF.out.2.1⟩
                case rest =>
                  obtain ⟨T', v', hX9, hf9, hc9⟩ := hcut
                  obtain ⟨A, p, q, hP⟩ := hX9.pt
                  have hca : ∀ W, Below wc.heap.size wc W → Calls Try.prog 17 #[.pointer (some ⟨h1, 0, none⟩)] W fun e w' => e = .returned (.int .u64 (T'.came : Nat)) ∧ ∃ m, w' = W.drewN m := fun W hW => tab_came (hP.below hW)
                  have hcb : ∀ W, Below wc.heap.size wc W → Calls Try.prog 23 #[.pointer (some ⟨h2, 0, none⟩)] W fun e w' => e = .returned (.int .u64 (T'.came : Nat)) ∧ ∃ m, w' = W.drewN m := fun W hW => ref_came W h2 T' v' (hX9.rt.below hW)
                  have hga : ∀ W, Below wc.heap.size wc W → Calls Try.prog 18 #[.pointer (some ⟨h1, 0, none⟩)] W fun e w' => e = .returned (.int .u64 (T'.went : Int)) ∧ w' = W := fun W hW => tab_gone (hP.below hW)
                  have hgb : ∀ W, Below wc.heap.size wc W → Calls Try.prog 24 #[.pointer (some ⟨h2, 0, none⟩)] W fun e w' => e = .returned (.int .u64 (T'.went : Int)) ∧ w' = W := fun W hW => ref_gone W h2 T' v' (hX9.rt.below hW)
                  have hsa : ∀ W, Below wc.heap.size wc W → Calls Try.prog 19 #[.pointer (some ⟨h1, 0, none⟩)] W fun e w' => e = .returned (.int .i64 (size T'.l : Nat)) ∧ w' = W := fun W hW => tab_size (hP.below hW)
                  have hsb : ∀ W, Below wc.heap.size wc W → Calls Try.prog 25 #[.pointer (some ⟨h2, 0, none⟩)] W fun e w' => e = .returned (.int .i64 (size T'.l : Nat)) ∧ ∃ m, w' = W.drewN m := fun W hW => ref_size W h2 T' v' (hX9.rt.below hW)
                  obtain ⟨c9, hc9e⟩ : ∃ c9, T'.came = c9 := ⟨_, rfl⟩
                  obtain ⟨g9, hg9e⟩ : ∃ g9, T'.went = g9 := ⟨_, rfl⟩
                  obtain ⟨s9, hs9e⟩ : ∃ s9, size T'.l = s9 := ⟨_, rfl⟩
                  rw [hc9e] at hca hcb
                  rw [hg9e] at hga hgb
                  rw [hs9e] at hsa hsb
                  have HC := veil (And.intro hca (And.intro hcb (And.intro hga (And.intro hgb (And.intro hsa hsb)))))
                  have H9 := veil (And.intro hX9 (And.intro hf9 hc9))
                  clear hX9 hf9 hc9 hP hca hcb hga hgb hsa hsb hc9e hg9e hs9e
                  go_wp2_with first
                    | (go_at_call 17; refine (HC.out.1 _ (by first | exact Below.refl _ _ | exact below_drewN (Below.refl _ _) _ | exact below_drewN (below_drewN (Below.refl _ _) _) _)).mono ?_; rintro e1 w4 ⟨rfl, m4, rfl⟩)
                    | (go_at_call 23; refine (HC.out.2.1 _ (by first | exact Below.refl _ _ | exact below_drewN (Below.refl _ _) _ | exact below_drewN (below_drewN (Below.refl _ _) _) _)).mono ?_; rintro e1 w4 ⟨rfl, m4, rfl⟩)
                    | (go_at_call 18; refine (HC.out.2.2.1 _ (by first | exact Below.refl _ _ | exact below_drewN (Below.refl _ _) _ | exact below_drewN (below_drewN (Below.refl _ _) _) _)).mono ?_; rintro e1 w5 ⟨rfl, rfl⟩)
                    | (go_at_call 24; refine (HC.out.2.2.2.1 _ (by first | exact Below.refl _ _ | exact below_drewN (Below.refl _ _) _ | exact below_drewN (below_drewN (Below.refl _ _) _) _)).mono ?_; rintro e1 w5 ⟨rfl, rfl⟩)
                    | (go_at_call 19; refine (HC.out.2.2.2.2.1 _ (by first | exact Below.refl _ _ | exact below_drewN (Below.refl _ _) _ | exact below_drewN (below_drewN (Below.refl _ _) _) _)).mono ?_; rintro e1 w5 ⟨rfl, rfl⟩)
                    | (go_at_call 25; refine (HC.out.2.2.2.2.2 _ (by first | exact Below.refl _ _ | exact below_drewN (Below.refl _ _) _ | exact below_drewN (below_drewN (Below.refl _ _) _) _)).mono ?_; rintro e1 w4 ⟨rfl, m4, rfl⟩)
                  go_roundw
                  case rel => exact ⟨k + 1, T', v', HLT.out, (by first | rfl | go_num), H9.out.1.below (below_drewN (Below.refl _ _) _), H9.out.2.1, H9.out.2.2⟩
                  case measure => have := HLT.out; simp [intOf]; omega
              · obtain rfl : len = k := by omega
                have bI : ¬ (len : Int) < (len : Int) := by omega
                have HX := veil hX.bel
                clear hX hlt hk hfine hcm
                go_wp2_with (go_at_call 11; refine (lives_any _).mono ?_; rintro e1 w8 ⟨rfl, hb⟩)
                go_ret
                exact ⟨rfl, bch HX.out hb⟩
          · have h7 := fun W => tab_new_no room hr W
            have h8 := fun W => ref_new_no room W (by omega)
            clear hNN hbig
            go_upto_region 10 with first
              | (go_at_call 12; refine (h7 _).mono ?_; rintro e1 w1 ⟨rfl, rfl⟩)
              | (go_at_call 13; refine (h8 _).mono ?_; rintro e1 w2 ⟨rfl, rfl⟩)
            have hg0 : ∀ W, Calls Try.prog 14 #[.pointer none, .int .u64 0] W fun e w' => e = .returned (.tuple #[.agg #[.string ⟨#[]⟩, .string ⟨#[]⟩], .int .i64 2]) ∧ Below W.heap.size W w' := fun W => tab_get_nil 0 W
            have ha0 : ∀ W, Calls Try.prog 15 #[.pointer none, .agg #[.string ⟨#[]⟩, .string ⟨#[]⟩]] W fun e w' => e = .returned (.int .i64 2) ∧ Below W.heap.size W w' := fun W => tab_add_nil fd0 W
            clear h7 h8 bN bM bI hmany hr
            go_upto_region 14 with (go_at_call 14; refine (hg0 _).mono ?_; rintro e1 w3 ⟨rfl, hb3⟩)
            have hb4 := bch (below_drewN (Below.refl w.heap.size w) _) (hb3.alloc hb3.size (.cells #[.string ⟨#[]⟩, .string ⟨#[]⟩] 23))
            have HB4 := veil hb4
            clear hb3 hb4
            generalize w3.alloc (.cells #[.string ⟨#[]⟩, .string ⟨#[]⟩] 23) = w4 at *
            go_wp2_with first
              | (go_at_call 15; refine (ha0 _).mono ?_; rintro e1 w5 ⟨rfl, hb5⟩)
              | (go_at_call 16; refine (tab_room_nil 0 _).mono ?_; rintro e1 w6 ⟨rfl, rfl⟩)
              | (go_at_call 17; refine (tab_came_nil _).mono ?_; rintro e1 w6 ⟨rfl, rfl⟩)
              | (go_at_call 18; refine (tab_gone_nil _).mono ?_; rintro e1 w6 ⟨rfl, rfl⟩)
              | (go_at_call 19; refine (tab_size_nil _).mono ?_; rintro e1 w6 ⟨rfl, rfl⟩)
              | (go_at_call 11; refine (lives_any _).mono ?_; rintro e1 w8 ⟨rfl, hb8⟩)
            go_ret
            exact ⟨rfl, bch (bch HB4.out hb5) hb8⟩
end Tb
end Go.Proofs.Ytoajnhngcfjohaa
