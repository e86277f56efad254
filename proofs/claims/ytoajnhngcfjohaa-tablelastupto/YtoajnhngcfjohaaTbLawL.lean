/-
  The law of the last ones that came.
-/
import Derived.Test.YtoajnhngcfjohaaTbLast0
namespace Go.Proofs.Ytoajnhngcfjohaa
open Go Go.RowKit

namespace Tb
set_option maxRecDepth 100000 in
set_option maxHeartbeats 4000000 in
theorem law_last (room : Nat) (s : FL) (w : World) (hroom : room < 65536) (hs : s.Ok w) (hb : tot s.l ≤ 2097152) :
    Calls Try.prog 5 #[.int .u16 (room : Int), .slice s.a s.len s.cap] w fun e w' => e = .returned (.bool true) ∧ Below w.heap.size w w' := by
  obtain ⟨a, len, cap, sg, off, l⟩ := s
  have hlen : l.length = len := hs.hb
  have hb : tot l ≤ 2097152 := hb
  have hl2 := tot_length l
  have hlb : len ≤ 2097152 := by omega
  have HS := veil (show _ ∧ _ from ⟨hs, hb⟩)
  have HL := veil hlen
  clear hs hb hlen hl2
  show Calls Try.prog 5 #[.int .u16 (room : Int), .slice a len cap] w _
  go_enter Try.func5, Try.ntmps5
  go_wp2_with fail
  go_loopw [5, 6] (fun nv iv wr => ∃ k N : Nat, k ≤ len ∧ iv = .int .i64 (k : Int) ∧ nv = .int .i64 (N : Int) ∧ tot (l.take k) = N ∧ ∃ m, wr = w.drewN m)
    (fun _ iv _ => len - (intOf iv).toNat)
  case atStart => exact ⟨0, 0, Nat.zero_le _, rfl, rfl, rfl, 0, rfl⟩
  case round =>
    obtain ⟨k, N, hk, rfl, rfl, hN, m, rfl⟩ := hrel
    by_cases hlt : k < len
    · obtain ⟨⟨ga, gb⟩, hg⟩ : ∃ g, l[k]? = some g := ⟨_, List.getElem?_eq_getElem (by have := HL.out; omega)⟩
      have hgf : gfd l k = (ga, gb) := by unfold gfd; rw [hg]; rfl
      obtain rfl : a = some ⟨sg, off, none⟩ := HS.out.1.at_ (show 0 < len by omega)
      have hcell := HS.out.1.cell k (show k < len from hlt)
      have hcell : w.rangeAt sg (off + k * 2) (gfd l k).cells.toList := hcell
      rw [hgf] at hcell
      have x0 : w.cell? ⟨sg, off + k * 2, none⟩ = some (.string ga) := hcell 0 _ rfl
      have x1 : w.cell? ⟨sg, off + k * 2 + 1, none⟩ = some (.string gb) := hcell 1 _ rfl
      have hT := tot_take_succ hg
      have hT2 := tot_take_le l (k + 1)
      have hT3 := HS.out.2
      obtain ⟨La, hLa⟩ : ∃ La, ga.size = La := ⟨_, rfl⟩
      obtain ⟨Lb, hLb⟩ : ∃ Lb, gb.size = Lb := ⟨_, rfl⟩
      have hT3 : tot l ≤ 2097152 := hT3
      simp only [hLa, hLb] at hT
      rw [hN] at hT
      have HH := veil (show tot (l.take (k + 1)) = N + La + Lb + 1 ∧ N + La + Lb + 1 ≤ 2097152 from by omega)
      have w1 : IntKind.i64.wrap ((N : Int) + (La : Int)) = ((N + La : Nat) : Int) := by have := HH.out; rw [IntKind.wrap_i64]; omega
      have w2 : IntKind.i64.wrap (((N + La : Nat) : Int) + (Lb : Int)) = ((N + La + Lb : Nat) : Int) := by have := HH.out; rw [IntKind.wrap_i64]; omega
      have w3 : IntKind.i64.wrap (((N + La + Lb : Nat) : Int) + 1) = ((N + La + Lb + 1 : Nat) : Int) := by have := HH.out; rw [IntKind.wrap_i64]; omega
      have w5 : IntKind.i64.wrap ((k : Int) + 1) = ((k + 1 : Nat) : Int) := by rw [IntKind.wrap_i64]; omega
      have bI : (k : Int) < (len : Int) := by omega
      have HLT := veil hlt
      clear hcell hg hT hT2 hT3 hN hlt hk
      generalize N + La = S1 at *
      generalize S1 + Lb = S2 at *
      generalize S2 + 1 = S3 at *
      go_wp2_with fail
      go_quiet (fail)
      go_wp2_with fail
      go_roundw
      case rel => exact ⟨k + 1, S3, HLT.out, (by first | rfl | go_num), rfl, HH.out.1, _, rfl⟩
      case measure => have := HLT.out; simp [intOf]; omega
    · obtain rfl : len = k := by omega
      have HN := veil (show tot l = N from by rw [← hN, List.take_of_length_le (by have := HL.out; omega)])
      have bI : ¬ (len : Int) < (len : Int) := by omega
      clear hN hlt hk
      by_cases hbig : 50000 < N
      · have bN : (50000 : Int) < (N : Int) := by omega
        go_wp2_with (go_at_call 11; refine (lives_any _).mono ?_; rintro e1 w8 ⟨rfl, hb⟩)
        go_ret
        exact ⟨rfl, (below_drewN (Below.refl _ _) _).trans hb⟩
      · have bN : ¬ (50000 : Int) < (N : Int) := by omega
        have hNN := HN.out
        have HSM := veil (show tot l ≤ 50000 from by omega)
        obtain ⟨r, hr⟩ : ∃ r, room % 4097 = r := ⟨_, rfl⟩
        have hr1 : r ≤ 4096 := by omega
        have c1 : IntKind.i64.wrap (room : Int) = (room : Int) := by rw [IntKind.wrap_i64]; omega
        have c2 : Int.tmod (room : Int) 4097 = (r : Int) := by rw [Int.tmod_eq_emod_of_nonneg (by omega)]; omega
        have c3 : IntKind.i64.wrap (r : Int) = (r : Int) := by rw [IntKind.wrap_i64]; omega
        clear hNN hr hbig
        go_wp2_with (go_at_call 12; refine (tab_newE (w := w) r hr1 (below_drewN (Below.refl _ _) _)).mono ?_; rintro e1 w1 ⟨h, rfl, hO⟩)
        have HO := veil hO
        clear hO c1 c2 c3
        go_loopw [10, 11] (fun cv iv wr => ∃ (k : Nat) (T : Tab) (C : List Fd) (v : Value), k ≤ len ∧ iv = .int .i64 (k : Int) ∧ cv = v ∧ LT w h r T C v wr ∧ C = (l.take k).filter (fitsB r))
          (fun _ iv _ => len - (intOf iv).toNat)
        case atStart => exact ⟨0, _, [], _, Nat.zero_le _, rfl, rfl, HO.out, by simp⟩
        case round =>
          obtain ⟨k, T, C, v, hk, rfl, rfl, hX, hC⟩ := hrel
          by_cases hlt : k < len
          · obtain ⟨⟨ga, gb⟩, hg⟩ : ∃ g, l[k]? = some g := ⟨_, List.getElem?_eq_getElem (by have := HL.out; omega)⟩
            have hgf : gfd l k = (ga, gb) := by unfold gfd; rw [hg]; rfl
            obtain rfl : a = some ⟨sg, off, none⟩ := HS.out.1.at_ (show 0 < len by omega)
            have hcell : wr.rangeAt sg (off + k * 2) (gfd l k).cells.toList := (HS.out.1.below hX.bel).cell k (show k < len from hlt)
            rw [hgf] at hcell
            have x0 : wr.cell? ⟨sg, off + k * 2, none⟩ = some (.string ga) := hcell 0 _ rfl
            have x1 : wr.cell? ⟨sg, off + k * 2 + 1, none⟩ = some (.string gb) := hcell 1 _ rfl
            have hT := tot_take_succ hg
            have hT2 := tot_take_le l (k + 1)
            have hT3 := HSM.out
            obtain ⟨La, hLa⟩ : ∃ La, ga.size = La := ⟨_, rfl⟩
            obtain ⟨Lb, hLb⟩ : ∃ Lb, gb.size = Lb := ⟨_, rfl⟩
            simp only [hLa, hLb] at hT
            have hz : sz (ga, gb) = La + Lb + 32 := by rw [← hLa, ← hLb]; rfl
            have hLs : La + Lb ≤ 50000 := by omega
            have hCl : C.length ≤ k := by rw [hC]; exact filter_take_len _
            have hkl : k ≤ 50000 := by have := tot_length l; have := HL.out; omega
            have hcame : T.came + 1 ≤ 1000000000000 := by rw [hX.of.came]; omega
            have hC1 := filter_take_succ (fitsB r) hg
            rw [← hC] at hC1
            have hroom1 := hX.room
            have w1' : IntKind.i64.wrap ((La : Int) + (Lb : Int)) = ((La + Lb : Nat) : Int) := by rw [IntKind.wrap_i64]; omega
            have w2' : IntKind.i64.wrap (((La + Lb : Nat) : Int) + 32) = ((La + Lb + 32 : Nat) : Int) := by rw [IntKind.wrap_i64]; omega
            have w5 : IntKind.i64.wrap ((k : Int) + 1) = ((k + 1 : Nat) : Int) := by rw [IntKind.wrap_i64]; omega
            have bI : (k : Int) < (len : Int) := by omega
            have HX := veil hX
            have HZ := veil (show _ ∧ _ ∧ _ ∧ _ from ⟨hz, hLs, hCl, hkl⟩)
            have HLT := veil hlt
            have HR1 := veil (And.intro hroom1 hcame)
            clear hcame
            clear hcell hg hT hT2 hT3 hC hlt hk hX hLs hCl hkl hroom1
            have HSz := veil (show (ga, gb).1.size + (ga, gb).2.size ≤ 1000000000000000000 from by show ga.size + gb.size ≤ _; rw [hLa, hLb]; have := HZ.out.2.1; omega)
            have HGf := veil hgf
            clear hgf
            by_cases hfit : sz (ga, gb) ≤ r
            · have e2 : fitsB r (ga, gb) = true := decide_eq_true hfit
              rw [e2, if_pos rfl] at hC1
              have HC1 := veil hC1
              have hfr : ¬ T.room < sz (ga, gb) := by rw [HR1.out.1]; omega
              have e3 := addE_yes (t := T) (f := (ga, gb)) hfr
              have HE3 := veil (And.intro e3.1 hfr)
              have bF : ((La + Lb + 32 : Nat) : Int) ≤ (r : Int) := by rw [hz] at hfit; omega
              clear hfit hC1 e2 e3 hz hfr
              generalize La + Lb = S1 at *
              generalize S1 + 32 = S2 at *
              go_wp2_with fail
              go_quiet (fail)
              have HX := veil (HX.out.below (below_drewN (Below.refl wr.heap.size wr) nq))
              have x0 : (wr.drewN nq).cell? ⟨sg, off + k * 2, none⟩ = some (.string ga) := x0
              have x1 : (wr.drewN nq).cell? ⟨sg, off + k * 2 + 1, none⟩ = some (.string gb) := x1
              generalize wr.drewN nq = wq at *
              obtain ⟨A, p, q, hP⟩ := HX.out.pt
              have hadd := tab_add hP (ga, gb) HSz.out HR1.out.2
              rw [HE3.out.1] at hadd
              have hadd := veil hadd
              clear hP
              go_upto_region 18 with (go_at_call 15; refine hadd.out.mono ?_; rintro e1 w3 ⟨rfl, A3, p3, q3, hP3, hK3⟩)
              have hb3 : Below w.heap.size w w3 := HX.out.bel.trans (hK3.below (by rintro k9 rfl; exact HX.out.hh) HX.out.bel.size)
              have hcell : w3.rangeAt sg (off + k * 2) (gfd l k).cells.toList := (HS.out.1.below hb3).cell k (show k < len from HLT.out)
              rw [HGf.out] at hcell
              have y0 : w3.cell? ⟨sg, off + k * 2, none⟩ = some (.string ga) := hcell 0 _ rfl
              have y1 : w3.cell? ⟨sg, off + k * 2 + 1, none⟩ = some (.string gb) := hcell 1 _ rfl
              have hb4 : Below w3.heap.size w3 (w3.alloc (.cells #[.string ga, .string gb] 23)) := (Below.refl _ w3).alloc (Nat.le_refl _) _
              have hrow4 := Row.new w3 23 #[.string ga, .string gb]
              obtain ⟨v5, w5', happ, hX5⟩ := HX.out.app HE3.out.2 hP3 hK3 hb4 (by have := HZ.out.2.2; omega) 49 ⟨w3.heap.size, 0, none⟩ (fun j u hu => by
                have e : (⟨w3.heap.size, 0, none⟩ : Addr).add j = ⟨w3.heap.size, 0 + j, none⟩ := Addr.add_mid _ _ _
                rw [e, Nat.zero_add, hrow4.cell j]
                rw [fds_single] at hu
                simpa [Fd.cells] using hu) 1
              have A5 := veil happ
              have HX5 := veil hX5
              clear x0 x1 hcell hb3 hb4 hrow4 hP3 hK3 happ hX5 hadd
              go_upto_region 21 with fail
              go_wp2_with (with_reducible (show wpList _ _ _ (⟨some 100, Op.call _, _, _, _, _⟩ :: _) _ _)
                           refine wpL_append rfl _ _ _ rfl _ _ _ _ rfl rfl A5.out ?_)
              go_roundw
              case rel => exact ⟨k + 1, _, _, v5, HLT.out, (by first | rfl | go_num), rfl, HX5.out, HC1.out.symm⟩
              case measure => have := HLT.out; simp [intOf]; omega
            · have e2 : fitsB r (ga, gb) = false := decide_eq_false hfit
              rw [e2, if_neg (by decide), List.append_nil] at hC1
              have HC1 := veil hC1
              have e3 := addE_no (t := T) (f := (ga, gb)) (by rw [HR1.out.1]; omega)
              have HE3 := veil e3
              have bF : ¬ ((La + Lb + 32 : Nat) : Int) ≤ (r : Int) := by rw [hz] at hfit; omega
              clear hfit hC1 e2 e3 hz
              generalize La + Lb = S1 at *
              generalize S1 + 32 = S2 at *
              go_wp2_with fail
              go_quiet (fail)
              have HX := veil (HX.out.below (below_drewN (Below.refl wr.heap.size wr) nq))
              have x0 : (wr.drewN nq).cell? ⟨sg, off + k * 2, none⟩ = some (.string ga) := x0
              have x1 : (wr.drewN nq).cell? ⟨sg, off + k * 2 + 1, none⟩ = some (.string gb) := x1
              generalize wr.drewN nq = wq at *
              obtain ⟨A, p, q, hP⟩ := HX.out.pt
              have hadd := tab_add hP (ga, gb) HSz.out HR1.out.2
              rw [HE3.out.1, HE3.out.2] at hadd
              have hadd := veil hadd
              clear hP
              go_upto_region 18 with (go_at_call 15; refine hadd.out.mono ?_; rintro e1 w3 ⟨rfl, A3, p3, q3, hP3, hK3⟩)
              have HX5 := veil (HX.out.stay hP3 hK3)
              clear x0 x1 hP3 hK3 hadd
              go_wp2_with fail
              go_roundw
              case rel => exact ⟨k + 1, T, C, _, HLT.out, (by first | rfl | go_num), rfl, HX5.out, HC1.out.symm⟩
              case measure => have := HLT.out; simp [intOf]; omega
          · obtain rfl : len = k := by omega
            obtain ⟨ca, cc, rfl, _, _⟩ := hX.row.shape
            obtain ⟨c, hc⟩ : ∃ c, C.length = c := ⟨_, rfl⟩
            obtain ⟨g, hg⟩ : ∃ g, T.went = g := ⟨_, rfl⟩
            obtain ⟨z, hz⟩ : ∃ z, size T.l = z := ⟨_, rfl⟩
            obtain ⟨A, p, q, hP⟩ := hX.pt
            have hcb : c ≤ 50000 := by
              have h1 := filter_take_len (l := l) (k := len) (fitsB r)
              rw [← hC, hc] at h1
              have := tot_length l
              have := HL.out
              have := HSM.out
              omega
            have hcc : T.came = c := by rw [hX.of.came, hc]
            have hgc : g ≤ c := by have := hX.of.le; omega
            have hzr : z ≤ r := by have := hX.fine.size; rw [hX.room] at this; omega
            have hcame : ∀ W, Below wr.heap.size wr W → Calls Try.prog 17 #[.pointer (some ⟨h, 0, none⟩)] W fun e w' => e = .returned (.int .u64 (c : Int)) ∧ ∃ m, w' = W.drewN m := by
              intro W hW
              have := tab_came (hP.below hW)
              rw [hcc] at this
              exact this
            have hgone : ∀ W, Below wr.heap.size wr W → Calls Try.prog 18 #[.pointer (some ⟨h, 0, none⟩)] W fun e w' => e = .returned (.int .u64 (g : Int)) ∧ w' = W := by
              intro W hW
              have := tab_gone (hP.below hW)
              rw [hg] at this
              exact this
            have hsize : ∀ W, Below wr.heap.size wr W → Calls Try.prog 19 #[.pointer (some ⟨h, 0, none⟩)] W fun e w' => e = .returned (.int .i64 (z : Int)) ∧ w' = W := by
              intro W hW
              have := tab_size (hP.below hW)
              rw [hz] at this
              exact this
            have u1 : IntKind.u64.wrap (c : Int) = (c : Int) := by rw [IntKind.wrap_u64]; omega
            have n1 : ¬ (c : Int) < (g : Int) := by omega
            have n2 : ¬ (r : Int) < (z : Int) := by omega
            have d1 : decide (c < g) = false := decide_eq_false (by omega)
            have d2 : decide (r < z) = false := decide_eq_false (by omega)
            have d3 : decide ((c : Int) < (g : Int)) = false := decide_eq_false n1
            have d4 : decide ((r : Int) < (z : Int)) = false := decide_eq_false n2
            have bI : ¬ (len : Int) < (len : Int) := by omega
            have HX := veil hX
            have HF := veil (show _ ∧ _ ∧ _ ∧ _ ∧ _ ∧ _ from ⟨hc, hg, hz, hcb, hgc, hC⟩)
            have HCa := veil (And.intro hcame (And.intro hgone hsize))
            rw [hc]
            clear hX hc hg hz hcb hgc hzr hC hcc hcame hgone hsize hP hlt hk
            go_upto_region 24 with first
              | (go_at_call 17; refine (HCa.out.1 _ (by first | exact Below.refl _ _ | exact below_drewN (Below.refl _ _) _ | exact below_drewN (below_drewN (Below.refl _ _) _) _)).mono ?_; rintro e1 w4 ⟨rfl, m4, rfl⟩)
              | (go_at_call 18; refine (HCa.out.2.1 _ (by first | exact Below.refl _ _ | exact below_drewN (Below.refl _ _) _ | exact below_drewN (below_drewN (Below.refl _ _) _) _)).mono ?_; rintro e1 w5 ⟨rfl, rfl⟩)
              | (go_at_call 19; refine (HCa.out.2.2 _ (by first | exact Below.refl _ _ | exact below_drewN (Below.refl _ _) _ | exact below_drewN (below_drewN (Below.refl _ _) _) _)).mono ?_; rintro e1 w6 ⟨rfl, rfl⟩)
            have HXd : ∀ W, (∃ n, W = wr.drewN n) → LT w h r T C (.slice ca C.length cc) W := by
              rintro W ⟨n, rfl⟩
              exact HX.out.below (below_drewN (Below.refl wr.heap.size wr) n)
            clear HCa u1 n1 n2 bI d1 d2 d3 d4
            generalize hwb : wr.drewN _ = wb
            have HX := veil (HXd wb ⟨_, hwb.symm⟩)
            clear hwb HXd
            go_wp2_with fail
            go_loopw [14, 15] (fun sv iv wq => ∃ k S : Nat, k ≤ c ∧ iv = .int .i64 (k : Int) ∧ sv = .int .i64 (S : Int) ∧ size ((C.take k).drop g) = S ∧ Below wb.heap.size wb wq)
              (fun _ iv _ => c - (intOf iv).toNat)
            case atStart => exact ⟨0, 0, Nat.zero_le _, rfl, rfl, by simp [size], Below.refl _ _⟩
            case round =>
              obtain ⟨k, S, hk, rfl, rfl, hS, hbq⟩ := hrel
              by_cases hlt : k < c
              · obtain ⟨⟨ga, gb⟩, hgt⟩ : ∃ f, C[k]? = some f := ⟨_, List.getElem?_eq_getElem (by have := HF.out.1; omega)⟩
                have hcb := HF.out.2.2.2.1
                have w5 : IntKind.i64.wrap ((k : Int) + 1) = ((k + 1 : Nat) : Int) := by rw [IntKind.wrap_i64]; omega
                have u2 : IntKind.u64.wrap (k : Int) = (k : Int) := by rw [IntKind.wrap_u64]; omega
                have bI : (k : Int) < (c : Int) := by omega
                have HQ := veil (HX.out.below hbq)
                have HLT := veil hlt
                have HBQ := veil hbq
                obtain ⟨A, p, q, hP⟩ := HQ.out.pt
                by_cases hkg : k < g
                · have hS2 := veil (show size ((C.take (k + 1)).drop g) = S from by
                    have e1 : (C.take k).drop g = [] := List.drop_of_length_le (by rw [List.length_take]; omega)
                    have e2 : (C.take (k + 1)).drop g = [] := List.drop_of_length_le (by rw [List.length_take]; omega)
                    rw [e2, ← hS, e1])
                  have hget := tab_get hP k (by omega)
                  obtain ⟨e1, e2⟩ := get_none (t := T) (n := k) (.inl (by rw [HF.out.2.1]; exact hkg))
                  rw [e1, e2] at hget
                  have hget : Calls Try.prog 14 #[.pointer (some ⟨h, 0, none⟩), .int .u64 (k : Int)] wr fun e w' => e = .returned (.tuple #[.agg #[.string ⟨#[]⟩, .string ⟨#[]⟩], .int .i64 10]) ∧ Below wr.heap.size wr w' := hget
                  have hget := veil hget
                  have bG : (k : Int) < (g : Int) := by omega
                  clear hgt hS hbq hlt hk hP hkg e1 e2 hcb
                  go_upto_region 29 with (go_at_call 14; refine hget.out.mono ?_; rintro e1 w4 ⟨rfl, hb4⟩)
                  have hb5 := hb4.alloc hb4.size (.cells #[.string ⟨#[]⟩, .string ⟨#[]⟩] 23)
                  have HX5 := veil (HQ.out.below hb5)
                  have HB5 := veil (HBQ.out.trans (hb5.mono HBQ.out.size))
                  clear hb4 hb5 hget
                  generalize w4.heap.size = b4 at *
                  generalize w4.alloc (.cells #[.string ⟨#[]⟩, .string ⟨#[]⟩] 23) = w5 at *
                  obtain ⟨A, p, q, hP⟩ := HX5.out.pt
                  have hgone := tab_gone hP
                  rw [HF.out.2.1] at hgone
                  have hgone := veil hgone
                  clear hP
                  go_wp2_with (go_at_call 18; refine hgone.out.mono ?_; rintro e1 w6 ⟨rfl, rfl⟩)
                  go_roundw
                  case rel =>
                    exact ⟨k + 1, S, HLT.out, (by first | rfl | go_num), rfl, hS2.out, HB5.out⟩
                  case measure => have := HLT.out; simp [intOf]; omega
                · have hwent : ¬ k < T.went := by rw [HF.out.2.1]; exact hkg
                  have hgl : T.l[k - T.went]? = some (ga, gb) := by
                    have := HX.out.of.get k
                    unfold Tab.get at this
                    rw [if_neg hwent, if_neg hwent] at this
                    rw [this]
                    exact hgt
                  obtain ⟨e1, e2⟩ := get_some hwent hgl
                  have hget := tab_get hP k (by omega)
                  rw [e1, e2] at hget
                  have hget : Calls Try.prog 14 #[.pointer (some ⟨h, 0, none⟩), .int .u64 (k : Int)] wr fun e w' => e = .returned (.tuple #[.agg #[.string ga, .string gb], .int .i64 0]) ∧ Below wr.heap.size wr w' := hget
                  have hget := veil hget
                  have hS1 : size ((C.take (k + 1)).drop g) = S + sz (ga, gb) := by
                    rw [List.take_add_one, hgt, List.drop_append_of_le_length (by rw [List.length_take]; have := HF.out.1; omega), size_append, hS]
                    rfl
                  have hS2 : S + sz (ga, gb) ≤ 4096 := by
                    rw [← hS1]
                    have h1 : (C.take (k + 1)).drop g = (C.drop g).take (k + 1 - g) := by rw [List.drop_take]
                    have h2 := size_append ((C.drop g).take (k + 1 - g)) ((C.drop g).drop (k + 1 - g))
                    rw [List.take_append_drop] at h2
                    have h3 := HX.out.fine.size
                    have h4 := HX.out.fine.room
                    have h5 := HX.out.of.l
                    rw [HF.out.2.1] at h5
                    rw [h5] at h3
                    rw [h1]
                    omega
                  have hzz : sz (ga, gb) = ga.size + gb.size + 32 := rfl
                  have hs := fds_get2' hgt
                  have hcl := fun j u => RowO.cells HX.out.row j u
                  obtain ⟨cg, co, rfl, y0⟩ := hcl _ _ hs.1
                  have y1 : wb.cell? ⟨cg, co + k * 2 + 1, none⟩ = some (.string gb) := by
                    obtain ⟨g', o', e, y⟩ := hcl _ _ hs.2
                    obtain ⟨rfl, rfl⟩ : cg = g' ∧ co = o' := by injection e with e; injection e with e1 e2; exact ⟨e1, e2⟩
                    rw [Nat.add_assoc]; exact y
                  have hcgl : cg < wb.heap.size := RowO.lt HX.out.row cg rfl
                  obtain ⟨La, hLa⟩ : ∃ La, ga.size = La := ⟨_, rfl⟩
                  obtain ⟨Lb, hLb⟩ : ∃ Lb, gb.size = Lb := ⟨_, rfl⟩
                  rw [hLa, hLb] at hzz
                  rw [hzz] at hS1 hS2
                  have HH := veil (show size ((C.take (k + 1)).drop g) = S + La + Lb + 32 ∧ S + La + Lb + 32 ≤ 4096 from by omega)
                  have w1' : IntKind.i64.wrap ((S : Int) + (La : Int)) = ((S + La : Nat) : Int) := by have := HH.out; rw [IntKind.wrap_i64]; omega
                  have w2' : IntKind.i64.wrap (((S + La : Nat) : Int) + (Lb : Int)) = ((S + La + Lb : Nat) : Int) := by have := HH.out; rw [IntKind.wrap_i64]; omega
                  have w3' : IntKind.i64.wrap (((S + La + Lb : Nat) : Int) + 32) = ((S + La + Lb + 32 : Nat) : Int) := by have := HH.out; rw [IntKind.wrap_i64]; omega
                  have bG : ¬ (k : Int) < (g : Int) := by omega
                  have HY := veil (show _ ∧ _ ∧ _ from ⟨y0, y1, hcgl⟩)
                  clear hgt hS hbq hlt hk hP hkg e1 e2 hcb hwent hgl hS1 hS2 hzz hs hcl y0 y1 hcgl
                  generalize S + La = S1 at *
                  generalize S1 + Lb = S2 at *
                  generalize S2 + 32 = S3 at *
                  go_upto_region 29 with (go_at_call 14; refine hget.out.mono ?_; rintro e1 w4 ⟨rfl, hb4⟩)
                  have hb5 := hb4.alloc hb4.size (.cells #[.string ga, .string gb] 23)
                  have HX5 := veil (HQ.out.below hb5)
                  have HB5 := veil (HBQ.out.trans (hb5.mono HBQ.out.size))
                  have HR5 := veil (Row.new w4 23 #[.string ga, .string gb])
                  clear hb4 hb5 hget
                  generalize w4.heap.size = b4 at *
                  generalize w4.alloc (.cells #[.string ga, .string gb] 23) = w5 at *
                  obtain ⟨A, p, q, hP⟩ := HX5.out.pt
                  have hgone := tab_gone hP
                  rw [HF.out.2.1] at hgone
                  have hgone := veil hgone
                  clear hP
                  have y0 : w5.cell? ⟨cg, co + k * 2, none⟩ = some (.string ga) := (HB5.out.cell (p := ⟨cg, co + k * 2, none⟩) HY.out.2.2).trans HY.out.1
                  have y1 : w5.cell? ⟨cg, co + k * 2 + 1, none⟩ = some (.string gb) := (HB5.out.cell (p := ⟨cg, co + k * 2 + 1, none⟩) HY.out.2.2).trans HY.out.2.1
                  have z0 : w5.cell? ⟨b4, 0, none⟩ = some (.string ga) := HR5.out.cell 0
                  have z1 : w5.cell? ⟨b4, 1, none⟩ = some (.string gb) := HR5.out.cell 1
                  go_wp2_with (go_at_call 18; refine hgone.out.mono ?_; rintro e1 w5 ⟨rfl, rfl⟩)
                  go_quiet (fail)
                  go_wp2_with fail
                  go_roundw
                  case rel =>
                    exact ⟨k + 1, S3, HLT.out, (by first | rfl | go_num), rfl, HH.out.1, below_drewN HB5.out _⟩
                  case measure => have := HLT.out; simp [intOf]; omega
              · obtain rfl : k = c := by omega
                have hfin : S = z := by
                  rw [← hS, List.take_of_length_le (Nat.le_of_eq HF.out.1), ← HF.out.2.1, ← HX.out.of.l]
                  exact HF.out.2.2.1
                subst hfin
                have HQ := veil (HX.out.below hbq)
                obtain ⟨A, p, q, hP⟩ := HQ.out.pt
                have hsz := tab_size hP
                rw [HF.out.2.2.1] at hsz
                have hsz := veil hsz
                have HBQ := veil (HQ.out.bel)
                clear hS hbq hlt hk hP
                go_wp2_with first
                  | (go_at_call 19; refine hsz.out.mono ?_; rintro e1 w6 ⟨rfl, rfl⟩)
                  | (go_at_call 11; refine (lives_any _).mono ?_; rintro e1 w8 ⟨rfl, hb8⟩)
                go_ret
                exact ⟨rfl, HBQ.out.trans (hb8.mono HBQ.out.size)⟩
end Tb
end Go.Proofs.Ytoajnhngcfjohaa
