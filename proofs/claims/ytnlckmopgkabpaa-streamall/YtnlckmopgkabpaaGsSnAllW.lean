/-
  StreamAll: the walk. Written by mksnall.py.
-/
import Derived.Test.YtnlckmopgkabpaaGsSnAllQ
namespace Go.Proofs.Ytnlckmopgkabpaa
open Go Go.RowKit

namespace Sr
open Sd
set_option maxRecDepth 200000 in
set_option maxHeartbeats 8000000 in
theorem all_walk (b sz ft : SL) (w : World) (hb : b.Ok w) (hs : sz.Ok w) (hf : ft.Ok w) :
    Calls Try.prog 3 #[.slice b.a b.len b.cap, .slice sz.a sz.len sz.cap, .slice ft.a ft.len ft.cap] w fun e w' => e = .returned (.bool true) ∧ Below w.heap.size w w' := by
  by_cases h1 : 3000 < b.len ∨ 1000 < sz.len ∨ 1000 < ft.len
  · clear hb hs hf
    generalize b.len = bl at *
    generalize sz.len = zl at *
    generalize ft.len = fl at *
    by_cases h2 : 3000 < bl
    · have d1 : decide ((3000 : Int) < (bl : Int)) = true := by simp; omega
      have d2 : decide (3000 < bl) = true := by simp; omega
      clear h1 h2
      go_enter Try.func3, Try.ntmps3
      go_wp2_with fail
      refine (lives_any w).mono ?_
      rintro e1 w1 ⟨rfl, hb1⟩
      have B1 := veil hb1
      clear hb1
      go_wp2_with fail
      go_ret
      exact ⟨rfl, B1.out⟩
    · by_cases h3 : 1000 < zl
      · have d1 : decide ((3000 : Int) < (bl : Int)) = false := by simp; omega
        have d2 : decide (3000 < bl) = false := by simp; omega
        have d3 : decide ((1000 : Int) < (zl : Int)) = true := by simp; omega
        have d4 : decide (1000 < zl) = true := by simp; omega
        clear h1 h2 h3
        go_enter Try.func3, Try.ntmps3
        go_wp2_with fail
        refine (lives_any w).mono ?_
        rintro e1 w1 ⟨rfl, hb1⟩
        have B1 := veil hb1
        clear hb1
        go_wp2_with fail
        go_ret
        exact ⟨rfl, B1.out⟩
      · have d1 : decide ((3000 : Int) < (bl : Int)) = false := by simp; omega
        have d2 : decide (3000 < bl) = false := by simp; omega
        have d3 : decide ((1000 : Int) < (zl : Int)) = false := by simp; omega
        have d4 : decide (1000 < zl) = false := by simp; omega
        have d5 : decide ((1000 : Int) < (fl : Int)) = true := by simp; omega
        have d6 : decide (1000 < fl) = true := by simp; omega
        clear h1 h2 h3
        go_enter Try.func3, Try.ntmps3
        go_wp2_with fail
        refine (lives_any w).mono ?_
        rintro e1 w1 ⟨rfl, hb1⟩
        have B1 := veil hb1
        clear hb1
        go_wp2_with fail
        go_ret
        exact ⟨rfl, B1.out⟩
  · have HB := veil hb
    have HS := veil hs
    have HF := veil hf
    have HL := veil (show b.len ≤ 3000 ∧ sz.len ≤ 1000 ∧ ft.len ≤ 1000 by omega)
    have hbl := HL.out.1
    have hzl := HL.out.2.1
    have hfl := HL.out.2.2
    obtain ⟨ba, bl, bc, bg, bo, bb⟩ := b
    obtain ⟨za, zl, zc, zg, zo, zb⟩ := sz
    obtain ⟨fa, fl, fc, fg, fo, fb⟩ := ft
    simp only at HL hbl hzl hfl ⊢
    have d1 : decide ((3000 : Int) < (bl : Int)) = false := by simp; omega
    have d2 : decide (3000 < bl) = false := by simp; omega
    have d3 : decide ((1000 : Int) < (zl : Int)) = false := by simp; omega
    have d4 : decide (1000 < zl) = false := by simp; omega
    have d5 : decide ((1000 : Int) < (fl : Int)) = false := by simp; omega
    have d6 : decide (1000 < fl) = false := by simp; omega
    clear h1 hb hs hf
    go_enter Try.func3, Try.ntmps3
    go_wp2_with fail
    refine (al_new w).mono ?_
    rintro e1 w1 ⟨rfl, x1⟩
    have X1 := veil x1
    clear x1
    go_wp2_with fail
    refine (al_pnew X1.out (bl + 1) (by omega) _ (by go_num)).mono ?_
    rintro e2 w2 ⟨pg, pm, rfl, x2⟩
    have X2 := veil x2
    have HB2 := veil (HB.out.below x2.sn.bel)
    clear x2 X1
    go_wp2_with fail
    refine (al_write X2.out HB2.out hbl).mono ?_
    rintro e3 w3 ⟨rfl, o3, x3⟩
    have hbt := HB.out.hb
    simp only at hbt
    have st := Both.start (b := bb) (by omega)
    have X3 := veil x3
    rw [hbt] at st
    have ST := veil st
    clear x3 st X2 hbt
    go_wp2_with fail
    obtain ⟨g, hg⟩ : ∃ g, w.heap.size = g := ⟨_, rfl⟩
    rw [hg] at X3 ⊢
    have HG := veil hg
    clear hg d1 d2 d3 d4 d5 d6
    go_loopw [11, 12] (fun hvv iv wr => ∃ (i : Nat) (s : Snd) (P : PS) (own : Nat → Prop) (hv : Value) (l : List Fx), iv = .int .i64 (i : Int) ∧ hvv = hv ∧ (i ≤ 1000 ∨ left s + (i - 1000) ≤ 3001) ∧ l.length ≤ i ∧ s.id = 0 ∧ AlM w g pg pm s P own hv l wr ∧ Both bb s P (l.map (·.1)))
      (fun _ iv _ => 8000 - (intOf iv).toNat)
    case atStart =>
      refine ⟨0, _, _, _, _, [], rfl, rfl, .inl (Nat.zero_le _), Nat.zero_le _, ?_, X3.out, ST.out⟩
      unfold write
      split <;> rfl
    case round =>
      clear X3 ST
      obtain ⟨i, s, P, own, hv, l, rfl, rfl, hcnt, hli, hid, hM, hBo⟩ := hrel
      obtain ⟨ha, hcap, hve, _, _⟩ := hM.hr.shape
      subst hve
      obtain ⟨nl, hnl⟩ : ∃ nl, l.length = nl := ⟨_, rfl⟩
      rw [hnl] at hM hli ⊢
      have HNL := veil hnl
      clear hnl
      have hi8 : i ≤ 4001 := by omega
      have bI : (i : Int) < 8000 := by omega
      have HM := veil hM
      have HBo := veil hBo
      have HC := veil (show (i ≤ 1000 ∨ left s + (i - 1000) ≤ 3001) ∧ nl ≤ i ∧ s.id = 0 ∧ left s ≤ 3001 from ⟨hcnt, hli, hid, by have h1 := left_le s; have h2 := hBo.bytes; have h3 := hBo.len; rw [h2] at h1; omega⟩)
      clear hM hBo hcnt hli hid
      go_upto_if 66 with fail
      go_cut [13] from 59 to 165 (fun nv wx => ∃ n0 : Nat, 1 ≤ n0 ∧ n0 ≤ 256 ∧ nv = .int .i64 (n0 : Int) ∧ wx = wr)
      case first =>
        by_cases hlt : i < zl
        · have e1 : za = some ⟨zg, zo, none⟩ := HS.out.at_ (show 0 < zl by omega)
          subst e1
          have c1 : wr.cell? ⟨zg, zo + i, none⟩ = some (.int .u8 (v8 (gb zb i))) := (HS.out.below HM.out.sn.bel).cell i hlt
          have y1 := v8_nn (gb zb i)
          have y2 := v8_le (gb zb i)
          obtain ⟨z, hz⟩ : ∃ z : Nat, v8 (gb zb i) = (z : Int) := ⟨(v8 (gb zb i)).toNat, by omega⟩
          rw [hz] at c1 y1 y2
          have dI : (i : Int) < (zl : Int) := by omega
          clear hz
          go_wp2_with fail
          go_meet
          case rel => exact ⟨1 + z, by omega, by omega, by go_num, rfl⟩
        · have dI : ¬ (i : Int) < (zl : Int) := by omega
          go_wp2_with fail
          go_meet
          case rel => exact ⟨7, by omega, by omega, rfl, rfl⟩
      case rest =>
        obtain ⟨n0, hn1, hn2, rfl, hwc⟩ := hcut
        symm at hwc
        subst hwc
        have HN := veil (show 1 ≤ n0 ∧ n0 ≤ 256 from ⟨hn1, hn2⟩)
        clear hn1 hn2
        go_wp2_with fail
        refine (take_fr _ g s own HM.out.sn.sn (n0 : Int) 4611686018427387903 (by have := HN.out; omega) (by decide)).mono ?_
        intro e4 w4 hp
        unfold TakeF at hp
        cases hsp : span s (n0 : Int) 4611686018427387903 with
        | none =>
          rw [hsp] at hp
          obtain ⟨rfl, _, hb4⟩ := hp
          have sure := span_none HBo.out (show (1 : Int) ≤ (n0 : Int) by have := HN.out; omega) hsp
          have HSU := veil sure
          have HM4 := veil (HM.out.below hb4)
          clear hb4 sure hsp HM
          unfold fr0
          have hn4 : nl ≤ 4001 := by have := HC.out; omega
          go_wp2_with fail
          have HI := veil HC.out.2.2.1
          clear bI hi8 HN HC
          obtain ⟨wS, hwS⟩ : ∃ wS, (w4.alloc (.cells #[.int .u8 0, .int .u64 0, .int .u64 0, .int .u64 0, .int .u64 0, .bool false, .slice none 0 0, .slice none 0 0] 37)) = wS := ⟨_, rfl⟩
          have hb5 := (Below.refl _ w4).alloc (Nat.le_refl _) (.cells #[.int .u8 0, .int .u64 0, .int .u64 0, .int .u64 0, .int .u64 0, .bool false, .slice none 0 0, .slice none 0 0] 37)
          rw [hwS] at hb5 ⊢
          have HM5 := veil (HM4.out.below hb5)
          clear hwS hb5 HM4
          go_loopw [17] (fun iv wr => ∃ (k : Nat) (s : Snd) (P : PS) (own : Nat → Prop), iv = .int .i64 ((k : Int) - 1) ∧ k ≤ nl ∧ AlM w g pg pm s P own (.slice ha nl hcap) l wr ∧ Both bb s P ((l.take k).map (·.1)) ∧ Sure bb s ∧ s.id = 0)
            (fun iv _ => (intOf iv + 1).toNat)
          case atStart =>
            refine ⟨nl, s, P, own, rfl, Nat.le_refl _, HM5.out, ?_, HSU.out, HI.out⟩
            rw [List.take_of_length_le (by rw [HNL.out]; exact Nat.le_refl _)]
            exact HBo.out
          case round =>
            clear HM5 HBo HSU HI
            obtain ⟨k, s, P, own, rfl, hk, hM, hBo, hSu, hid⟩ := hrel
            have HM := veil hM
            have HBo := veil hBo
            have HSU := veil hSu
            have HI := veil hid
            clear hM hBo hSu hid
            cases k with
            | zero =>
              have hBo := HBo.out
              rw [List.take_zero] at hBo
              have HBo := veil (show Both bb s P [] from hBo)
              have HEND := veil (HBo.out.end HSU.out)
              have hbt := HB.out.hb
              simp only at hbt
              have TK := veil (al_take HM.out HBo.out HSU.out bl hbt)
              have HBT := veil hbt
              have HBW := veil (HB.out.below HM.out.sn.bel)
              have wb : IntKind.u64.wrap (bl : Int) = (bl : Int) := by rw [IntKind.wrap_u64]; omega
              clear hBo hbt hk
              go_wp2_with fail
              refine TK.out.mono ?_
              rintro e6 w6 ⟨o, rfl, ho1, ho2, ho3, hx6⟩
              have X6 := veil hx6
              have HO := veil ho1
              have HBY := veil ho2
              have HOL := veil ho3
              clear ho1 ho2 ho3 hx6 TK
              go_wp2_with fail
              refine (same_q o ⟨ba, bl, bc, bg, bo, bb⟩ w6 HO.out (HB.out.below X6.out.bel) HBY.out (by rw [HOL.out]; omega)).mono ?_
              rintro e7 w7 ⟨rfl, m7, rfl⟩
              have X7 := veil (X6.out.below (below_drewN (Below.refl _ w6) m7))
              clear X6 HO
              go_wp2_with fail
              refine (al_done X7.out HEND.out.1).mono ?_
              rintro e8 w8 ⟨rfl, hb8⟩
              have X8 := veil (X7.out.below hb8)
              clear hb8 X7
              go_wp2_with fail
              refine (al_fresh X8.out bl (by rw [HSU.out.all]; exact HBT.out)).mono ?_
              rintro e9 w9 ⟨rfl, hb9⟩
              have X9 := veil (X8.out.below hb9)
              clear hb9 X8
              go_wp2_with fail
              refine (lives_any w9).mono ?_
              rintro e10 w10 ⟨rfl, hb10⟩
              have B10 := veil (X9.out.below hb10).bel
              clear hb10 X9
              go_wp2_with fail
              go_ret
              exact ⟨rfl, B10.out⟩
            | succ k =>
              have hkl : k < l.length := by rw [HNL.out]; omega
              obtain ⟨x, hx⟩ : ∃ x, l[k]? = some x := ⟨_, List.getElem?_eq_getElem hkl⟩
              have e1 : (((k + 1 : Nat) : Int) - 1) = (k : Int) := by omega
              rw [e1]
              obtain ⟨hg, ho, rfl⟩ : ∃ hg ho, ha = some ⟨hg, ho, none⟩ := by
                have hrr := HM.out.hr
                rw [HNL.out] at hrr
                obtain ⟨hg, ho, q, _⟩ := hrr.cells (k * 8 + 0) _ (fcs_get l k x 0 hx (by decide))
                exact ⟨hg, ho, q⟩
              have hrr := HM.out.hr
              rw [HNL.out] at hrr
              obtain ⟨c0, c1, c2, c3, c4, c5, c6, c7⟩ := held_cells hrr hx
              have hmem : x ∈ l := List.mem_of_getElem? hx
              have htk : l.take (k + 1) = l.take k ++ [x] := by rw [List.take_add_one, hx]; rfl
              have hBo := HBo.out
              rw [htk, List.map_append] at hBo
              have hgood : Sd.Good s x.1 := hBo.good x.1 (List.mem_append.2 (.inr (List.mem_singleton.2 rfl)))
              have hbg := hBo.got hgood (M := (l.take k).map (·.1)) (fun y hy => List.mem_append.2 (.inl hy)) (fun y hy => (List.mem_append.1 hy).imp_right (fun q => List.mem_singleton.1 q))
              have HBG := veil hbg
              have HBO := veil hBo
              have HGD := veil hgood
              have HSG := veil (HSU.out.got x.1)
              have hdl := (both_mine (x := x) hBo hgood).2
              have HDL := veil hdl
              have HFI := veil (HM.out.fr x hmem)
              have HKL := veil (show k + 1 ≤ nl from hk)
              have kI : (k : Int) < (nl : Int) := by omega
              have kn : 0 ≤ (k : Int) := by omega
              obtain ⟨⟨off, dat, fin⟩, b'⟩ := x
              simp only at c2 c5 c6
              have HV := veil (FxV.new HM.out HFI.out)
              have HA := veil (HM.out.below ((Below.refl _ wr).alloc (Nat.le_refl _) (.cells (fxM (⟨off, dat, fin⟩, b')).cells 37)))
              have k0 : (wr.alloc (.cells #[.int .u8 7, .int .u64 0, .int .u64 (off : Int), .int .u64 0, .int .u64 0, .bool fin, .slice (some ⟨b', 0, none⟩) dat.length dat.length, .slice none 0 0] 37)).cell? ⟨wr.heap.size, 0, none⟩ = some (.int .u8 7) := HV.out.row.cell 0
              have k1 : (wr.alloc (.cells #[.int .u8 7, .int .u64 0, .int .u64 (off : Int), .int .u64 0, .int .u64 0, .bool fin, .slice (some ⟨b', 0, none⟩) dat.length dat.length, .slice none 0 0] 37)).cell? ⟨wr.heap.size, 1, none⟩ = some (.int .u64 0) := HV.out.row.cell 1
              have k2 : (wr.alloc (.cells #[.int .u8 7, .int .u64 0, .int .u64 (off : Int), .int .u64 0, .int .u64 0, .bool fin, .slice (some ⟨b', 0, none⟩) dat.length dat.length, .slice none 0 0] 37)).cell? ⟨wr.heap.size, 2, none⟩ = some (.int .u64 (off : Int)) := HV.out.row.cell 2
              have k3 : (wr.alloc (.cells #[.int .u8 7, .int .u64 0, .int .u64 (off : Int), .int .u64 0, .int .u64 0, .bool fin, .slice (some ⟨b', 0, none⟩) dat.length dat.length, .slice none 0 0] 37)).cell? ⟨wr.heap.size, 3, none⟩ = some (.int .u64 0) := HV.out.row.cell 3
              have k4 : (wr.alloc (.cells #[.int .u8 7, .int .u64 0, .int .u64 (off : Int), .int .u64 0, .int .u64 0, .bool fin, .slice (some ⟨b', 0, none⟩) dat.length dat.length, .slice none 0 0] 37)).cell? ⟨wr.heap.size, 4, none⟩ = some (.int .u64 0) := HV.out.row.cell 4
              have k5 : (wr.alloc (.cells #[.int .u8 7, .int .u64 0, .int .u64 (off : Int), .int .u64 0, .int .u64 0, .bool fin, .slice (some ⟨b', 0, none⟩) dat.length dat.length, .slice none 0 0] 37)).cell? ⟨wr.heap.size, 5, none⟩ = some (.bool fin) := HV.out.row.cell 5
              have k6 : (wr.alloc (.cells #[.int .u8 7, .int .u64 0, .int .u64 (off : Int), .int .u64 0, .int .u64 0, .bool fin, .slice (some ⟨b', 0, none⟩) dat.length dat.length, .slice none 0 0] 37)).cell? ⟨wr.heap.size, 6, none⟩ = some (.slice (some ⟨b', 0, none⟩) dat.length dat.length) := HV.out.row.cell 6
              have k7 : (wr.alloc (.cells #[.int .u8 7, .int .u64 0, .int .u64 (off : Int), .int .u64 0, .int .u64 0, .bool fin, .slice (some ⟨b', 0, none⟩) dat.length dat.length, .slice none 0 0] 37)).cell? ⟨wr.heap.size, 7, none⟩ = some (.slice none 0 0) := HV.out.row.cell 7
              clear hkl hx e1 hrr hmem htk hBo hgood hbg hdl HFI HM HBo HSU hk
              go_wp2_with fail
              refine (al_put HA.out HV.out HBO.out HGD.out).mono ?_
              rintro e6 w6 ⟨rfl, hA6, hV6⟩
              have HA6 := veil hA6
              have HV6 := veil hV6
              clear k0 k1 k2 k3 k4 k5 k6 k7 hA6 hV6 HA HV
              have k0 : w6.cell? ⟨wr.heap.size, 0, none⟩ = some (.int .u8 7) := HV6.out.row.cell 0
              have k1 : w6.cell? ⟨wr.heap.size, 1, none⟩ = some (.int .u64 0) := HV6.out.row.cell 1
              have k2 : w6.cell? ⟨wr.heap.size, 2, none⟩ = some (.int .u64 (off : Int)) := HV6.out.row.cell 2
              have k3 : w6.cell? ⟨wr.heap.size, 3, none⟩ = some (.int .u64 0) := HV6.out.row.cell 3
              have k4 : w6.cell? ⟨wr.heap.size, 4, none⟩ = some (.int .u64 0) := HV6.out.row.cell 4
              have k5 : w6.cell? ⟨wr.heap.size, 5, none⟩ = some (.bool fin) := HV6.out.row.cell 5
              have k6 : w6.cell? ⟨wr.heap.size, 6, none⟩ = some (.slice (some ⟨b', 0, none⟩) dat.length dat.length) := HV6.out.row.cell 6
              have k7 : w6.cell? ⟨wr.heap.size, 7, none⟩ = some (.slice none 0 0) := HV6.out.row.cell 7
              go_wp2_with fail
              refine (al_got HA6.out HV6.out.hf HGD.out HI.out HDL.out).mono ?_
              rintro e7 w7 ⟨rfl, o7, hA7⟩
              have HA7 := veil hA7
              clear k0 k1 k2 k3 k4 k5 k6 k7 hA7 HA6 HV6
              go_wp2_with fail
              go_roundw
              case rel =>
                refine ⟨k, _, _, _, by go_num, by have := HKL.out; omega, HA7.out, HBG.out, HSG.out, ?_⟩
                have := HI.out
                unfold got
                split <;> exact this
              case measure => simp [intOf] <;> try omega
        | some pq =>
          obtain ⟨p, q⟩ := pq
          rw [hsp] at hp
          have sp := span_some HBo.out.fine hsp
          obtain ⟨b', own', rfl, hok, hS4, hA4, hno4, hge4, _⟩ := hp
          have hbk := HBo.out.take hsp
          have hby := HBo.out.bytes
          have hid0 := HC.out.2.2.1
          have hlt := left_tell sp
          rw [hby, hid0] at hok
          rw [hby, hid0]
          have hm4 := HM.out.after hS4 hA4
          have hfi : FxI w4 own' pg pm (.slice ha nl hcap) (⟨p, Sd.cut bb p q, finB s q⟩, b') := FxI.taken HM.out ⟨hok, fun _ => hno4, rfl⟩ hge4
          have hspl := sp.le
          have hspt := sp.top
          have hspm := sp.most
          rw [hby] at hspt
          have hbt := HB.out.hb
          simp only at hbt
          have hcl : (Sd.cut bb p q).length = q - p := Sd.cut_length hspl hspt
          obtain ⟨cs, hc1, ⟨hc2, hc3⟩, hc4⟩ := cut_u ⟨ba, bl, bc, bg, bo, bb⟩ w HB.out p q hspl (by show q ≤ bl; omega)
          have hgood : Sd.Good (tell s p q) ⟨p, Sd.cut bb p q, finB s q⟩ := hbk.good _ (List.mem_append.2 (.inr (List.mem_singleton.2 rfl)))
          obtain ⟨s1, hs1⟩ : ∃ s1, tell s p q = s1 := ⟨_, rfl⟩
          have hid1 : s1.id = 0 := by rw [← hs1]; exact hid0
          rw [hs1] at hbk hm4 hgood hlt
          obtain ⟨dat, hdat⟩ : ∃ d, Sd.cut bb p q = d := ⟨_, rfl⟩
          obtain ⟨fin, hfin⟩ : ∃ fn, finB s q = fn := ⟨_, rfl⟩
          rw [hdat] at hbk hfi hcl hgood hc3 ⊢
          rw [hfin] at hbk hfi hgood ⊢
          have hdl : dat.length ≤ 3000 := by omega
          have hdn : dat.length ≤ n0 := by omega
          have HV := veil (FxV.new hm4 hfi)
          have HA := veil (hm4.below ((Below.refl _ w4).alloc (Nat.le_refl _) (.cells (fxM (⟨p, dat, fin⟩, b')).cells 37)))
          have HBK := veil hbk
          have HGD := veil hgood
          have HID := veil hid1
          have HLT := veil hlt
          have HDL := veil hdl
          obtain ⟨off, hoff⟩ : ∃ off, p = off := ⟨_, rfl⟩
          subst hoff
          have wb : IntKind.u64.wrap (bl : Int) = (bl : Int) := by rw [IntKind.wrap_u64]; omega
          have wd : IntKind.u64.wrap (dat.length : Int) = (dat.length : Int) := by rw [IntKind.wrap_u64]; omega
          obtain ⟨bp, hbp⟩ : ∃ bp, bl - p = bp := ⟨_, rfl⟩
          have ws : IntKind.u64.wrap ((bl : Int) - (p : Int)) = (bp : Int) := by rw [IntKind.wrap_u64]; omega
          have wq : IntKind.u64.wrap ((p : Int) + (dat.length : Int)) = (q : Int) := by rw [IntKind.wrap_u64]; omega
          have f1 : decide ((bl : Int) < (p : Int)) = false := by simp; omega
          have f2 : decide (bl < p) = false := by simp; omega
          have f3 : decide ((bp : Int) < (dat.length : Int)) = false := by simp; omega
          have f4 : decide (bp < dat.length) = false := by simp; omega
          have f5 : decide ((n0 : Int) < (dat.length : Int)) = false := by simp; omega
          have f6 : decide (n0 < dat.length) = false := by simp; omega
          have s1' := hc1
          simp only at s1'
          have k0 : (w4.alloc (.cells #[.int .u8 7, .int .u64 0, .int .u64 (p : Int), .int .u64 0, .int .u64 0, .bool fin, .slice (some ⟨b', 0, none⟩) dat.length dat.length, .slice none 0 0] 37)).cell? ⟨w4.heap.size, 0, none⟩ = some (.int .u8 7) := HV.out.row.cell 0
          have k1 : (w4.alloc (.cells #[.int .u8 7, .int .u64 0, .int .u64 (p : Int), .int .u64 0, .int .u64 0, .bool fin, .slice (some ⟨b', 0, none⟩) dat.length dat.length, .slice none 0 0] 37)).cell? ⟨w4.heap.size, 1, none⟩ = some (.int .u64 0) := HV.out.row.cell 1
          have k2 : (w4.alloc (.cells #[.int .u8 7, .int .u64 0, .int .u64 (p : Int), .int .u64 0, .int .u64 0, .bool fin, .slice (some ⟨b', 0, none⟩) dat.length dat.length, .slice none 0 0] 37)).cell? ⟨w4.heap.size, 2, none⟩ = some (.int .u64 (p : Int)) := HV.out.row.cell 2
          have k3 : (w4.alloc (.cells #[.int .u8 7, .int .u64 0, .int .u64 (p : Int), .int .u64 0, .int .u64 0, .bool fin, .slice (some ⟨b', 0, none⟩) dat.length dat.length, .slice none 0 0] 37)).cell? ⟨w4.heap.size, 3, none⟩ = some (.int .u64 0) := HV.out.row.cell 3
          have k4 : (w4.alloc (.cells #[.int .u8 7, .int .u64 0, .int .u64 (p : Int), .int .u64 0, .int .u64 0, .bool fin, .slice (some ⟨b', 0, none⟩) dat.length dat.length, .slice none 0 0] 37)).cell? ⟨w4.heap.size, 4, none⟩ = some (.int .u64 0) := HV.out.row.cell 4
          have k5 : (w4.alloc (.cells #[.int .u8 7, .int .u64 0, .int .u64 (p : Int), .int .u64 0, .int .u64 0, .bool fin, .slice (some ⟨b', 0, none⟩) dat.length dat.length, .slice none 0 0] 37)).cell? ⟨w4.heap.size, 5, none⟩ = some (.bool fin) := HV.out.row.cell 5
          have k6 : (w4.alloc (.cells #[.int .u8 7, .int .u64 0, .int .u64 (p : Int), .int .u64 0, .int .u64 0, .bool fin, .slice (some ⟨b', 0, none⟩) dat.length dat.length, .slice none 0 0] 37)).cell? ⟨w4.heap.size, 6, none⟩ = some (.slice (some ⟨b', 0, none⟩) dat.length dat.length) := HV.out.row.cell 6
          have k7 : (w4.alloc (.cells #[.int .u8 7, .int .u64 0, .int .u64 (p : Int), .int .u64 0, .int .u64 0, .bool fin, .slice (some ⟨b', 0, none⟩) dat.length dat.length, .slice none 0 0] 37)).cell? ⟨w4.heap.size, 7, none⟩ = some (.slice none 0 0) := HV.out.row.cell 7
          have SQ := veil (show ∀ n, Calls Try.prog 10 #[.slice (some ⟨b', 0, none⟩) dat.length dat.length, .slice cs.a cs.len cs.cap] ((w4.alloc (.cells #[.int .u8 7, .int .u64 0, .int .u64 (p : Int), .int .u64 0, .int .u64 0, .bool fin, .slice (some ⟨b', 0, none⟩) dat.length dat.length, .slice none 0 0] 37)).drewN n) (fun e w' => e = .returned (.bool true) ∧ ∃ m, w' = ((w4.alloc (.cells #[.int .u8 7, .int .u64 0, .int .u64 (p : Int), .int .u64 0, .int .u64 0, .bool fin, .slice (some ⟨b', 0, none⟩) dat.length dat.length, .slice none 0 0] 37)).drewN n).drewN m) from fun n =>
            same_q (fxM (⟨p, dat, fin⟩, b')).data cs _ (HV.out.hf.hf.ok.data.below (below_drewN (Below.refl _ _) n)) (hc4 _ ((HB.out.below HA.out.sn.bel).below (below_drewN (Below.refl _ _) n))) hc3.symm (by show dat.length ≤ _; omega))
          have HCS := veil hc2
          clear hok hS4 hA4 hno4 hge4 hbk hby hid0 hlt hm4 hfi hspl hspt hspm hbt hcl hc1 hc2 hc3 hc4 hgood hid1 hs1 hdat hfin hdl hdn hbp sp hsp HM HBo
          unfold FrM.cells frT
          go_wp2_with fail
          go_quiet (first | (go_at_call 10; exact Calls.quiet_of (SQ.out _)))
          have ha5 := HA.out.below (below_drewN (Below.refl _ _) nq)
          have hv5 := HV.out.below (below_drewN (Below.refl _ _) nq)
          obtain ⟨W5, hW5⟩ : ∃ W5, ((w4.alloc (.cells #[.int .u8 7, .int .u64 0, .int .u64 (p : Int), .int .u64 0, .int .u64 0, .bool fin, .slice (some ⟨b', 0, none⟩) dat.length dat.length, .slice none 0 0] 37)).drewN nq) = W5 := ⟨_, rfl⟩
          replace hW5 : ((w4.alloc (.cells (fxM (⟨p, dat, fin⟩, b')).cells 37)).drewN nq) = W5 := hW5
          rw [hW5] at ha5 hv5
          replace hW5 : ((w4.alloc (.cells #[.int .u8 7, .int .u64 0, .int .u64 (p : Int), .int .u64 0, .int .u64 0, .bool fin, .slice (some ⟨b', 0, none⟩) dat.length dat.length, .slice none 0 0] 37)).drewN nq) = W5 := hW5
          rw [hW5]
          have HA5 := veil ha5
          have HV5 := veil hv5
          clear ha5 hv5 hW5 HA HV SQ k0 k1 k2 k3 k4 k5 k6 k7 wb wd ws wq f1 f2 f3 f4 f5 f6 s1' HCS
          have hfl2 := HL.out.2.2
          go_upto_if 132 with fail
          go_cut [16] from 59 to 165 (fun fv wx => ∃ ft : Nat, ft < 3 ∧ (ft ≠ 0 → i < 1000) ∧ fv = .int .u8 (ft : Int) ∧ wx = W5)
          case first =>
            by_cases hlt : i < fl
            · have e1 : fa = some ⟨fg, fo, none⟩ := HF.out.at_ (show 0 < fl by omega)
              subst e1
              have c1 : W5.cell? ⟨fg, fo + i, none⟩ = some (.int .u8 (v8 (gb fb i))) := (HF.out.below HA5.out.sn.bel).cell i hlt
              have y1 := v8_nn (gb fb i)
              have y2 := v8_le (gb fb i)
              obtain ⟨z, hz⟩ : ∃ z : Nat, v8 (gb fb i) = (z : Int) := ⟨(v8 (gb fb i)).toNat, by omega⟩
              rw [hz] at c1 y1 y2
              have dI : (i : Int) < (fl : Int) := by omega
              have m0 : Int.tmod (z : Int) 3 = ((z % 3 : Nat) : Int) := by rw [Int.tmod_eq_emod_of_nonneg (by omega)]; omega
              have m1 : IntKind.u8.wrap ((z % 3 : Nat) : Int) = ((z % 3 : Nat) : Int) := by rw [IntKind.wrap_u8]; omega
              obtain ⟨z3, hz3⟩ : ∃ z3, z % 3 = z3 := ⟨_, rfl⟩
              rw [hz3] at m0 m1
              have h33 : z3 < 3 := by omega
              clear hz hz3
              go_wp2_with fail
              go_meet
              case rel => exact ⟨z3, h33, fun _ => by omega, rfl, rfl⟩
            · have dI : ¬ (i : Int) < (fl : Int) := by omega
              go_wp2_with fail
              go_meet
              case rel => exact ⟨0, by omega, fun h => absurd rfl h, rfl, rfl⟩
          case rest =>
            obtain ⟨ft, hft, hfi, rfl, hwc⟩ := hcut
            symm at hwc
            subst hwc
            have k0 : W5.cell? ⟨w4.heap.size, 0, none⟩ = some (.int .u8 7) := HV5.out.row.cell 0
            have k1 : W5.cell? ⟨w4.heap.size, 1, none⟩ = some (.int .u64 0) := HV5.out.row.cell 1
            have k2 : W5.cell? ⟨w4.heap.size, 2, none⟩ = some (.int .u64 (p : Int)) := HV5.out.row.cell 2
            have k3 : W5.cell? ⟨w4.heap.size, 3, none⟩ = some (.int .u64 0) := HV5.out.row.cell 3
            have k4 : W5.cell? ⟨w4.heap.size, 4, none⟩ = some (.int .u64 0) := HV5.out.row.cell 4
            have k5 : W5.cell? ⟨w4.heap.size, 5, none⟩ = some (.bool fin) := HV5.out.row.cell 5
            have k6 : W5.cell? ⟨w4.heap.size, 6, none⟩ = some (.slice (some ⟨b', 0, none⟩) dat.length dat.length) := HV5.out.row.cell 6
            have k7 : W5.cell? ⟨w4.heap.size, 7, none⟩ = some (.slice none 0 0) := HV5.out.row.cell 7
            have hcase : ft = 0 ∨ ft = 1 ∨ ft = 2 := by omega
            rcases hcase with rfl | rfl | rfl
            · clear hft hfi
              go_wp2_with fail
              refine (al_put HA5.out HV5.out HBK.out HGD.out).mono ?_
              rintro e6 w6 ⟨rfl, hA6, hV6⟩
              have HA6 := veil hA6
              have HV6 := veil hV6
              clear k0 k1 k2 k3 k4 k5 k6 k7 hA6 hV6 HA5 HV5
              have k0 : w6.cell? ⟨w4.heap.size, 0, none⟩ = some (.int .u8 7) := HV6.out.row.cell 0
              have k1 : w6.cell? ⟨w4.heap.size, 1, none⟩ = some (.int .u64 0) := HV6.out.row.cell 1
              have k2 : w6.cell? ⟨w4.heap.size, 2, none⟩ = some (.int .u64 (p : Int)) := HV6.out.row.cell 2
              have k3 : w6.cell? ⟨w4.heap.size, 3, none⟩ = some (.int .u64 0) := HV6.out.row.cell 3
              have k4 : w6.cell? ⟨w4.heap.size, 4, none⟩ = some (.int .u64 0) := HV6.out.row.cell 4
              have k5 : w6.cell? ⟨w4.heap.size, 5, none⟩ = some (.bool fin) := HV6.out.row.cell 5
              have k6 : w6.cell? ⟨w4.heap.size, 6, none⟩ = some (.slice (some ⟨b', 0, none⟩) dat.length dat.length) := HV6.out.row.cell 6
              have k7 : w6.cell? ⟨w4.heap.size, 7, none⟩ = some (.slice none 0 0) := HV6.out.row.cell 7
              go_wp2_with fail
              refine (al_got HA6.out HV6.out.hf HGD.out HID.out HDL.out).mono ?_
              rintro e7 w7 ⟨rfl, o7, hA7⟩
              have hbg := HBK.out.got HGD.out (M := l.map (·.1)) (fun y hy => List.mem_append.2 (.inl hy)) (fun y hy => (List.mem_append.1 hy).imp_right (fun q => List.mem_singleton.1 q))
              have HBG := veil hbg
              have HA7 := veil hA7
              have HLG := veil (left_got (s := s1) ⟨p, dat, fin⟩)
              clear k0 k1 k2 k3 k4 k5 k6 k7 hA7 hbg HA6 HV6 HBK
              go_wp2_with fail
              go_roundw
              case rel =>
                refine ⟨i + 1, _, _, _, _, l, by go_num, rfl, ?_, by rw [HNL.out]; have := HC.out; omega, ?_, HA7.out, HBG.out⟩
                · have h1 := HC.out
                  have h2 := HLT.out
                  have h3 := HLG.out
                  try simp only at h3
                  omega
                · have := HID.out
                  unfold got
                  split <;> exact this
              case measure => simp [intOf]; omega
            · have hi1 : i < 1000 := hfi (by decide)
              clear hft hfi
              go_wp2_with fail
              refine (al_lost HA5.out HV5.out.hf HGD.out HID.out HDL.out).mono ?_
              rintro e7 w7 ⟨rfl, o7, hA7⟩
              have hbg := HBK.out.lost
              have HBG := veil hbg
              have HA7 := veil hA7
              clear k0 k1 k2 k3 k4 k5 k6 k7 hA7 hbg HA5 HV5 HBK
              go_wp2_with fail
              go_roundw
              case rel =>
                refine ⟨i + 1, _, _, _, _, l, by go_num, rfl, .inl (by omega), by rw [HNL.out]; have := HC.out; omega, ?_, HA7.out, HBG.out⟩
                have := HID.out
                unfold lost
                split <;> exact this
              case measure => simp [intOf]; omega
            · have hi1 : i < 1000 := hfi (by decide)
              have hrr := (HA5.out.below ((Below.refl _ W5).alloc (Nat.le_refl _) (.cells (fxM (⟨p, dat, fin⟩, b')).cells 37))).hr
              obtain ⟨v2, w2', q1, q2, q3⟩ := fr_append (W5.alloc (.cells (fxM (⟨p, dat, fin⟩, b')).cells 37)) 33 (.slice ha nl hcap) l (⟨p, dat, fin⟩, b') W5.heap.size hrr (Row.new _ _ _) (by rw [HNL.out]; have := HC.out; omega)
              have hA7 := (HA5.out.below ((Below.refl _ W5).alloc (Nat.le_refl _) (.cells (fxM (⟨p, dat, fin⟩, b')).cells 37))).app (HV5.out.hf.below ((Below.refl _ W5).alloc (Nat.le_refl _) (.cells (fxM (⟨p, dat, fin⟩, b')).cells 37))) q2 q3
              have HA7 := veil hA7
              replace q1 : (Builtin.append_ #[33, 33] 33 #[.slice ha nl hcap, .slice (some ⟨W5.heap.size, 0, none⟩) 1 1]).run Try.prog (W5.alloc (.cells #[.int .u8 7, .int .u64 0, .int .u64 (p : Int), .int .u64 0, .int .u64 0, .bool fin, .slice (some ⟨b', 0, none⟩) dat.length dat.length, .slice none 0 0] 37)) = .ok v2 w2' := q1
              have HQ1 := veil q1
              have HBG := veil (show Both bb s1 P ((l ++ [((⟨p, dat, fin⟩ : Sd.Fr), b')]).map (·.1)) from by rw [List.map_append]; exact HBK.out)
              clear hft hfi hrr q1 q2 q3 hA7 HA5 HV5 HBK
              go_wp2_with (with_reducible (show wpList _ _ _ (⟨some 142, Op.call _, _, _, _, _⟩ :: _) _ _)
                           refine wpL_append rfl _ _ _ rfl _ _ _ _ rfl rfl HQ1.out ?_)
              go_roundw
              case rel =>
                refine ⟨i + 1, _, _, _, _, _, by go_num, rfl, .inl (by omega), by rw [List.length_append, HNL.out]; have := HC.out; simp; omega, HID.out, HA7.out, HBG.out⟩
              case measure => simp [intOf]; omega
end Sr
end Go.Proofs.Ytnlckmopgkabpaa
