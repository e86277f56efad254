/-
  AeadMade's walk.
-/
import Derived.Test.YtffokggejbmadaaDoorGdAeBackW
namespace Go.Proofs.YtffokggejbmadaaDoor
open Go Go.RowKit

theorem value_GW {P : Program} {ops : Array Oper} {rest : List Oper} {o : Oper} {a : Act} {w : World} {Q : Exit → Act → World → Prop} (hgd : Region.wanted o (yielded ops a.tmps) = true) (v : Value) (w' : World) (hv : (execOp a.eval o).run P w = .ok (.value v) w')
    (h : wpList P ops Q rest (a.put o.dst v) w') : wpList P ops Q (o :: rest) a w :=
  wpList_wanted hgd fun _ hK => by unfold Oper.wp; rw [hv, Oper.upon_value]; exact hK _ _ h
theorem fill_more (n m : Nat) (h : m ≤ pad16 n) : ((n + m) % 16 ≠ 0) ↔ m < pad16 n := by
  have h1 := pad16_lt n
  have h2 := pad16_sum n
  unfold pad16 at *
  omega

def _root_.Go.Value.sliceLen6 : Value → Nat
  | .slice _ n _ => n
  | _ => 0
def tailTo (x y i : Nat) : List By := eightTo x (min i 8) ++ eightTo y (i - 8)
theorem tailTo_low (x y i : Nat) (h : i < 8) : tailTo x y (i + 1) = tailTo x y i ++ [byteAt x (i % 8)] := by
  unfold tailTo
  rw [show min (i + 1) 8 = i + 1 by omega, show min i 8 = i by omega, show i + 1 - 8 = 0 by omega, show i - 8 = 0 by omega, eightTo_zero, List.append_nil, List.append_nil, eightTo_succ, Nat.mod_eq_of_lt h]
theorem tailTo_high (x y i : Nat) (h : 8 ≤ i) (h2 : i < 16) : tailTo x y (i + 1) = tailTo x y i ++ [byteAt y (i % 8)] := by
  unfold tailTo
  rw [show min (i + 1) 8 = 8 by omega, show min i 8 = 8 by omega, show i + 1 - 8 = (i - 8) + 1 by omega, eightTo_succ y (i - 8), show i % 8 = i - 8 by omega, List.append_assoc]
theorem tailTo_all (x y : Nat) : tailTo x y 16 = eightL x ++ eightL y := rfl

set_option maxRecDepth 20000 in
set_option maxHeartbeats 4000000 in
theorem made_walk (k n b p : SL) (w : World) (hg : Glob w) (hk : k.Ok w) (hn : n.Ok w) (hb : b.Ok w) (hp : p.Ok w) (lk : k.len ≤ 140737488355328) (ln : n.len ≤ 140737488355328) (lb : b.len ≤ 140737488355328) (lp : p.len ≤ 140737488355328) :
    Calls Tryd.prog 5 #[.agg (withC k n b), .slice p.a p.len p.cap] w fun e w' => e = .returned (.bool true) ∧ Below w.heap.size w w' := by
  obtain ⟨i0, hi, hz0, hz1, hz2⟩ := info_parts (P := Tryd.prog) (e := 5) (z := .int .u8 0) (size := 1) (bytes := 1) (by kernel_rfl)
  have HG := veil hg
  have HK := veil hk
  have HN := veil hn
  have HB := veil hb
  have HP := veil hp
  have HLK := veil lk
  have HLN := veil ln
  have HLB := veil lb
  have HLP := veil lp
  have hpb := hp.hb
  have hbb := hb.hb
  clear hg hk hn hb hp lk ln lb lp
  have hz3 : (withC k n b).size = 3 := rfl
  have r0 : Row (w.alloc (.cells (withC k n b) 24)) w.heap.size 24 (withC k n b) := Row.new _ _ _
  have b0 : Below w.heap.size w (w.alloc (.cells (withC k n b) 24)) := (Below.refl _ w).alloc (Nat.le_refl _) _
  go_enter Tryd.func5, Tryd.ntmps5
  go_wp2_with fail
  refine (alive_any _ (HG.out.below b0 (Nat.le_refl _))).mono ?_
  rintro e1 w1 ⟨rfl, hb1⟩
  have r1 := r0.below hb1 r0.lt
  have b1 := b0.trans (hb1.mono b0.size)
  clear hb1 r0 b0
  go_wp2_with (with_reducible (show wpList _ _ _ (⟨some 24, Op.load 24 _, _, _, _, _⟩ :: _) _ _)
               refine value_G (by rfl) (.agg (withC k n b)) (run_mid 24 _ w.heap.size 0 (withC k n b) _ rfl rfl Tryd.underlying24 rfl (by rw [hz3]; kernel_rfl) _ (lock_whole r1)) ?_)
  refine (great_any k n b p HLK.out HLN.out HLB.out HLP.out w1).mono ?_
  rintro e2 w2 ⟨rfl, hb2⟩
  have b2 := b1.trans (hb2.mono b1.size)
  have r2 := r1.below hb2 r1.lt
  clear hb2 r1 b1
  cases hG : greatB k.len n.len b.len p.len with
  | true =>
    go_wp2_with fail
    refine (alive_any _ (HG.out.below b2 (Nat.le_refl _))).mono ?_
    rintro e3 w3 ⟨rfl, hb3⟩
    have b3 := b2.trans (hb3.mono b2.size)
    clear hb3
    go_wp2_with fail
    go_ret
    exact ⟨rfl, b3⟩
  | false =>
    clear hG
    obtain ⟨c0, c1, c2⟩ := with_cells r2
    have HR2 := veil r2
    have HB2 := veil b2
    have hs2 := b2.size
    clear r2 b2
    go_wp2_with fail
    refine (seal_any k n p b w2 (HG.out.below HB2.out (Nat.le_refl _)) (HK.out.below HB2.out) (HN.out.below HB2.out) (HP.out.below HB2.out) (HB.out.below HB2.out)).mono ?_
    rintro e3 w3 ⟨a3, c3, rfl, own3, hb3⟩
    have b3 := HB2.out.trans (hb3.mono hs2)
    have r3 := HR2.out.below hb3 HR2.out.lt
    clear hb3 c0 c1 c2
    rcases seal_three k.b n.b p.b b.b with ⟨hE, hO⟩ | ⟨hE, hO⟩ | ⟨hE, hO, h32, hle⟩
    · rw [hE, hO, List.length_nil]
      clear hE hO
      go_wp2_with fail
      go_ret
      exact ⟨rfl, b3⟩
    · rw [hE, hO, List.length_nil]
      clear hE hO
      go_wp2_with fail
      go_ret
      exact ⟨rfl, b3⟩
    · rw [hO, sealL_length, hpb] at own3
      rw [hE, hO, sealL_length, hpb]
      clear hE hO
      have HO3 := veil (own_sl6 own3)
      have H32 := veil h32
      have HLE := veil hle
      have HB3 := veil b3
      have HR3 := veil r3
      have hs3 := b3.size
      have hk32 : k.len = 32 := by rw [← HK.out.hb]; exact h32.1
      have hn12 : n.len = 12 := by rw [← HN.out.hb]; exact h32.2
      have hka : k.a = some ⟨k.g, k.off, none⟩ := HK.out.at_ (by omega)
      have hna : n.a = some ⟨n.g, n.off, none⟩ := HN.out.at_ (by omega)
      have HKA := veil hka
      have HNA := veil hna
      clear own3 h32 hle b3 r3 HR2 HB2 hka hna
      have q0 : Row (((w3.alloc (.cells (bs z32b) 33)).alloc (.cells (bs z32b) 33)).alloc (.cells (bs z12) 34)) w3.heap.size 33 (bs z32b) := ((Row.new _ _ _).alloc _).alloc _
      have q1 : Row (((w3.alloc (.cells (bs z32b) 33)).alloc (.cells (bs z32b) 33)).alloc (.cells (bs z12) 34)) (w3.heap.size + 1) 33 (bs z32b) := (Row.new1 _ _ _ _).alloc _
      have q2 : Row (((w3.alloc (.cells (bs z32b) 33)).alloc (.cells (bs z32b) 33)).alloc (.cells (bs z12) 34)) (w3.heap.size + 1 + 1) 34 (bs z12) := Row.new2 _ _ _ _ _
      have b4 : Below w3.heap.size w3 (((w3.alloc (.cells (bs z32b) 33)).alloc (.cells (bs z32b) 33)).alloc (.cells (bs z12) 34)) := (((Below.refl _ w3).alloc (Nat.le_refl _) _).alloc (by simp) _).alloc (by simp; omega) _
      go_wp2_with (first
        | (with_reducible (show wpList _ _ _ (⟨_, Op.alloc 33, _, _, _, _⟩ :: _) _ _)
           refine alloc_row rfl 33 rfl (bs z32b) (by kernel_rfl) ?_)
        | (with_reducible (show wpList _ _ _ (⟨_, Op.alloc 34, _, _, _, _⟩ :: _) _ _)
           refine alloc_row rfl 34 rfl (bs z12) (by kernel_rfl) ?_))
      go_loopw [10] (fun iv wr => ∃ (i : Nat) (zs : List By), i ≤ 32 ∧ iv = .int .i64 i ∧ Hid (zs.length = 32) ∧ Hid (∀ j, j < i → gb zs j = gb k.b j) ∧ Row wr w3.heap.size 33 (bs zs) ∧ Row wr (w3.heap.size + 1) 33 (bs z32b) ∧ Row wr (w3.heap.size + 1 + 1) 34 (bs z12) ∧ Below w3.heap.size w3 wr)
        (fun iv _ => 32 - (intOf iv).toNat)
      case atStart => exact ⟨0, z32b, by omega, rfl, (show z32b.length = 32 from rfl), (fun j hj => by omega), q0, q1, q2, b4⟩
      case round =>
        clear q0 q1 q2 b4
        obtain ⟨i, zs, hi32, rfl, HL, HD, q0, q1, q2, hbel⟩ := hrel
        by_cases hlt : i < 32
        · have hdk : decide ((i : Int) < 32) = true := by simp; omega
          have c0 := (with_cells (HR3.out.below hbel HR3.out.lt)).1
          rw [HKA.out, hk32] at c0
          have cx : wr.cell? ⟨k.g, k.off + i, none⟩ = some (.int .u8 (v8 (gb k.b i))) := ((HK.out.below HB3.out).below hbel).cell i (by omega)
          have cz := q0.cellB (j := i) (by rw [HL.out]; exact hlt)
          have fz := q0.frozen i
          generalize hX : gb k.b i = X at *
          have HX := veil hX
          clear hX
          go_wp2_with fail
          go_roundw
          case rel =>
            have p0 := q0.set i (.int .u8 (v8 X))
            rw [bs_set] at p0
            refine ⟨i + 1, _, by omega, by go_num, ?_, ?_, p0, q1.other (by show w3.heap.size + 1 ≠ w3.heap.size; omega) _, q2.other (by show w3.heap.size + 1 + 1 ≠ w3.heap.size; omega) _, hbel.setCell (p := ⟨w3.heap.size, i, none⟩) (Nat.le_refl _) _⟩
            · show List.length _ = 32
              rw [List.length_set]; exact HL.out
            · intro j hj
              rw [gb_set _ (by rw [HL.out]; exact hlt)]
              split
              · rename_i h; subst h; exact HX.out.symm
              · exact HD.out j (by omega)
          case measure => simp [intOf]; omega
        · have hdk : decide ((i : Int) < 32) = false := by simp; omega
          rw [show i = 32 by omega] at HD
          have e : zs = k.b := gb_ext (by rw [HL.out, HK.out.hb, hk32]) (fun j hj => HD.out j (by rw [HL.out] at hj; exact hj))
          subst e
          clear HD HL
          go_wp2_with fail
          go_loopw [11] (fun iv wr => ∃ (i : Nat) (zs : List By), i ≤ 12 ∧ iv = .int .i64 i ∧ Hid (zs.length = 12) ∧ Hid (∀ j, j < i → gb zs j = gb n.b j) ∧ Row wr w3.heap.size 33 (bs k.b) ∧ Row wr (w3.heap.size + 1) 33 (bs z32b) ∧ Row wr (w3.heap.size + 1 + 1) 34 (bs zs) ∧ Below w3.heap.size w3 wr)
            (fun iv _ => 12 - (intOf iv).toNat)
          case atStart => exact ⟨0, z12, by omega, rfl, (show z12.length = 12 from rfl), (fun j hj => by omega), q0, q1, q2, hbel⟩
          case round =>
            clear q0 q1 q2 hbel hdk
            obtain ⟨i, zs, hi12, rfl, HL, HD, q0, q1, q2, hbel⟩ := hrel
            by_cases hlt : i < 12
            · have hdk : decide ((i : Int) < 12) = true := by simp; omega
              have c0 := (with_cells (HR3.out.below hbel HR3.out.lt)).2.1
              rw [HNA.out, hn12] at c0
              have cx : wr.cell? ⟨n.g, n.off + i, none⟩ = some (.int .u8 (v8 (gb n.b i))) := ((HN.out.below HB3.out).below hbel).cell i (by omega)
              have cz := q2.cellB (j := i) (by rw [HL.out]; exact hlt)
              have fz := q2.frozen i
              generalize hX : gb n.b i = X at *
              have HX := veil hX
              clear hX
              go_wp2_with fail
              go_roundw
              case rel =>
                have p0 := q2.set i (.int .u8 (v8 X))
                rw [bs_set] at p0
                refine ⟨i + 1, _, by omega, by go_num, ?_, ?_, q0.other (by show w3.heap.size ≠ w3.heap.size + 1 + 1; omega) _, q1.other (by show w3.heap.size + 1 ≠ w3.heap.size + 1 + 1; omega) _, p0, hbel.setCell (p := ⟨w3.heap.size + 1 + 1, i, none⟩) (by show w3.heap.size ≤ w3.heap.size + 1 + 1; omega) _⟩
                · show List.length _ = 12
                  rw [List.length_set]; exact HL.out
                · intro j hj
                  rw [gb_set _ (by rw [HL.out]; exact hlt)]
                  split
                  · rename_i h; subst h; exact HX.out.symm
                  · exact HD.out j (by omega)
              case measure => simp [intOf]; omega
            · have hdk : decide ((i : Int) < 12) = false := by simp; omega
              rw [show i = 12 by omega] at HD
              have e : zs = n.b := gb_ext (by rw [HL.out, HN.out.hb, hn12]) (fun j hj => HD.out j (by rw [HL.out] at hj; exact hj))
              subst e
              clear HD HL
              have hkz : (bs k.b).size = 32 := by rw [bs_size]; exact H32.out.1
              have hnz : (bs n.b).size = 12 := by rw [bs_size]; exact H32.out.2
              have b5 := HB3.out.trans (hbel.mono hs3)
              go_wp2_with (first
                | (with_reducible (show wpList _ _ _ (⟨_, Op.load 33 _, _, _, _, _⟩ :: _) _ _)
                   refine load_row rfl 33 _ rfl w3.heap.size rfl _ _ q0 32 5 Tryd.underlying33 (by kernel_rfl) hkz ?_)
                | (with_reducible (show wpList _ _ _ (⟨_, Op.load 34 _, _, _, _, _⟩ :: _) _ _)
                   refine load_row rfl 34 _ rfl (w3.heap.size + 1 + 1) rfl _ _ q2 12 5 Tryd.underlying34 (by kernel_rfl) hnz ?_))
              refine (block_any k.b 0 n.b H32.out.1 H32.out.2 wr (HG.out.below b5 (Nat.le_refl _))).mono ?_
              rintro e6 w6 ⟨rfl, hb6⟩
              have hbl := blockL_length k.b 0 n.b
              obtain ⟨B, hB⟩ : ∃ B, B = blockL k.b 0 n.b := ⟨_, rfl⟩
              rw [← hB] at hbl ⊢
              have HBB := veil hB
              have hbz : (bs B).size = 64 := by rw [bs_size, hbl]
              have t0 := q0.below hb6 q0.lt
              have t1 := q1.below hb6 q1.lt
              have t2 := q2.below hb6 q2.lt
              have hsr := hbel.size
              have bel6 := hbel.trans (hb6.mono hsr)
              clear q0 q1 q2 hb6 hbel b5 hB hdk
              have q0 := t0.alloc (.cells (bs B) 35)
              have q1 := t1.alloc (.cells (bs B) 35)
              have q2 := t2.alloc (.cells (bs B) 35)
              have q3 : Row (w6.alloc (.cells (bs B) 35)) w6.heap.size 35 (bs B) := Row.new _ _ _
              have hbel := bel6.alloc bel6.size (.cells (bs B) 35)
              have hs6 := bel6.size
              have hl1 := t1.lt
              have hl2 := t2.lt
              clear t0 t1 t2 bel6
              go_wp2_with (first
                | (with_reducible (show wpList _ _ _ (⟨_, Op.alloc 35, _, _, _, _⟩ :: _) _ _)
                   refine alloc_row rfl 35 rfl (bs (List.replicate 64 0)) (by kernel_rfl) ?_)
                | (with_reducible (show wpList _ _ _ (⟨_, Op.store 35 _ _, _, _, _, _⟩ :: _) _ _)
                   refine store_new (w := w6) (by rfl) 35 _ _ (by rfl) w6.heap.size (bs B) (by rfl) (by rfl) 35 (bs (List.replicate 64 0)) (by rfl) 64 (by kernel_rfl) (by rfl) hbz (bs_one _) ?_))
              go_loopw [13] (fun iv wr => ∃ (i : Nat) (zs : List By), i ≤ 32 ∧ iv = .int .i64 i ∧ Hid (zs.length = 32) ∧ Hid (∀ j, j < i → gb zs j = gb B j) ∧ Row wr w3.heap.size 33 (bs k.b) ∧ Row wr (w3.heap.size + 1) 33 (bs zs) ∧ Row wr (w3.heap.size + 1 + 1) 34 (bs n.b) ∧ Row wr w6.heap.size 35 (bs B) ∧ Below w3.heap.size w3 wr)
                (fun iv _ => 32 - (intOf iv).toNat)
              case atStart => exact ⟨0, z32b, by omega, rfl, (show z32b.length = 32 from rfl), (fun j hj => by omega), q0, q1, q2, q3, hbel⟩
              case round =>
                clear q0 q1 q2 q3 hbel
                obtain ⟨i, zs, hi3, rfl, HL, HD, q0, q1, q2, q3, hbel⟩ := hrel
                by_cases hlt : i < 32
                · have hdk : decide ((i : Int) < 32) = true := by simp; omega
                  have cx := q3.cellB (j := i) (by rw [hbl]; omega)
                  have cz := q1.cellB (j := i) (by rw [HL.out]; exact hlt)
                  have fz := q1.frozen i
                  generalize hX : gb B i = X at *
                  have HX := veil hX
                  clear hX
                  go_wp2_with fail
                  go_roundw
                  case rel =>
                    have p0 := q1.set i (.int .u8 (v8 X))
                    rw [bs_set] at p0
                    refine ⟨i + 1, _, by omega, by go_num, ?_, ?_, q0.other (by show w3.heap.size ≠ w3.heap.size + 1; omega) _, p0, q2.other (by show w3.heap.size + 1 + 1 ≠ w3.heap.size + 1; omega) _, q3.other (by show w6.heap.size ≠ w3.heap.size + 1; omega) _, hbel.setCell (p := ⟨w3.heap.size + 1, i, none⟩) (by show w3.heap.size ≤ w3.heap.size + 1; omega) _⟩
                    · show List.length _ = 32
                      rw [List.length_set]; exact HL.out
                    · intro j hj
                      rw [gb_set _ (by rw [HL.out]; exact hlt)]
                      split
                      · rename_i h; subst h; exact HX.out.symm
                      · exact HD.out j (by omega)
                  case measure => simp [intOf]; omega
                · have hdk : decide ((i : Int) < 32) = false := by simp; omega
                  rw [show i = 32 by omega] at HD
                  have e : zs = B.take 32 := gb_ext (by rw [HL.out, List.length_take, hbl]; rfl) (fun j hj => by
                    rw [HL.out] at hj
                    rw [HD.out j hj]
                    unfold gb
                    rw [List.getElem?_take, if_pos hj])
                  have HONE := veil e
                  have hol := HL.out
                  have hoz : (bs zs).size = 32 := by rw [bs_size, hol]
                  have b5 := HB3.out.trans (hbel.mono hs3)
                  clear HD HL e q3
                  go_wp2_with (first
                    | (with_reducible (show wpList _ _ _ (⟨_, Op.load 33 _, _, _, _, _⟩ :: _) _ _)
                       refine load_row rfl 33 _ rfl w3.heap.size rfl _ _ q0 32 5 Tryd.underlying33 (by kernel_rfl) hkz ?_)
                    | (with_reducible (show wpList _ _ _ (⟨_, Op.load 34 _, _, _, _, _⟩ :: _) _ _)
                       refine load_row rfl 34 _ rfl (w3.heap.size + 1 + 1) rfl _ _ q2 12 5 Tryd.underlying34 (by kernel_rfl) hnz ?_))
                  refine (xor_ok k.b 1 n.b H32.out.1 H32.out.2 p wr (HG.out.below b5 (Nat.le_refl _)) (HP.out.below b5) (by have := HLE.out.1; rw [hpb] at this; exact this) (by have := HLE.out.1; rw [hpb] at this; rw [u_one]; omega)).mono ?_
                  rintro e7 w7 ⟨g7, rfl, own7, hb7⟩
                  have q1' := q1.below hb7 q1.lt
                  have bel7 := hbel.trans (hb7.mono hbel.size)
                  have hsw := hbel.size
                  have hxl : (xorL k.b 1 n.b p.b).length = p.len := by rw [xorL_length, hpb]
                  obtain ⟨X, hX⟩ : ∃ X, X = xorL k.b 1 n.b p.b := ⟨_, rfl⟩
                  rw [← hX] at own7 hxl
                  have HXX := veil hX
                  have HO7 := veil (own_low own7 (show w3.heap.size ≤ wr.heap.size from hsw))
                  have HQ1 := veil q1'
                  have HB7 := veil bel7
                  have hs7 := bel7.size
                  have hl7 := q1'.lt
                  have hxw : w7.heap.size = w7.heap.size := rfl
                  clear hX own7 hb7 q0 q1 q2 hbel b5 q1' bel7 hdk
                  have c2 := (with_cells (HR3.out.below HB7.out HR3.out.lt)).2.2
                  have HLB2 : Hid (b.len ≤ 1048576) := show _ ≤ _ by have := HLE.out.2; rw [hbb] at this; exact this
                  have HLP2 : Hid (p.len ≤ 1048576) := show _ ≤ _ by have := HLE.out.1; rw [hpb] at this; exact this
                  go_wp2_with (with_reducible (show wpList _ _ _ (⟨some 86, Op.call _, _, _, _, _⟩ :: _) _ _)
                               refine append_sl rfl _ _ 22 rfl w7.heap.size i0 Tryd.underlying22 hi hz0 hz1 hz2 _ 0 [] rfl (World.ownsRow_nil _ _ _ _) b ((HB.out.below HB3.out).below HB7.out) rfl (by have := HLB2.out; omega) (Nat.le_refl _) ?_
                               intro v8' w8 hown8 hgrow8)
                  obtain ⟨a8, c8, rfl⟩ := own_shape hown8
                  have HB8 := veil ((Below.refl _ w7).grown hgrow8 (Nat.le_refl _) (fun q e => by cases e))
                  have HO8 : Hid (w8.ownsRow w7.heap.size 5 1 (.slice a8 b.len c8) b.len (vb b.b)) := show World.ownsRow _ _ _ _ _ _ _ by
                    have := hown8
                    rw [Nat.zero_add, List.nil_append] at this
                    exact this
                  rw [Nat.zero_add]
                  clear hown8 hgrow8 c2 hxw
                  go_wp2_with fail
                  go_loopw [16] (fun lv wr => ∃ (m N : Nat) (a : Option Addr) (c : Nat), m ≤ pad16 b.len ∧ lv = .slice a N c ∧ Hid (N = b.len + m) ∧ wr.ownsRow w7.heap.size 5 1 (.slice a N c) N (vb (b.b ++ List.replicate m 0)) ∧ Below w7.heap.size w7 wr)
                    (fun lv _ => b.len + 16 - lv.sliceLen6)
                  case atStart => exact ⟨0, b.len, a8, c8, Nat.zero_le _, rfl, rfl, by rw [List.replicate_zero, List.append_nil]; exact HO8.out, HB8.out⟩
                  case round =>
                    clear HO8 HB8
                    obtain ⟨m, N, a9, c9, hm, rfl, HNN, hown, hbel⟩ := hrel
                    have hpad := pad16_lt b.len
                    have HOWN := veil hown
                    have HB9 := veil hbel
                    have hsz := hbel.size
                    clear hown hbel
                    by_cases hlt : m < pad16 b.len
                    · have hne : ((N : Int) % 16 != 0) = true := by
                        have := (fill_more b.len m hm).2 hlt
                        rw [HNN.out]
                        simp only [bne_iff_ne, ne_eq]
                        omega
                      go_wp2_with (with_reducible (show wpList _ _ _ (⟨some 93, Op.call _, _, _, _, _⟩ :: _) _ _)
                                   refine append_sl rfl _ _ 22 rfl w7.heap.size i0 Tryd.underlying22 hi hz0 hz1 hz2 _ N _ rfl (HOWN.out.alloc _) (rowN wr.heap.size 1 [0]) (rowN_ok (Row.new wr 5 (bs [0])) rfl) rfl (by have := HLB2.out; have := HNN.out; show N + 1 ≤ 8388608; omega) (by simp; omega) ?_
                                   intro v10 w10 hown10 hgrow10)
                      obtain ⟨a10, c10, rfl⟩ := own_shape hown10
                      have HB10 := veil ((HB9.out.alloc hsz (.cells (bs [0]) 5)).grown hgrow10 (by simp; omega) (fun k e => (HOWN.out.lt k e).1))
                      have HO10 := veil hown10
                      clear hown10 hgrow10
                      go_wp2_with fail
                      go_roundw
                      case rel =>
                        refine ⟨m + 1, N + 1, a10, c10, by omega, rfl, (show N + 1 = b.len + (m + 1) by have := HNN.out; omega), ?_, HB10.out⟩
                        rw [List.replicate_succ', ← List.append_assoc]
                        exact HO10.out
                      case measure => show b.len + 16 - (N + 1) < b.len + 16 - N; have := HNN.out; omega
                    · have hm' : m = pad16 b.len := by omega
                      have hne : ((N : Int) % 16 != 0) = false := by
                        have : (b.len + m) % 16 = 0 := Classical.byContradiction fun h => hlt ((fill_more b.len m hm).1 h)
                        rw [HNN.out]
                        simp only [bne_eq_false_iff_eq]
                        omega
                      have HF : Hid (wr.ownsRow w7.heap.size 5 1 (.slice a9 N c9) N (vb (fillL b.b))) := show World.ownsRow _ _ _ _ _ _ _ by
                        have := HOWN.out
                        rw [hm', ← hbb] at this
                        exact this
                      have hok7 := veil (own_ok6 (own_below HO7.out HB9.out))
                      clear HOWN
                      go_wp2_with (with_reducible (show wpList _ _ _ (⟨some 96, Op.call _, _, _, _, _⟩ :: _) _ _)
                                   refine append_sl rfl _ _ 22 rfl w7.heap.size i0 Tryd.underlying22 hi hz0 hz1 hz2 _ N _ rfl HF.out ⟨some ⟨g7, 0, none⟩, p.len, p.len, g7, 0, X⟩ hok7.out rfl (by have := HLB2.out; have := HLP2.out; have := HNN.out; show N + p.len ≤ 8388608; omega) hsz ?_
                                   intro v11 w11 hown11 hgrow11)
                      obtain ⟨a11, c11, rfl⟩ := own_shape hown11
                      have HB11 := veil (HB9.out.grown hgrow11 hsz (fun k e => (HF.out.lt k e).1))
                      have HO11 := veil hown11
                      obtain ⟨N1, hN1⟩ : ∃ N1, N1 = N + p.len := ⟨_, rfl⟩
                      have hO11 := HO11.out
                      rw [← hN1] at hO11 ⊢
                      have HO12 := veil hO11
                      have HN1 := veil hN1
                      have HPAD : Hid (pad16 N1 = pad16 p.len) := show _ = _ by
                        rw [HN1.out]
                        apply pad16_add
                        rw [HNN.out, hm']
                        exact pad16_sum _
                      clear hown11 hgrow11 HF hok7 HB9 HO11 hO11 hN1 hne
                      go_wp2_with fail
                      go_loopw [16] (fun lv wr => ∃ (m2 N2 : Nat) (a : Option Addr) (c : Nat), m2 ≤ pad16 p.len ∧ lv = .slice a N2 c ∧ Hid (N2 = N1 + m2) ∧ wr.ownsRow w7.heap.size 5 1 (.slice a N2 c) N2 (vb (fillL b.b ++ X ++ List.replicate m2 0)) ∧ Below w7.heap.size w7 wr)
                        (fun lv _ => N1 + 16 - lv.sliceLen6)
                      case atStart => exact ⟨0, N1, a11, c11, Nat.zero_le _, rfl, rfl, by rw [List.replicate_zero, List.append_nil]; exact HO12.out, HB11.out⟩
                      case round =>
                        clear HO12 HB11
                        obtain ⟨m2, N2, a12, c12, hm2, rfl, HN2, hown, hbel⟩ := hrel
                        have hpad2 := pad16_lt p.len
                        have HOWN := veil hown
                        have HB12 := veil hbel
                        have hsz := hbel.size
                        clear hown hbel
                        have HNB : Hid (N2 ≤ 4000000) := show _ ≤ _ by have := HLB2.out; have := HLP2.out; have := HNN.out; have := HN1.out; have := HN2.out; omega
                        by_cases hlt2 : m2 < pad16 p.len
                        · have hne : ((N2 : Int) % 16 != 0) = true := by
                            have := (fill_more N1 m2 (by rw [HPAD.out]; exact hm2)).2 (by rw [HPAD.out]; exact hlt2)
                            rw [HN2.out]
                            simp only [bne_iff_ne, ne_eq]
                            omega
                          go_wp2_with (with_reducible (show wpList _ _ _ (⟨some 103, Op.call _, _, _, _, _⟩ :: _) _ _)
                                       refine append_sl rfl _ _ 22 rfl w7.heap.size i0 Tryd.underlying22 hi hz0 hz1 hz2 _ N2 _ rfl (HOWN.out.alloc _) (rowN wr.heap.size 1 [0]) (rowN_ok (Row.new wr 5 (bs [0])) rfl) rfl (by have := HNB.out; show N2 + 1 ≤ 8388608; omega) (by simp; omega) ?_
                                       intro v10 w10 hown10 hgrow10)
                          obtain ⟨a10, c10, rfl⟩ := own_shape hown10
                          have HB10 := veil ((HB12.out.alloc hsz (.cells (bs [0]) 5)).grown hgrow10 (by simp; omega) (fun k e => (HOWN.out.lt k e).1))
                          have HO10 := veil hown10
                          clear hown10 hgrow10
                          go_wp2_with fail
                          go_roundw
                          case rel =>
                            refine ⟨m2 + 1, N2 + 1, a10, c10, by omega, rfl, (show N2 + 1 = N1 + (m2 + 1) by have := HN2.out; omega), ?_, HB10.out⟩
                            rw [List.replicate_succ', ← List.append_assoc]
                            exact HO10.out
                          case measure => show N1 + 16 - (N2 + 1) < N1 + 16 - N2; have := HN2.out; omega
                        · have hm2' : m2 = pad16 p.len := by omega
                          have hne : ((N2 : Int) % 16 != 0) = false := by
                            have : (N1 + m2) % 16 = 0 := Classical.byContradiction fun h => hlt2 (by have := (fill_more N1 m2 (by rw [HPAD.out]; exact hm2)).1 h; rw [HPAD.out] at this; exact this)
                            rw [HN2.out]
                            simp only [bne_eq_false_iff_eq]
                            omega
                          have hsb := (with_cells ((HR3.out.below HB7.out HR3.out.lt).below HB12.out (Nat.lt_of_lt_of_le HR3.out.lt hs7))).2.2
                          go_wp2_with fail
                          obtain ⟨T2, hT2⟩ : ∃ T2, T2 = fillL b.b ++ X ++ List.replicate (pad16 p.len) 0 := ⟨_, rfl⟩
                          have HF2 : Hid (wr.ownsRow w7.heap.size 5 1 (.slice a12 N2 c12) N2 (vb T2)) := show World.ownsRow _ _ _ _ _ _ _ by
                            have := HOWN.out
                            rw [hm2', ← hT2] at this
                            exact this
                          have HT2 := veil hT2
                          clear HOWN hT2 hne hsb
                          go_loopw [16, 17] (fun lv iv wr => ∃ (i N3 : Nat) (a : Option Addr) (c : Nat), i ≤ 16 ∧ iv = .int .i64 i ∧ lv = .slice a N3 c ∧ Hid (N3 = N2 + i) ∧ wr.ownsRow w7.heap.size 5 1 (.slice a N3 c) N3 (vb (T2 ++ tailTo b.len p.len i)) ∧ Below w7.heap.size w7 wr)
                            (fun _ iv _ => 16 - (intOf iv).toNat)
                          case atStart => exact ⟨0, N2, a12, c12, Nat.zero_le _, rfl, rfl, rfl, by rw [show tailTo b.len p.len 0 = [] from rfl, List.append_nil]; exact HF2.out, HB12.out⟩
                          case round =>
                            clear HF2 HB12
                            obtain ⟨i, N3, a13, c13, hi16, rfl, rfl, HN3, hown, hbel⟩ := hrel
                            have HOWN := veil hown
                            have HB13 := veil hbel
                            have hsz := hbel.size
                            have HNB3 : Hid (N3 ≤ 5000000) := show _ ≤ _ by have := HNB.out; have := HN3.out; omega
                            clear hown hbel
                            by_cases hlt3 : i < 16
                            · have hdk : decide ((i : Int) < 16) = true := by simp; omega
                              obtain ⟨j, hj⟩ : ∃ j, j = i % 8 := ⟨_, rfl⟩
                              have hj8 : j < 8 := by omega
                              have hij : (i : Int) % 8 = (j : Int) := by omega
                              have HJ := veil hj
                              clear hj
                              have c2 := (with_cells ((HR3.out.below HB7.out HR3.out.lt).below HB13.out (Nat.lt_of_lt_of_le HR3.out.lt hs7))).2.2
                              by_cases h8 : i < 8
                              · have hge : decide ((8 : Int) ≤ (i : Int)) = false := by simp; omega
                                have hs1 := shr8a (b.len : Int) j hj8
                                have HV := veil (byte_shr b.len j)
                                have hw1 : IntKind.u64.wrap (b.len : Int) = (b.len : Int) := by rw [IntKind.wrap_u64]; have := HLB2.out; omega
                                go_wp2_with (with_reducible (show wpList _ _ _ (⟨some 124, Op.call _, _, _, _, _⟩ :: _) _ _)
                                             rw [HV.out]
                                             refine append_sl rfl _ _ 22 rfl w7.heap.size i0 Tryd.underlying22 hi hz0 hz1 hz2 _ N3 _ rfl (HOWN.out.alloc _) (rowN wr.heap.size 1 [byteAt b.len j]) (rowN_ok (Row.new _ _ _) rfl) rfl (by have := HNB3.out; show N3 + 1 ≤ 8388608; omega) (by simp; omega) ?_
                                             intro v10 w10 hown10 hgrow10)
                                obtain ⟨a10, c10, rfl⟩ := own_shape hown10
                                have HB10 := veil ((HB13.out.alloc hsz (.cells #[.int .u8 (v8 (byteAt b.len j))] 5)).grown hgrow10 (by simp; omega) (fun k e => (HOWN.out.lt k e).1))
                                have HO10 := veil hown10
                                clear hown10 hgrow10
                                go_wp2_with fail
                                go_roundw
                                case rel =>
                                  refine ⟨i + 1, N3 + 1, a10, c10, by omega, by go_num, rfl, (show N3 + 1 = N2 + (i + 1) by have := HN3.out; omega), ?_, HB10.out⟩
                                  rw [tailTo_low _ _ _ h8, ← HJ.out, ← List.append_assoc]
                                  exact HO10.out
                                case measure => simp [intOf]; omega
                              · have hge : decide ((8 : Int) ≤ (i : Int)) = true := by simp; omega
                                have hs1 := shr8a (p.len : Int) j hj8
                                have HV := veil (byte_shr p.len j)
                                have hw1 : IntKind.u64.wrap (p.len : Int) = (p.len : Int) := by rw [IntKind.wrap_u64]; have := HLP2.out; omega
                                go_wp2_with (with_reducible (show wpList _ _ _ (⟨some 124, Op.call _, _, _, _, _⟩ :: _) _ _)
                                             rw [HV.out]
                                             refine append_sl rfl _ _ 22 rfl w7.heap.size i0 Tryd.underlying22 hi hz0 hz1 hz2 _ N3 _ rfl (HOWN.out.alloc _) (rowN wr.heap.size 1 [byteAt p.len j]) (rowN_ok (Row.new _ _ _) rfl) rfl (by have := HNB3.out; show N3 + 1 ≤ 8388608; omega) (by simp; omega) ?_
                                             intro v10 w10 hown10 hgrow10)
                                obtain ⟨a10, c10, rfl⟩ := own_shape hown10
                                have HB10 := veil ((HB13.out.alloc hsz (.cells #[.int .u8 (v8 (byteAt p.len j))] 5)).grown hgrow10 (by simp; omega) (fun k e => (HOWN.out.lt k e).1))
                                have HO10 := veil hown10
                                clear hown10 hgrow10
                                go_wp2_with fail
                                go_roundw
                                case rel =>
                                  refine ⟨i + 1, N3 + 1, a10, c10, by omega, by go_num, rfl, (show N3 + 1 = N2 + (i + 1) by have := HN3.out; omega), ?_, HB10.out⟩
                                  rw [tailTo_high _ _ _ (by omega) hlt3, ← HJ.out, ← List.append_assoc]
                                  exact HO10.out
                                case measure => simp [intOf]; omega
                            · have hdk : decide ((i : Int) < 16) = false := by simp; omega
                              obtain rfl : i = 16 := by omega
                              have eT : T2 ++ tailTo b.len p.len 16 = taggedL b.b X := by
                                rw [tailTo_all, HT2.out]
                                unfold taggedL
                                rw [hxl, hbb]
                                simp only [List.append_assoc]
                              rw [eT] at HOWN
                              obtain ⟨l, hlv, hll, hlb, hlok⟩ := own_sl6 HOWN.out
                              rw [hlv]
                              have q13 := HQ1.out.below HB13.out hl7
                              have HLOK := veil hlok
                              have HLL := veil hll
                              have HLBB := veil hlb
                              clear hlok hll hlb hlv
                              go_wp2_with (with_reducible (show wpList _ _ _ (⟨_, Op.load 33 _, _, _, _, _⟩ :: _) _ _)
                                           refine load_row rfl 33 _ rfl (w3.heap.size + 1) rfl _ _ q13 32 5 Tryd.underlying33 (by kernel_rfl) hoz ?_)
                              refine (tag_any zs hol l wr HLOK.out (by rw [HLL.out]; have := HN3.out; have := HNN.out; have := HN1.out; have := HN2.out; have := HLB2.out; have := HLP2.out; omega)).mono ?_
                              rintro e14 w14 ⟨rfl, hb14⟩
                              have eM : tagL zs l.b = markL k.b n.b X b.b := by
                                rw [HLBB.out, HONE.out, HBB.out]
                                rfl
                              rw [eM]
                              have hml := markL_length k.b n.b X b.b
                              obtain ⟨M, hM⟩ : ∃ M, M = markL k.b n.b X b.b := ⟨_, rfl⟩
                              rw [← hM] at hml ⊢
                              have HM := veil hM
                              have hmz : (bs M).size = 16 := by rw [bs_size, hml]
                              have b14 := HB13.out.trans (hb14.mono hsz)
                              have b15 := b14.alloc b14.size (.cells (bs M) 40)
                              have r15 : Row (w14.alloc (.cells (bs M) 40)) w14.heap.size 40 (bs M) := Row.new _ _ _
                              have own15 := own_below HO7.out (b15)
                              have hs15 := b15.size
                              have hsx : w3.heap.size ≤ (w14.alloc (.cells (bs M) 40)).heap.size := Nat.le_trans hs7 hs15
                              have okr := rowN_ok r15 hml
                              obtain ⟨v16, w16, hr16, hown16, hgrow16, _⟩ := run_append_own (P := Tryd.prog) (w14.alloc (.cells (bs M) 40)) w3.heap.size 22 22 5 i0 (.int .u8 0) 1 1 Tryd.underlying22 hi hz0 hz1 hz2 rfl (by decide) _ p.len (vb X) own15 ⟨w14.heap.size, 0, none⟩ 16 16 (vb M) (by rw [vb_length, hml]) (fun j u hju => by
                                obtain ⟨h1, rfl⟩ := vb_get' M j u hju
                                rw [add_off]
                                have := okr.cell j (show j < 16 by omega)
                                rw [show (rowN w14.heap.size 16 M).off + j = 0 + j from rfl, Nat.zero_add] at this
                                exact this) (vb_one M) (by have := HLP2.out; unfold maxLen; omega) (by have := HLP2.out; omega) hsx
                              have HR16 := veil hr16
                              have hb16 : Below w3.heap.size (w14.alloc (.cells (bs M) 40)) w16 := (Below.refl _ _).grown hgrow16 hsx (fun z e => (own15.lt z e).1)
                              obtain ⟨sF, hvF, hlF, hbF, hokF⟩ := own_sl6 (show w16.ownsRow w3.heap.size 5 1 v16 (p.len + 16) (vb (X ++ M)) by rw [vb_append]; exact hown16)
                              have HVF := veil hvF
                              have HOKF := veil hokF
                              have b37 : Below w3.heap.size w3 w16 := (HB7.out.trans (b15.mono hs7)).trans hb16
                              have HBF := veil b37
                              have HLF := veil hlF
                              have HBFB := veil hbF
                              clear hM eM hr16 hown16 hgrow16 hb16 own15 okr b15 b14 hb14 hvF hokF hlF hbF b37 q13
                              go_wp2_with (first
                                | (with_reducible (show wpList _ _ _ (⟨_, Op.alloc 40, _, _, _, _⟩ :: _) _ _)
                                   refine alloc_row rfl 40 rfl (bs z16) (by kernel_rfl) ?_)
                                | (with_reducible (show wpList _ _ _ (⟨_, Op.store 40 _ _, _, _, _, _⟩ :: _) _ _)
                                   refine store_new (w := w14) (by rfl) 40 _ _ (by rfl) w14.heap.size (bs M) (by rfl) (by rfl) 40 (bs z16) (by rfl) 16 (by kernel_rfl) (by rfl) hmz (bs_one _) ?_)
                                | (with_reducible (show wpList _ _ _ (⟨some 141, Op.call _, _, _, _, _⟩ :: _) _ _)
                                   refine value_GW (by rfl) v16 w16 (exec_append _ _ _ _ rfl _ _ rfl rfl _ _ HR16.out) ?_
                                   rw [HVF.out]))
                              obtain ⟨sB, hvB, hlB, hbB, hokB⟩ := HO3.out
                              rw [hvB]
                              refine (same_sl sB sF w16 (hokB.below HBF.out) HOKF.out (by rw [hbB, HBFB.out, HXX.out, HM.out, HXX.out]; rfl) (by rw [hlB]; have := HLP2.out; omega)).mono ?_
                              rintro e17 w17 ⟨rfl, hb17⟩
                              have b17 := (HB3.out.trans (HBF.out.mono hs3)).trans (hb17.mono (Nat.le_trans hs3 HBF.out.size))
                              clear hb17
                              go_wp2_with fail
                              go_ret
                              exact ⟨rfl, b17⟩
end Go.Proofs.YtffokggejbmadaaDoor
