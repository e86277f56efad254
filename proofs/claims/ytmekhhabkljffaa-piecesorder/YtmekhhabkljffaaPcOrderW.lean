/-
  PiecesOrder: in whatever order the pieces come, what is taken is a beginning of the stream.
-/
import Derived.Test.YtmekhhabkljffaaPcOrderA
namespace Go.Proofs.Ytmekhhabkljffaa
open Go Go.RowKit Go.Maps Go.Shelf

/-- Between two rounds: the pieces, the places that came, what was got. -/
structure OrdI (w : World) (sb : SL) (g m gc B : Nat) (S : PS) (C : Nat → Bool) (E : Bool) (v : Value) (wr : World) : Prop where
  ord : Pc.Ord S sb.b C E
  ok : PcOk wr g m S
  came : Row wr gc 29 (cb C)
  own : wr.ownsRow B 5 1 v S.read (vb (sb.b.take S.read))
  bel : Below w.heap.size w wr
  size : B ≤ wr.heap.size
theorem OrdI.below {w : World} {sb : SL} {g m gc B : Nat} {S : PS} {C : Nat → Bool} {E : Bool} {v : Value} {wr wr' : World} (h : OrdI w sb g m gc B S C E v wr) (hb : Below wr.heap.size wr wr') : OrdI w sb g m gc B S C E v wr' :=
  ⟨h.ord, h.ok.below hb, h.came.below hb h.came.lt, own_from h.own (fun i _ hi => hb.block i hi), h.bel.trans (hb.mono h.bel.size), Nat.le_trans h.size hb.size⟩
theorem beq_nat (x y : Nat) : (x == y) = ((x : Int) == (y : Int)) := by
  by_cases c : x = y
  · rw [c]; simp
  · rw [beq_false_of_ne c, beq_false_of_ne (fun e => c (by omega))]
theorem own_keepQ {W W' : World} {B n z : Nat} {e : TypeId} {v : Value} {xs : List Value} {st : Nat → Prop} (h : W.ownsRow B e z v n xs) (k : KeepP st W W') (hB : ∀ i, st i → i < B) : W'.ownsRow B e z v n xs :=
  own_from h (fun i hi1 hi2 => k.block i hi2 (fun e => by have := hB i e; omega))

set_option maxRecDepth 20000 in
set_option maxHeartbeats 2000000 in
theorem order_any (sb : SL) (sl : PL) (w : World) (hb : sb.Ok w) (hl : sl.Ok w) :
    Calls Try.prog 3 #[.slice sb.a sb.len sb.cap, .slice sl.a sl.len sl.cap] w fun e w' => e = .returned (.bool true) ∧ Below w.heap.size w w' := by
  have HB := veil hb
  have HL := veil hl
  by_cases h1 : sb.len > 3000
  · have d1 : (sb.len : Int) > 3000 := by omega
    clear h1 hb hl
    go_enter Try.func3, Try.ntmps3
    go_wp2_with fail
    refine (alive_any w).mono ?_
    rintro e1 w1 ⟨rfl, hb1⟩
    have B1 := veil hb1
    clear hb1
    go_wp2_with fail
    refine (alive_any w1).mono ?_
    rintro e2 w2 ⟨rfl, hb2⟩
    have B2 := veil (B1.out.trans (hb2.mono B1.out.size))
    clear hb2
    go_wp2_with fail
    go_ret
    exact ⟨rfl, B2.out⟩
  by_cases h2 : sl.len > 300
  · have d1 : ¬ ((sb.len : Int) > 3000) := by omega
    have d2 : (sl.len : Int) > 300 := by omega
    clear h1 h2 hb hl
    go_enter Try.func3, Try.ntmps3
    go_wp2_with fail
    refine (alive_any w).mono ?_
    rintro e1 w1 ⟨rfl, hb1⟩
    have B1 := veil hb1
    clear hb1
    go_wp2_with fail
    refine (alive_any w1).mono ?_
    rintro e2 w2 ⟨rfl, hb2⟩
    have B2 := veil (B1.out.trans (hb2.mono B1.out.size))
    clear hb2
    go_wp2_with fail
    go_ret
    exact ⟨rfl, B2.out⟩
  have d1 : ¬ ((sb.len : Int) > 3000) := by omega
  have d2 : ¬ ((sl.len : Int) > 300) := by omega
  have HN := veil (show sb.len ≤ 3000 ∧ sl.len ≤ 300 from ⟨by omega, by omega⟩)
  clear h1 h2 hb hl
  go_enter Try.func3, Try.ntmps3
  go_wp2_with fail
  refine (alive_any w).mono ?_
  rintro e1 w1 ⟨rfl, hb1⟩
  have B1 := veil hb1
  clear hb1
  go_wp2_with fail
  refine (new_to 3000 w1 (by decide) 3000 rfl).mono ?_
  rintro e2 w2 ⟨g, m, rfl, hp2, hg, hm, hb2⟩
  have HG := veil (show w.heap.size ≤ g ∧ w.heap.size ≤ m ∧ g < w2.heap.size ∧ m < w2.heap.size from ⟨Nat.le_trans B1.out.size hg, Nat.le_trans B1.out.size hm, hp2.row.lt, hp2.map.lt⟩)
  have P2 := veil hp2
  have B2 := veil (B1.out.trans (hb2.mono B1.out.size))
  clear hp2 hb2 hg hm B1
  go_wp2_with (with_reducible (show wpList _ _ _ (⟨_, Op.alloc 29, _, _, _, _⟩ :: _) _ _)
               refine alloc_row9 rfl 29 rfl (cb fun _ => false) zero_came ?_)
  have HI : Hid (OrdI w sb g m w2.heap.size (w2.heap.size + 1) (Pc.newS 3000) (fun _ => false) false (.slice none 0 0) (w2.alloc (.cells (cb fun _ => false) 29))) :=
    ⟨Pc.Ord.new _, P2.out.alloc _, Row.new _ _ _, ⟨rfl, .inl ⟨rfl, rfl⟩⟩, B2.out.alloc B2.out.size _, by simp⟩
  have HGC := veil (show w.heap.size ≤ w2.heap.size from B2.out.size)
  generalize w2.alloc (.cells (cb fun _ => false) 29) = w3 at *
  generalize w2.heap.size = gc at *
  clear P2 B2
  go_loopw [7, 9, 10] (fun gv ev iv wr => ∃ (k : Nat) (S : PS) (C : Nat → Bool) (E : Bool), k ≤ sl.len ∧ iv = .int .i64 (k : Int) ∧ ev = .bool E ∧ OrdI w sb g m gc (gc + 1) S C E gv wr)
    (fun _ _ iv _ => sl.len - (intOf iv).toNat)
  case atStart => exact ⟨0, _, _, _, Nat.zero_le _, rfl, rfl, HI.out⟩
  case round =>
    clear HI
    obtain ⟨k, S, C, E, hk, rfl, rfl, hI⟩ := hrel
    have HI := veil hI
    clear hI
    by_cases hlt : k < sl.len
    · have e1 : sl.a = some ⟨sl.g, sl.off, none⟩ := HL.out.at_ (by omega)
      have WC := veil (show ∀ W, Below w.heap.size w W → W.cell? ⟨sl.g, sl.off + k * 3, none⟩ = some (.int .u16 ((gp sl.l k).at_ : Int)) ∧ W.cell? ⟨sl.g, sl.off + k * 3 + 1, none⟩ = some (.int .u16 ((gp sl.l k).n : Int)) ∧ W.cell? ⟨sl.g, sl.off + k * 3 + 2, none⟩ = some (.int .u8 ((gp sl.l k).take : Int)) from fun W hW => (HL.out.below hW).cell k hlt)
      have HSM := veil (HL.out.small k)
      generalize gp sl.l k = pt at *
      obtain ⟨x, y, t⟩ := pt
      simp only at WC HSM
      obtain ⟨c0, c1, c2⟩ := WC.out wr HI.out.bel
      have HT := veil (show t < 256 from HSM.out.2.2)
      obtain ⟨n1, hn1⟩ : ∃ n1, n1 = sb.len + 1 := ⟨_, rfl⟩
      obtain ⟨p, hp0⟩ : ∃ p, p = x % n1 := ⟨_, rfl⟩
      have hpl : p < n1 := by rw [hp0]; exact Nat.mod_lt _ (by omega)
      obtain ⟨q0, hq0⟩ : ∃ q0, q0 = sb.len - p := ⟨_, rfl⟩
      obtain ⟨mm, hmm0⟩ : ∃ mm, mm = min y q0 := ⟨_, rfl⟩
      obtain ⟨pe, hpe0⟩ : ∃ pe, pe = p + mm := ⟨_, rfl⟩
      obtain ⟨la, hla0⟩ : ∃ la : Bool, la = ((pe : Int) == (sb.len : Int)) := ⟨_, rfl⟩
      have hla : ((pe : Int) == (sb.len : Int)) = la := hla0.symm
      have HLA := veil (show la = true ↔ pe = sb.b.length by rw [hla0, HB.out.hb]; simp; omega)
      have hsm := HSM.out
      have hnn := HN.out
      have hw0 : IntKind.i64.wrap (x : Int) = (x : Int) := by rw [IntKind.wrap_i64]; omega
      have hw1 : IntKind.i64.wrap ((sb.len : Int) + 1) = (n1 : Int) := by rw [IntKind.wrap_i64]; omega
      have hz1n : ¬ n1 = 0 := by omega
      have hrem : Int.tmod (x : Int) (n1 : Int) = (p : Int) := by rw [hp0]; exact (Int.ofNat_tmod _ _).symm
      have hw2 : IntKind.i64.wrap (y : Int) = (y : Int) := by rw [IntKind.wrap_i64]; omega
      have hw3 : IntKind.i64.wrap ((sb.len : Int) - (p : Int)) = (q0 : Int) := by rw [IntKind.wrap_i64]; omega
      have hmin : ∀ ty W, (Builtin.min_ #[3, 3] ty #[.int .i64 (y : Int), .int .i64 (q0 : Int)]).run Try.prog W = .ok (.int .i64 (mm : Int)) W := fun ty W => by rw [hmm0]; exact run_minI9 _ _ _ _ _ _
      have hw4 : IntKind.i64.wrap ((p : Int) + (mm : Int)) = (pe : Int) := by rw [IntKind.wrap_i64]; omega
      have hw5 : IntKind.u64.wrap (p : Int) = (p : Int) := by rw [IntKind.wrap_u64]; omega
      have hw6 : IntKind.i64.wrap (t : Int) = (t : Int) := by rw [IntKind.wrap_i64]; omega
      have hw7 : IntKind.i64.wrap ((k : Int) + 1) = ((k + 1 : Nat) : Int) := by rw [IntKind.wrap_i64]; omega
      have HPE := veil (show p ≤ pe ∧ pe ≤ sb.len ∧ pe = p + mm from ⟨by omega, by omega, hpe0⟩)
      obtain ⟨c, hc, ec, okc, gcc⟩ := cut_both sb w HB.out p pe (by omega) (by omega)
      have HC := veil (show (c.len = mm ∧ c.b = (sb.b.take pe).drop p) ∧ (∀ W, sb.Ok W → c.Ok W) from ⟨⟨by rw [ec.1]; omega, ec.2⟩, okc⟩)
      have HPUT := veil (HI.out.ord.put (c := c.b) (p := p) (n := mm) (last := la) (by rw [HB.out.hb]; omega) (by rw [HB.out.hb]; omega) (by rw [← hpe0]; exact HLA.out) (by rw [ec.2, List.length_drop, List.length_take, HB.out.hb]; omega) (fun j hj => by rw [ec.2]; unfold gb; rw [List.getElem?_drop, List.getElem?_take, if_pos (by omega)]))
      rw [← hpe0] at HPUT
      have HE0 := veil (HI.out.ord.E0 (p := p) (n := mm) (last := la) (by rw [HB.out.hb]; omega) (by rw [HB.out.hb]; omega) (fun e => by rw [← hpe0]; exact HLA.out.1 e))
      obtain ⟨i0, hi, hz0, hz1, hz2⟩ := info_parts (P := Try.prog) (e := 5) (z := .int .u8 0) (size := 1) (bytes := 1) (by kernel_rfl)
      clear hp0 hpl hq0 hmm0 hpe0 hla0 hsm hnn ec okc gcc hn1
      rw [e1]
      go_wp2_with fail
      refine (put_to S _ g m p c la wr 0 HI.out.ok (HC.out.2 _ (HB.out.below HI.out.bel)) (by rw [HC.out.1.1]; have := HPE.out; have := HN.out; omega) (by rw [HC.out.1.1, HE0.out]; rfl) rfl (p : Int) rfl).mono ?_
      rintro e5 w5 ⟨rfl, hp5, hk5⟩
      obtain ⟨S1, hS1⟩ : ∃ S1, S1 = Pc.put S p c.b la := ⟨_, rfl⟩
      rw [← hS1] at hp5 HPUT
      have hrd1 : S1.read = S.read := by rw [hS1]; unfold Pc.put; split <;> rfl
      have P5 := veil hp5
      have R5 := veil (hk5.row HI.out.came (by have := HG.out; unfold Two; omega))
      have B5 := veil (HI.out.bel.trans (hk5.two_below (B := w.heap.size) HG.out.1 HG.out.2.1 HI.out.bel.size))
      have O5 := veil (own_keepQ HI.out.own hk5 (fun i e => by have := HG.out; unfold Two at e; omega))
      rw [← hrd1] at O5
      have Z5 := veil (Nat.le_trans HI.out.size hk5.size)
      clear hp5 hk5 hS1 hrd1 HI c0 c1 c2 hmin hc
      go_wp2_with fail
      go_loopw [13] (fun jv wr2 => ∃ j : Nat, p ≤ j ∧ j ≤ pe ∧ jv = .int .i64 (j : Int) ∧ Row wr2 gc 29 (cb (Pc.more C p j)) ∧ KeepP (fun i => i = gc) w5 wr2)
        (fun jv _ => pe - (intOf jv).toNat)
      case atStart => exact ⟨p, Nat.le_refl _, HPE.out.1, rfl, by rw [Pc.more_start]; exact R5.out, KeepP.refl _ _⟩
      case round =>
        obtain ⟨j, hj1, hj2, rfl, hrow, hkp⟩ := hrel
        by_cases hjl : j < pe
        · have hj3 : j < 3001 := by have := HPE.out; have := HN.out; omega
          have cK := (hrow.cell j).trans (cb_get _ hj3)
          have fK := hrow.frozen j
          have hwj : IntKind.i64.wrap ((j : Int) + 1) = ((j + 1 : Nat) : Int) := by rw [IntKind.wrap_i64]; omega
          have HRW := veil (hrow.set j (.bool true))
          rw [cb_set C hj1 hj3] at HRW
          have HKP := veil (hkp.trans (KeepP.setCell (st := fun i => i = gc) rfl _ j (.bool true)))
          clear hrow hkp
          go_wp2_with fail
          go_roundw
          case rel => exact ⟨j + 1, by omega, hjl, by go_num, HRW.out, HKP.out⟩
          case measure => simp [intOf]; omega
        · obtain rfl : pe = j := by omega
          have HI5 := veil (show OrdI w sb g m gc (gc + 1) S1 (Pc.more C p pe) (E || la) _ wr from ⟨HPUT.out, P5.out.keepQ hkp (by have := HG.out; omega) (by have := HG.out; omega), hrow, own_keepQ O5.out hkp (fun i e => by omega), B5.out.trans (hkp.below (B := w.heap.size) (fun i e => by have := HGC.out; omega) B5.out.size), Nat.le_trans Z5.out hkp.size⟩)
          obtain ⟨z0, z1, z2⟩ := WC.out wr HI5.out.bel
          clear hrow hkp P5 R5 B5 O5 Z5 z0 z1
          cases E
          · cases la
            · have HI6 : Hid (OrdI w sb g m gc (gc + 1) S1 (Pc.more C p pe) false _ wr) := HI5
              clear HI5
              by_cases ht0 : t = 0
              · have dt : ((t : Int) == 0) = true := by rw [ht0]; rfl
                go_wp2_with fail
                go_roundw
                case rel => exact ⟨k + 1, S1, Pc.more C p pe, false, hlt, by go_num, rfl, HI6.out⟩
                case measure => simp [intOf]; omega
              · have dt : ((t : Int) == 0) = false := by simp; omega
                have hOT := HI6.out.ord.take t
                have HOT := veil hOT
                have HLE := veil (Pc.take_le S1.f t S1.read)
                have HRD := veil (show (Pc.takeS S1 t).read ≤ sb.len from by have := hOT.1.rd; rw [HB.out.hb] at this; exact this)
                clear hOT ht0
                go_wp2_with fail
                refine (take_to S1 (Pc.takeS S1 t) g m t wr (Pc.takeL S1.f S1.read t) _ HI6.out.ok (by have := HT.out; omega) rfl rfl rfl (t : Int) rfl).mono ?_
                rintro e6 w6 ⟨sx, rfl, hx6, hp6, hk6⟩
                have HX6 := veil hx6
                have HI7 := veil (show (w6.ownsRow (gc + 1) 5 1 _ S1.read (vb (sb.b.take S1.read)) ∧ PcOk w6 g m (Pc.takeS S1 t) ∧ Row w6 gc 29 (cb (Pc.more C p pe)) ∧ Below w.heap.size w w6 ∧ gc + 1 ≤ w6.heap.size) from ⟨own_keepQ HI6.out.own hk6 (fun i e => by have := HG.out; unfold Two at e; omega), hp6, hk6.row HI6.out.came (by have := HG.out; unfold Two; omega), HI6.out.bel.trans (hk6.two_below (B := w.heap.size) HG.out.1 HG.out.2.1 HI6.out.bel.size), Nat.le_trans HI6.out.size hk6.size⟩)
                have hsx : sx.len ≤ t := by rw [hx6.1.1]; exact HLE.out
                have dx : ¬ ((sx.len : Int) > (t : Int)) := by omega
                have HS6 := veil (show S1.read + sx.len = (Pc.takeS S1 t).read from by rw [hx6.1.1]; exact HOT.out.2.2.2.symm)
                clear hx6 hp6 hk6 hsx
                obtain ⟨en, hen0⟩ : ∃ en, en = Pc.ended (Pc.takeS S1 t) := ⟨_, rfl⟩
                rw [← hen0]
                have HEN := veil (show en = (false && (Pc.takeS S1 t).read == sb.b.length) from hen0.trans HOT.out.2.2.1)
                clear hen0
                go_wp2_with (at_builtin
                             refine append_sl rfl _ _ 22 rfl (gc + 1) i0 Try.underlying22 hi hz0 hz1 hz2 _ S1.read (sb.b.take S1.read) rfl HI7.out.1 sx HX6.out.2.1 rfl (by have := HS6.out; have := HRD.out; have := HN.out; omega) HI7.out.2.2.2.2 ?_
                             intro v7 w7 hown7 hgr7
                             refine Hid.out ?_)
                refine show wpList _ _ _ _ _ _ from ?_
                have hlow : ∀ i, i < gc + 1 → i < w6.heap.size → w7.heap[i]? = w6.heap[i]? := fun i hi1 hi2 => hgr7.block i hi2 (fun e => by
                  obtain ⟨_, _, _, hq⟩ := own_slice8 HI7.out.1
                  have := hq i e.symm
                  omega)
                obtain ⟨sg, hsg1, hsg2, hsg3, hsg4, hsg5⟩ := SL.of_own hown7
                rw [HX6.out.1.2, HOT.out.2.1, HS6.out] at hown7
                have HSL := veil (show sg.len = (Pc.takeS S1 t).read from hsg2.trans HS6.out)
                have HSG := veil (show sg.b = sb.b.take sg.len ∧ sg.Ok w7 from ⟨by rw [hsg3, HX6.out.1.2, HOT.out.2.1, HSL.out], hsg4⟩)
                have HI8 := veil (show OrdI w sb g m gc (gc + 1) (Pc.takeS S1 t) (Pc.more C p pe) false v7 w7 from ⟨HOT.out.1, HI7.out.2.1.same (hlow g (by have := HG.out; omega) HI7.out.2.1.row.lt) (hlow m (by have := HG.out; omega) HI7.out.2.1.map.lt), (hlow gc (by omega) HI7.out.2.2.1.lt).trans HI7.out.2.2.1, hown7, HI7.out.2.2.2.1.grown hgr7 HI7.out.2.2.2.1.size (fun i e => by
                  obtain ⟨_, _, _, hq⟩ := own_slice8 HI7.out.1
                  have := hq i e
                  have := HGC.out
                  omega), Nat.le_trans HI7.out.2.2.2.2 hgr7.size⟩)
                subst hsg1
                unfold SL.v at HI8 ⊢
                clear hown7 hgr7 hlow hsg2 hsg3 hsg4 hsg5 HI7 HX6 HS6
                have hsl : sg.len ≤ sb.len := by rw [HSL.out]; exact HRD.out
                obtain ⟨d, hd, ed, okd, gd⟩ := cut_hi sb w HB.out sg.len hsl
                have HD := veil (show (d.len = sg.len ∧ d.b = sb.b.take sg.len) ∧ (∀ W, sb.Ok W → d.Ok W) from ⟨ed, okd⟩)
                have dg : ¬ ((sg.len : Int) > (sb.len : Int)) := by omega
                have HLS := veil hsl
                obtain rfl : en = false := by rw [HEN.out]; rfl
                obtain ⟨z0, z1, z2⟩ := WC.out w7 HI8.out.bel
                clear ed okd gd z0 z1 hsl HEN
                go_wp2_with fail
                refine (same_sl sg d w7 HSG.out.2 (HD.out.2 _ (HB.out.below HI8.out.bel)) (by rw [HSG.out.1, HD.out.1.2]) (by have := HLS.out; have := HN.out; omega)).mono ?_
                rintro e8 w8 ⟨rfl, hb8⟩
                have HI9 := veil (HI8.out.below hb8)
                clear hb8 HI8 z2 hd
                go_wp2_with fail
                go_roundw
                case rel => exact ⟨k + 1, _, _, false, hlt, by go_num, rfl, HI9.out⟩
                case measure => simp [intOf]; omega
            · have HI6 : Hid (OrdI w sb g m gc (gc + 1) S1 (Pc.more C p pe) true _ wr) := HI5
              clear HI5
              by_cases ht0 : t = 0
              · have dt : ((t : Int) == 0) = true := by rw [ht0]; rfl
                go_wp2_with fail
                go_roundw
                case rel => exact ⟨k + 1, S1, Pc.more C p pe, true, hlt, by go_num, rfl, HI6.out⟩
                case measure => simp [intOf]; omega
              · have dt : ((t : Int) == 0) = false := by simp; omega
                have hOT := HI6.out.ord.take t
                have HOT := veil hOT
                have HLE := veil (Pc.take_le S1.f t S1.read)
                have HRD := veil (show (Pc.takeS S1 t).read ≤ sb.len from by have := hOT.1.rd; rw [HB.out.hb] at this; exact this)
                clear hOT ht0
                go_wp2_with fail
                refine (take_to S1 (Pc.takeS S1 t) g m t wr (Pc.takeL S1.f S1.read t) _ HI6.out.ok (by have := HT.out; omega) rfl rfl rfl (t : Int) rfl).mono ?_
                rintro e6 w6 ⟨sx, rfl, hx6, hp6, hk6⟩
                have HX6 := veil hx6
                have HI7 := veil (show (w6.ownsRow (gc + 1) 5 1 _ S1.read (vb (sb.b.take S1.read)) ∧ PcOk w6 g m (Pc.takeS S1 t) ∧ Row w6 gc 29 (cb (Pc.more C p pe)) ∧ Below w.heap.size w w6 ∧ gc + 1 ≤ w6.heap.size) from ⟨own_keepQ HI6.out.own hk6 (fun i e => by have := HG.out; unfold Two at e; omega), hp6, hk6.row HI6.out.came (by have := HG.out; unfold Two; omega), HI6.out.bel.trans (hk6.two_below (B := w.heap.size) HG.out.1 HG.out.2.1 HI6.out.bel.size), Nat.le_trans HI6.out.size hk6.size⟩)
                have hsx : sx.len ≤ t := by rw [hx6.1.1]; exact HLE.out
                have dx : ¬ ((sx.len : Int) > (t : Int)) := by omega
                have HS6 := veil (show S1.read + sx.len = (Pc.takeS S1 t).read from by rw [hx6.1.1]; exact HOT.out.2.2.2.symm)
                clear hx6 hp6 hk6 hsx
                obtain ⟨en, hen0⟩ : ∃ en, en = Pc.ended (Pc.takeS S1 t) := ⟨_, rfl⟩
                rw [← hen0]
                have HEN := veil (show en = (true && (Pc.takeS S1 t).read == sb.b.length) from hen0.trans HOT.out.2.2.1)
                clear hen0
                go_wp2_with (at_builtin
                             refine append_sl rfl _ _ 22 rfl (gc + 1) i0 Try.underlying22 hi hz0 hz1 hz2 _ S1.read (sb.b.take S1.read) rfl HI7.out.1 sx HX6.out.2.1 rfl (by have := HS6.out; have := HRD.out; have := HN.out; omega) HI7.out.2.2.2.2 ?_
                             intro v7 w7 hown7 hgr7
                             refine Hid.out ?_)
                refine show wpList _ _ _ _ _ _ from ?_
                have hlow : ∀ i, i < gc + 1 → i < w6.heap.size → w7.heap[i]? = w6.heap[i]? := fun i hi1 hi2 => hgr7.block i hi2 (fun e => by
                  obtain ⟨_, _, _, hq⟩ := own_slice8 HI7.out.1
                  have := hq i e.symm
                  omega)
                obtain ⟨sg, hsg1, hsg2, hsg3, hsg4, hsg5⟩ := SL.of_own hown7
                rw [HX6.out.1.2, HOT.out.2.1, HS6.out] at hown7
                have HSL := veil (show sg.len = (Pc.takeS S1 t).read from hsg2.trans HS6.out)
                have HSG := veil (show sg.b = sb.b.take sg.len ∧ sg.Ok w7 from ⟨by rw [hsg3, HX6.out.1.2, HOT.out.2.1, HSL.out], hsg4⟩)
                have HI8 := veil (show OrdI w sb g m gc (gc + 1) (Pc.takeS S1 t) (Pc.more C p pe) true v7 w7 from ⟨HOT.out.1, HI7.out.2.1.same (hlow g (by have := HG.out; omega) HI7.out.2.1.row.lt) (hlow m (by have := HG.out; omega) HI7.out.2.1.map.lt), (hlow gc (by omega) HI7.out.2.2.1.lt).trans HI7.out.2.2.1, hown7, HI7.out.2.2.2.1.grown hgr7 HI7.out.2.2.2.1.size (fun i e => by
                  obtain ⟨_, _, _, hq⟩ := own_slice8 HI7.out.1
                  have := hq i e
                  have := HGC.out
                  omega), Nat.le_trans HI7.out.2.2.2.2 hgr7.size⟩)
                subst hsg1
                unfold SL.v at HI8 ⊢
                clear hown7 hgr7 hlow hsg2 hsg3 hsg4 hsg5 HI7 HX6 HS6
                have hsl : sg.len ≤ sb.len := by rw [HSL.out]; exact HRD.out
                obtain ⟨d, hd, ed, okd, gd⟩ := cut_hi sb w HB.out sg.len hsl
                have HD := veil (show (d.len = sg.len ∧ d.b = sb.b.take sg.len) ∧ (∀ W, sb.Ok W → d.Ok W) from ⟨ed, okd⟩)
                have dg : ¬ ((sg.len : Int) > (sb.len : Int)) := by omega
                have HLS := veil hsl
                obtain rfl : en = ((sg.len : Int) == (sb.len : Int)) := by rw [HEN.out, HB.out.hb, ← HSL.out, Bool.true_and]; exact (beq_nat _ _)
                obtain ⟨z0, z1, z2⟩ := WC.out w7 HI8.out.bel
                clear ed okd gd z0 z1 hsl HEN
                go_wp2_with fail
                refine (same_sl sg d w7 HSG.out.2 (HD.out.2 _ (HB.out.below HI8.out.bel)) (by rw [HSG.out.1, HD.out.1.2]) (by have := HLS.out; have := HN.out; omega)).mono ?_
                rintro e8 w8 ⟨rfl, hb8⟩
                have HI9 := veil (HI8.out.below hb8)
                clear hb8 HI8 z2 hd
                go_wp2_with fail
                go_roundw
                case rel => exact ⟨k + 1, _, _, true, hlt, by go_num, rfl, HI9.out⟩
                case measure => simp [intOf]; omega
          · have HI6 : Hid (OrdI w sb g m gc (gc + 1) S1 (Pc.more C p pe) true _ wr) := HI5
            clear HI5
            by_cases ht0 : t = 0
            · have dt : ((t : Int) == 0) = true := by rw [ht0]; rfl
              go_wp2_with fail
              go_roundw
              case rel => exact ⟨k + 1, S1, Pc.more C p pe, true, hlt, by go_num, rfl, HI6.out⟩
              case measure => simp [intOf]; omega
            · have dt : ((t : Int) == 0) = false := by simp; omega
              have hOT := HI6.out.ord.take t
              have HOT := veil hOT
              have HLE := veil (Pc.take_le S1.f t S1.read)
              have HRD := veil (show (Pc.takeS S1 t).read ≤ sb.len from by have := hOT.1.rd; rw [HB.out.hb] at this; exact this)
              clear hOT ht0
              go_wp2_with fail
              refine (take_to S1 (Pc.takeS S1 t) g m t wr (Pc.takeL S1.f S1.read t) _ HI6.out.ok (by have := HT.out; omega) rfl rfl rfl (t : Int) rfl).mono ?_
              rintro e6 w6 ⟨sx, rfl, hx6, hp6, hk6⟩
              have HX6 := veil hx6
              have HI7 := veil (show (w6.ownsRow (gc + 1) 5 1 _ S1.read (vb (sb.b.take S1.read)) ∧ PcOk w6 g m (Pc.takeS S1 t) ∧ Row w6 gc 29 (cb (Pc.more C p pe)) ∧ Below w.heap.size w w6 ∧ gc + 1 ≤ w6.heap.size) from ⟨own_keepQ HI6.out.own hk6 (fun i e => by have := HG.out; unfold Two at e; omega), hp6, hk6.row HI6.out.came (by have := HG.out; unfold Two; omega), HI6.out.bel.trans (hk6.two_below (B := w.heap.size) HG.out.1 HG.out.2.1 HI6.out.bel.size), Nat.le_trans HI6.out.size hk6.size⟩)
              have hsx : sx.len ≤ t := by rw [hx6.1.1]; exact HLE.out
              have dx : ¬ ((sx.len : Int) > (t : Int)) := by omega
              have HS6 := veil (show S1.read + sx.len = (Pc.takeS S1 t).read from by rw [hx6.1.1]; exact HOT.out.2.2.2.symm)
              clear hx6 hp6 hk6 hsx
              obtain ⟨en, hen0⟩ : ∃ en, en = Pc.ended (Pc.takeS S1 t) := ⟨_, rfl⟩
              rw [← hen0]
              have HEN := veil (show en = (true && (Pc.takeS S1 t).read == sb.b.length) from hen0.trans HOT.out.2.2.1)
              clear hen0
              go_wp2_with (at_builtin
                           refine append_sl rfl _ _ 22 rfl (gc + 1) i0 Try.underlying22 hi hz0 hz1 hz2 _ S1.read (sb.b.take S1.read) rfl HI7.out.1 sx HX6.out.2.1 rfl (by have := HS6.out; have := HRD.out; have := HN.out; omega) HI7.out.2.2.2.2 ?_
                           intro v7 w7 hown7 hgr7
                           refine Hid.out ?_)
              refine show wpList _ _ _ _ _ _ from ?_
              have hlow : ∀ i, i < gc + 1 → i < w6.heap.size → w7.heap[i]? = w6.heap[i]? := fun i hi1 hi2 => hgr7.block i hi2 (fun e => by
                obtain ⟨_, _, _, hq⟩ := own_slice8 HI7.out.1
                have := hq i e.symm
                omega)
              obtain ⟨sg, hsg1, hsg2, hsg3, hsg4, hsg5⟩ := SL.of_own hown7
              rw [HX6.out.1.2, HOT.out.2.1, HS6.out] at hown7
              have HSL := veil (show sg.len = (Pc.takeS S1 t).read from hsg2.trans HS6.out)
              have HSG := veil (show sg.b = sb.b.take sg.len ∧ sg.Ok w7 from ⟨by rw [hsg3, HX6.out.1.2, HOT.out.2.1, HSL.out], hsg4⟩)
              have HI8 := veil (show OrdI w sb g m gc (gc + 1) (Pc.takeS S1 t) (Pc.more C p pe) true v7 w7 from ⟨HOT.out.1, HI7.out.2.1.same (hlow g (by have := HG.out; omega) HI7.out.2.1.row.lt) (hlow m (by have := HG.out; omega) HI7.out.2.1.map.lt), (hlow gc (by omega) HI7.out.2.2.1.lt).trans HI7.out.2.2.1, hown7, HI7.out.2.2.2.1.grown hgr7 HI7.out.2.2.2.1.size (fun i e => by
                obtain ⟨_, _, _, hq⟩ := own_slice8 HI7.out.1
                have := hq i e
                have := HGC.out
                omega), Nat.le_trans HI7.out.2.2.2.2 hgr7.size⟩)
              subst hsg1
              unfold SL.v at HI8 ⊢
              clear hown7 hgr7 hlow hsg2 hsg3 hsg4 hsg5 HI7 HX6 HS6
              have hsl : sg.len ≤ sb.len := by rw [HSL.out]; exact HRD.out
              obtain ⟨d, hd, ed, okd, gd⟩ := cut_hi sb w HB.out sg.len hsl
              have HD := veil (show (d.len = sg.len ∧ d.b = sb.b.take sg.len) ∧ (∀ W, sb.Ok W → d.Ok W) from ⟨ed, okd⟩)
              have dg : ¬ ((sg.len : Int) > (sb.len : Int)) := by omega
              have HLS := veil hsl
              obtain rfl : en = ((sg.len : Int) == (sb.len : Int)) := by rw [HEN.out, HB.out.hb, ← HSL.out, Bool.true_and]; exact (beq_nat _ _)
              obtain ⟨z0, z1, z2⟩ := WC.out w7 HI8.out.bel
              clear ed okd gd z0 z1 hsl HEN
              go_wp2_with fail
              refine (same_sl sg d w7 HSG.out.2 (HD.out.2 _ (HB.out.below HI8.out.bel)) (by rw [HSG.out.1, HD.out.1.2]) (by have := HLS.out; have := HN.out; omega)).mono ?_
              rintro e8 w8 ⟨rfl, hb8⟩
              have HI9 := veil (HI8.out.below hb8)
              clear hb8 HI8 z2 hd
              go_wp2_with fail
              go_roundw
              case rel => exact ⟨k + 1, _, _, true, hlt, by go_num, rfl, HI9.out⟩
              case measure => simp [intOf]; omega
    · obtain rfl : sl.len = k := by omega
      have hOT := HI.out.ord.take 3000
      have HOT := veil hOT
      have HRD := veil (show (Pc.takeS S 3000).read ≤ sb.len from by have := hOT.1.rd; rw [HB.out.hb] at this; exact this)
      have HORD := veil HI.out.ord
      obtain ⟨i0, hi, hz0, hz1, hz2⟩ := info_parts (P := Try.prog) (e := 5) (z := .int .u8 0) (size := 1) (bytes := 1) (by kernel_rfl)
      clear hOT
      go_wp2_with fail
      refine (take_to S (Pc.takeS S 3000) g m 3000 wr (Pc.takeL S.f S.read 3000) _ HI.out.ok (by decide) rfl rfl rfl 3000 rfl).mono ?_
      rintro e6 w6 ⟨sx, rfl, hx6, hp6, hk6⟩
      have HX6 := veil hx6
      have HI7 := veil (show (w6.ownsRow (gc + 1) 5 1 _ S.read (vb (sb.b.take S.read)) ∧ PcOk w6 g m (Pc.takeS S 3000) ∧ Row w6 gc 29 (cb C) ∧ Below w.heap.size w w6 ∧ gc + 1 ≤ w6.heap.size) from ⟨own_keepQ HI.out.own hk6 (fun i e => by have := HG.out; unfold Two at e; omega), hp6, hk6.row HI.out.came (by have := HG.out; unfold Two; omega), HI.out.bel.trans (hk6.two_below (B := w.heap.size) HG.out.1 HG.out.2.1 HI.out.bel.size), Nat.le_trans HI.out.size hk6.size⟩)
      have HS6 := veil (show S.read + sx.len = (Pc.takeS S 3000).read from by rw [hx6.1.1]; exact HOT.out.2.2.2.symm)
      clear hx6 hp6 hk6
      obtain ⟨en, hen0⟩ : ∃ en, en = Pc.ended (Pc.takeS S 3000) := ⟨_, rfl⟩
      rw [← hen0]
      have HEN := veil (show en = (E && (Pc.takeS S 3000).read == sb.b.length) from hen0.trans HOT.out.2.2.1)
      clear hen0
      go_wp2_with (at_builtin
                   refine append_sl rfl _ _ 22 rfl (gc + 1) i0 Try.underlying22 hi hz0 hz1 hz2 _ S.read (sb.b.take S.read) rfl HI7.out.1 sx HX6.out.2.1 rfl (by have := HS6.out; have := HRD.out; have := HN.out; omega) HI7.out.2.2.2.2 ?_
                   intro v7 w7 hown7 hgr7
                   refine Hid.out ?_)
      refine show wpList _ _ _ _ _ _ from ?_
      have hlow : ∀ i, i < gc + 1 → i < w6.heap.size → w7.heap[i]? = w6.heap[i]? := fun i hi1 hi2 => hgr7.block i hi2 (fun e => by
        obtain ⟨_, _, _, hq⟩ := own_slice8 HI7.out.1
        have := hq i e.symm
        omega)
      obtain ⟨sg, hsg1, hsg2, hsg3, hsg4, hsg5⟩ := SL.of_own hown7
      rw [HX6.out.1.2, HOT.out.2.1, HS6.out] at hown7
      have HSL := veil (show sg.len = (Pc.takeS S 3000).read from hsg2.trans HS6.out)
      have HSG := veil (show sg.b = sb.b.take sg.len ∧ sg.Ok w7 from ⟨by rw [hsg3, HX6.out.1.2, HOT.out.2.1, HSL.out], hsg4⟩)
      have HI8 := veil (show OrdI w sb g m gc (gc + 1) (Pc.takeS S 3000) C E v7 w7 from ⟨HOT.out.1, HI7.out.2.1.same (hlow g (by have := HG.out; omega) HI7.out.2.1.row.lt) (hlow m (by have := HG.out; omega) HI7.out.2.1.map.lt), (hlow gc (by omega) HI7.out.2.2.1.lt).trans HI7.out.2.2.1, hown7, HI7.out.2.2.2.1.grown hgr7 HI7.out.2.2.2.1.size (fun i e => by
        obtain ⟨_, _, _, hq⟩ := own_slice8 HI7.out.1
        have := hq i e
        have := HGC.out
        omega), Nat.le_trans HI7.out.2.2.2.2 hgr7.size⟩)
      subst hsg1
      unfold SL.v at HI8 ⊢
      clear hown7 hgr7 hlow hsg2 hsg3 hsg4 hsg5 HI7 HX6 HS6 HI
      go_wp2_with fail
      go_loopw [20] (fun jv wr2 => ∃ n : Nat, n ≤ sb.len ∧ jv = .int .i64 (n : Int) ∧ (∀ x, x < n → C x = true) ∧ w7 = wr2)
        (fun jv _ => sb.len - (intOf jv).toNat)
      case atStart => exact ⟨0, Nat.zero_le _, rfl, fun x hx => absurd hx (Nat.not_lt_zero _), rfl⟩
      case round =>
        obtain ⟨n, hnl, rfl, hall, hw⟩ := hrel
        subst hw
        have HNL := veil hnl
        by_cases hlt2 : n < sb.len
        · have hn3 : n < 3001 := by have := HN.out; omega
          have cK := (HI8.out.came.cell n).trans (cb_get _ hn3)
          cases hC : C n with
          | true =>
            rw [hC] at cK
            have HA := veil (show ∀ x, x < n + 1 → C x = true from fun x hx => by
              rcases Nat.lt_or_ge x n with e | e
              · exact hall x e
              · obtain rfl : x = n := by omega
                exact hC)
            have hwn : IntKind.i64.wrap ((n : Int) + 1) = ((n + 1 : Nat) : Int) := by rw [IntKind.wrap_i64]; omega
            clear hall hC
            go_wp2_with fail
            go_roundw
            case rel => exact ⟨n + 1, hlt2, by go_num, HA.out, trivial⟩
            case measure => simp [intOf]; omega
          | false =>
            rw [hC] at cK
            have HFAR := veil (HORD.out.far (n := n) (by rw [HB.out.hb]; exact HN.out.1) (by rw [HB.out.hb]; exact hnl) hall (.inr hC))
            clear hall hC
            cases E
            · obtain rfl : en = false := by rw [HEN.out]; rfl
              have hgn : sg.len = n := HSL.out.trans HFAR.out
              have dn : ((sg.len : Int) == (n : Int)) = true := by rw [hgn]; simp
              have hwn : IntKind.u64.wrap (n : Int) = (n : Int) := by have := HNL.out; have := HN.out; rw [IntKind.wrap_u64]; omega
              obtain ⟨d, hd, ed, okd, gd⟩ := cut_hi sb w HB.out n HNL.out
              have HD := veil (show (d.len = n ∧ d.b = sb.b.take n) ∧ (∀ W, sb.Ok W → d.Ok W) from ⟨ed, okd⟩)
              have HGN := veil hgn
              have hll : (((n : Int) == (sb.len : Int)) == ((n : Int) == (sb.len : Int))) = true := by simp
              clear ed okd gd HEN hgn
              go_wp2_with fail
              refine (same_sl sg d w7 HSG.out.2 (HD.out.2 _ (HB.out.below HI8.out.bel)) (by rw [HSG.out.1, HD.out.1.2, HGN.out]) (by have := HNL.out; have := HN.out; have := HGN.out; omega)).mono ?_
              rintro e8 w8 ⟨rfl, hb8⟩
              have HI9 := veil (HI8.out.below hb8)
              clear hb8 HI8
              go_wp2_with fail
              refine (pcread_any _ g m w8 HI9.out.ok).mono ?_
              rintro e9 w9 ⟨rfl, rfl⟩
              rw [HFAR.out]
              have hnn : ((n : Int) == (n : Int)) = true := by simp
              go_wp2_with fail
              go_ret
              exact ⟨rfl, HI9.out.bel⟩
            · obtain rfl : en = ((n : Int) == (sb.len : Int)) := by rw [HEN.out, HFAR.out, HB.out.hb, Bool.true_and]; exact (beq_nat _ _)
              have hgn : sg.len = n := HSL.out.trans HFAR.out
              have dn : ((sg.len : Int) == (n : Int)) = true := by rw [hgn]; simp
              have hwn : IntKind.u64.wrap (n : Int) = (n : Int) := by have := HNL.out; have := HN.out; rw [IntKind.wrap_u64]; omega
              obtain ⟨d, hd, ed, okd, gd⟩ := cut_hi sb w HB.out n HNL.out
              have HD := veil (show (d.len = n ∧ d.b = sb.b.take n) ∧ (∀ W, sb.Ok W → d.Ok W) from ⟨ed, okd⟩)
              have HGN := veil hgn
              have hll : (((n : Int) == (sb.len : Int)) == ((n : Int) == (sb.len : Int))) = true := by simp
              clear ed okd gd HEN hgn
              go_wp2_with fail
              refine (same_sl sg d w7 HSG.out.2 (HD.out.2 _ (HB.out.below HI8.out.bel)) (by rw [HSG.out.1, HD.out.1.2, HGN.out]) (by have := HNL.out; have := HN.out; have := HGN.out; omega)).mono ?_
              rintro e8 w8 ⟨rfl, hb8⟩
              have HI9 := veil (HI8.out.below hb8)
              clear hb8 HI8
              go_wp2_with fail
              refine (pcread_any _ g m w8 HI9.out.ok).mono ?_
              rintro e9 w9 ⟨rfl, rfl⟩
              rw [HFAR.out]
              have hnn : ((n : Int) == (n : Int)) = true := by simp
              go_wp2_with fail
              go_ret
              exact ⟨rfl, HI9.out.bel⟩
        · have HFAR := veil (HORD.out.far (n := n) (by rw [HB.out.hb]; exact HN.out.1) (by rw [HB.out.hb]; exact hnl) hall (.inl (by rw [HB.out.hb]; omega)))
          clear hall
          cases E
          · obtain rfl : en = false := by rw [HEN.out]; rfl
            have hgn : sg.len = n := HSL.out.trans HFAR.out
            have dn : ((sg.len : Int) == (n : Int)) = true := by rw [hgn]; simp
            have hwn : IntKind.u64.wrap (n : Int) = (n : Int) := by have := HNL.out; have := HN.out; rw [IntKind.wrap_u64]; omega
            obtain ⟨d, hd, ed, okd, gd⟩ := cut_hi sb w HB.out n HNL.out
            have HD := veil (show (d.len = n ∧ d.b = sb.b.take n) ∧ (∀ W, sb.Ok W → d.Ok W) from ⟨ed, okd⟩)
            have HGN := veil hgn
            have hll : (((n : Int) == (sb.len : Int)) == ((n : Int) == (sb.len : Int))) = true := by simp
            clear ed okd gd HEN hgn
            go_wp2_with fail
            refine (same_sl sg d w7 HSG.out.2 (HD.out.2 _ (HB.out.below HI8.out.bel)) (by rw [HSG.out.1, HD.out.1.2, HGN.out]) (by have := HNL.out; have := HN.out; have := HGN.out; omega)).mono ?_
            rintro e8 w8 ⟨rfl, hb8⟩
            have HI9 := veil (HI8.out.below hb8)
            clear hb8 HI8
            go_wp2_with fail
            refine (pcread_any _ g m w8 HI9.out.ok).mono ?_
            rintro e9 w9 ⟨rfl, rfl⟩
            rw [HFAR.out]
            have hnn : ((n : Int) == (n : Int)) = true := by simp
            go_wp2_with fail
            go_ret
            exact ⟨rfl, HI9.out.bel⟩
          · obtain rfl : en = ((n : Int) == (sb.len : Int)) := by rw [HEN.out, HFAR.out, HB.out.hb, Bool.true_and]; exact (beq_nat _ _)
            have hgn : sg.len = n := HSL.out.trans HFAR.out
            have dn : ((sg.len : Int) == (n : Int)) = true := by rw [hgn]; simp
            have hwn : IntKind.u64.wrap (n : Int) = (n : Int) := by have := HNL.out; have := HN.out; rw [IntKind.wrap_u64]; omega
            obtain ⟨d, hd, ed, okd, gd⟩ := cut_hi sb w HB.out n HNL.out
            have HD := veil (show (d.len = n ∧ d.b = sb.b.take n) ∧ (∀ W, sb.Ok W → d.Ok W) from ⟨ed, okd⟩)
            have HGN := veil hgn
            have hll : (((n : Int) == (sb.len : Int)) == ((n : Int) == (sb.len : Int))) = true := by simp
            clear ed okd gd HEN hgn
            go_wp2_with fail
            refine (same_sl sg d w7 HSG.out.2 (HD.out.2 _ (HB.out.below HI8.out.bel)) (by rw [HSG.out.1, HD.out.1.2, HGN.out]) (by have := HNL.out; have := HN.out; have := HGN.out; omega)).mono ?_
            rintro e8 w8 ⟨rfl, hb8⟩
            have HI9 := veil (HI8.out.below hb8)
            clear hb8 HI8
            go_wp2_with fail
            refine (pcread_any _ g m w8 HI9.out.ok).mono ?_
            rintro e9 w9 ⟨rfl, rfl⟩
            rw [HFAR.out]
            have hnn : ((n : Int) == (n : Int)) = true := by simp
            go_wp2_with fail
            go_ret
            exact ⟨rfl, HI9.out.bel⟩

theorem order_walk (sb : SL) (sl : PL) (w : World) (hb : sb.Ok w) (_ : sb.len ≤ 140737488355328) (hl : sl.Ok w) :
    Calls Try.prog 3 #[.slice sb.a sb.len sb.cap, .slice sl.a sl.len sl.cap] w fun e w' => e = .returned (.bool true) ∧ Below w.heap.size w w' := order_any sb sl w hb hl
end Go.Proofs.Ytmekhhabkljffaa
