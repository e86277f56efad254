/-
  KeysOf: the walk.
-/
import Derived.Test.YtlicflmpakkccaaGreatDoorGvKySecretsW
namespace Go.Proofs.YtlicflmpakkccaaGreatDoor
open Go Go.RowKit

/-- A list that is none, or a row that fills its block. -/
abbrev ownV (a : Option Addr) (n d : Nat) : Value := .slice a n d

/-- What Of and the document's Of answer, in one shape. -/
theorem of_cases (sb : List By) : ∃ (x y z : List By) (nx ny nz : Nat) (E : Int), nx ≤ 32 ∧ ny ≤ 32 ∧ nz ≤ 32 ∧
    (∀ (s : SL) (w : World), s.Ok w → s.b = sb → Calls Tryz.prog 14 #[.slice s.a s.len s.cap] w fun e w' => ∃ a b c d1 d2 d3, e = .returned (.tuple #[.agg (keysC (ownV a nx d1) (ownV b ny d2) (ownV c nz d3)), .int .i64 E]) ∧
      w'.ownsRow w.heap.size 5 1 (ownV a nx d1) nx (vb x) ∧ w'.ownsRow w.heap.size 5 1 (ownV b ny d2) ny (vb y) ∧ w'.ownsRow w.heap.size 5 1 (ownV c nz d3) nz (vb z) ∧
      ((ownV a nx d1).ownBlock = none ∨ (ownV a nx d1).ownBlock ≠ (ownV b ny d2).ownBlock) ∧ ((ownV a nx d1).ownBlock = none ∨ (ownV a nx d1).ownBlock ≠ (ownV c nz d3).ownBlock) ∧ ((ownV b ny d2).ownBlock = none ∨ (ownV b ny d2).ownBlock ≠ (ownV c nz d3).ownBlock) ∧ Below w.heap.size w w') ∧
    (∀ (s : SL) (w : World), s.Ok w → s.b = sb → Calls Tryz.prog 16 #[.slice s.a s.len s.cap] w fun e w' => ∃ p q r : SL, e = .returned (.tuple #[.agg (keysC (.slice p.a p.len p.cap) (.slice q.a q.len q.cap) (.slice r.a r.len r.cap)), .int .i64 E]) ∧ p.Ok w' ∧ q.Ok w' ∧ r.Ok w' ∧ p.b = x ∧ q.b = y ∧ r.b = z ∧ Below w.heap.size w w') := by
  by_cases h : sb.length = 32
  · refine ⟨lab sb keyT 32, lab sb ivT 12, lab sb hpT 32, 32, 12, 32, 0, by decide, by decide, by decide, fun s w hs e1 => ?_, fun s w hs e1 => ?_⟩
    · refine (of_any s w hs (by rw [← hs.hb, e1]; exact h)).mono fun e w' ⟨g0, g1, g2, a1, o0, o1, o2, l1, l2, hb⟩ => ?_
      rw [e1] at o0 o1 o2
      exact ⟨_, _, _, _, _, _, a1, o0, o1, o2, .inr (fun q => by have : g0 = g1 := Option.some.inj q; omega), .inr (fun q => by have : g0 = g2 := Option.some.inj q; omega), .inr (fun q => by have : g1 = g2 := Option.some.inj q; omega), hb⟩
    · refine (refOf_any s w hs (by rw [← hs.hb, e1]; exact h)).mono fun e w' ⟨p, q, r, a1, o0, o1, o2, b0, b1, b2, hb⟩ => ?_
      rw [e1] at b0 b1 b2
      exact ⟨p, q, r, a1, o0, o1, o2, b0, b1, b2, hb⟩
  · refine ⟨[], [], [], 0, 0, 0, 1, by decide, by decide, by decide, fun s w hs e1 => ?_, fun s w hs e1 => ?_⟩
    · exact (of_bad s w (by rw [← hs.hb, e1]; exact h)).mono fun e w' ⟨a1, hb⟩ => ⟨none, none, none, 0, 0, 0, a1, World.ownsRow_nil _ _ _ _, World.ownsRow_nil _ _ _ _, World.ownsRow_nil _ _ _ _, .inl rfl, .inl rfl, .inl rfl, hb⟩
    · exact (refOf_bad s w (by rw [← hs.hb, e1]; exact h)).mono fun e w' ⟨a1, hb⟩ => ⟨nilK, nilK, nilK, a1, nilK_ok _, nilK_ok _, nilK_ok _, rfl, rfl, rfl, hb⟩
theorem next_cases (sb : List By) : ∃ (x : List By) (nx : Nat) (E : Int), nx ≤ 32 ∧
    (∀ (s : SL) (w : World), s.Ok w → s.b = sb → Calls Tryz.prog 15 #[.slice s.a s.len s.cap] w fun e w' => ∃ a d, e = .returned (.tuple #[ownV a nx d, .int .i64 E]) ∧ w'.ownsRow w.heap.size 5 1 (ownV a nx d) nx (vb x) ∧ Below w.heap.size w w') ∧
    (∀ (s : SL) (w : World), s.Ok w → s.b = sb → Calls Tryz.prog 17 #[.slice s.a s.len s.cap] w fun e w' => ∃ p : SL, e = .returned (.tuple #[.slice p.a p.len p.cap, .int .i64 E]) ∧ p.Ok w' ∧ p.b = x ∧ Below w.heap.size w w') := by
  by_cases h : sb.length = 32
  · refine ⟨lab sb kuT 32, 32, 0, by decide, fun s w hs e1 => ?_, fun s w hs e1 => ?_⟩
    · refine (next_any s w hs (by rw [← hs.hb, e1]; exact h)).mono fun e w' ⟨g0, a1, o0, hb⟩ => ?_
      rw [e1] at o0
      exact ⟨_, _, a1, o0, hb⟩
    · refine (refNext_any s w hs (by rw [← hs.hb, e1]; exact h)).mono fun e w' ⟨p, a1, o0, b0, hb⟩ => ?_
      rw [e1] at b0
      exact ⟨p, a1, o0, b0, hb⟩
  · refine ⟨[], 0, 1, by decide, fun s w hs e1 => ?_, fun s w hs e1 => ?_⟩
    · exact (next_bad s w (by rw [← hs.hb, e1]; exact h)).mono fun e w' ⟨a1, hb⟩ => ⟨none, 0, a1, World.ownsRow_nil _ _ _ _, hb⟩
    · exact (refNext_bad s w (by rw [← hs.hb, e1]; exact h)).mono fun e w' ⟨a1, hb⟩ => ⟨nilK, a1, nilK_ok _, rfl, by rw [hb]; exact Below.refl _ _⟩

theorem row_three {w : World} {S g : Nat} {t : TypeId} {a b c : Value} (h : Row w g t (keysC a b c)) (hg : S ≤ g) : RowW w S 5 1 (.slice (some ⟨g, 0, none⟩) 3 3) 3 [a, b, c] :=
  ⟨rfl, .inr ⟨g, 3, keysC a b c, rfl, hg, ⟨t, h⟩, Nat.le_refl _, by decide, Nat.le_refl _, rfl⟩⟩
theorem row_three_cells {w : World} {S g : Nat} {a b c : Value} (h : RowW w S 5 1 (.slice (some ⟨g, 0, none⟩) 3 3) 3 [a, b, c]) : w.cell? ⟨g, 0, none⟩ = some a ∧ w.cell? ⟨g, 1, none⟩ = some b ∧ w.cell? ⟨g, 2, none⟩ = some c :=
  ⟨h.cellAt 0 (by decide), h.cellAt 1 (by decide), h.cellAt 2 (by decide)⟩
theorem row_alloc_new (w : World) (a b c : Value) : Row (w.alloc (.cells (keysC a b c) 46)) w.heap.size 46 (keysC a b c) := Row.new _ _ _

set_option maxRecDepth 20000 in
set_option maxHeartbeats 4000000 in
theorem of_walk (s : SL) (w : World) (hg : Glob w) (hs : s.Ok w) (ls : s.len ≤ 140737488351232) :
    Calls Tryz.prog 4 #[.slice s.a s.len s.cap] w fun e w' => e = .returned (.bool true) ∧ Below w.heap.size w w' := by
  obtain ⟨x, y, z, nx, ny, nz, E, lx, ly, lz, hX, hR⟩ := of_cases s.b
  obtain ⟨v, nv, F, lv, hV, hU⟩ := next_cases s.b
  have HX := veil hX
  have HR := veil hR
  have HV := veil hV
  have HU := veil hU
  have HG := veil hg
  have HS := veil hs
  have LS := veil ls
  have hsb := veil hs.hb
  have LX := veil lx
  have LY := veil ly
  have LZ := veil lz
  have LV12 := veil lv
  have hee : (E != E) = false := by simp
  have hff : (F != F) = false := by simp
  clear hX hR hV hU hg hs ls lx ly lz lv
  go_enter Tryz.func4, Tryz.ntmps4
  go_wp2_with fail
  refine (twin_own s w HS.out LS.out).mono ?_
  rintro e1 w1 ⟨gs, rfl, hts, hos, hb1⟩
  have B1 := veil hb1
  have S1 := veil (HS.out.below hb1)
  have TS1 := veil hts
  have OS1 := veil hos
  clear hb1 hts hos HS
  go_wp2_with fail
  refine (HX.out (twinS gs s.len s.b) w1 (TS1.out.ok hsb.out) rfl).mono ?_
  rintro e2 w2 ⟨a, b, c, d1, d2, d3, rfl, oa, ob, oc, ab, ac, bc, hb2⟩
  have B2 := veil (B1.out.trans (hb2.mono B1.out.size))
  have asa := veil (own_apart OS1.out oa)
  have asb := veil (own_apart OS1.out ob)
  have asc := veil (own_apart OS1.out oc)
  have Aab := veil ab
  have Aac := veil ac
  have Abc := veil bc
  have OA2 := veil oa
  have OB2 := veil ob
  have OC2 := veil oc
  have S2 := veil (S1.out.below hb2)
  have TS2 := veil (TS1.out.below hb2)
  have OS2 := veil (own_belowY OS1.out hb2)
  clear S1 TS1 OS1
  clear hb2 oa ob oc ab ac bc
  have d0 : Hid (Row (w2.alloc (.cells (keysC (ownV a nx d1) (ownV b ny d2) (ownV c nz d3)) 46)) w2.heap.size 46 (keysC (ownV a nx d1) (ownV b ny d2) (ownV c nz d3))) := row_alloc_new _ _ _ _
  go_wp2_with fail
  show Calls _ _ _ (w2.alloc (.cells (keysC (ownV a nx d1) (ownV b ny d2) (ownV c nz d3)) 46)) _
  obtain ⟨W2, hW2⟩ : ∃ W, W = w2.alloc (.cells (keysC (ownV a nx d1) (ownV b ny d2) (ownV c nz d3)) 46) := ⟨_, rfl⟩
  have hbA : Below w2.heap.size w2 W2 := by rw [hW2]; exact (Below.refl _ w2).alloc (Nat.le_refl _) _
  rw [← hW2] at d0 ⊢
  have R1x := d0
  have Bx := veil (B2.out.trans (hbA.mono B2.out.size))
  have Sx := veil (S2.out.below hbA)
  have TSx := veil (TS2.out.below hbA)
  have OSx := veil (own_belowY OS2.out hbA)
  have OAx := veil (own_belowY OA2.out hbA)
  have OBx := veil (own_belowY OB2.out hbA)
  have OCx := veil (own_belowY OC2.out hbA)
  clear S2 TS2 OS2 OA2 OB2 OC2
  obtain ⟨k1, hk1⟩ : ∃ k, w2.heap.size = k := ⟨_, rfl⟩
  rw [hk1] at R1x
  rw [hk1]
  have HK1 := veil (show w.heap.size ≤ k1 by rw [← hk1]; exact B2.out.size)
  clear d0 hbA hW2 hk1
  refine (HX.out (twinS gs s.len s.b) W2 (TSx.out.ok hsb.out) rfl).mono ?_
  rintro e3 w3 ⟨a', b', c', d1', d2', d3', rfl, oa, ob, oc, ab, ac, bc, hb3⟩
  have B3 := veil (Bx.out.trans (hb3.mono Bx.out.size))
  have asa' := veil (own_apart OSx.out oa)
  have asb' := veil (own_apart OSx.out ob)
  have asc' := veil (own_apart OSx.out oc)
  have aaa := veil (own_apart OAx.out oa)
  have aab := veil (own_apart OAx.out ob)
  have aac := veil (own_apart OAx.out oc)
  have aba := veil (own_apart OBx.out oa)
  have abb := veil (own_apart OBx.out ob)
  have abc := veil (own_apart OBx.out oc)
  have aca := veil (own_apart OCx.out oa)
  have acb := veil (own_apart OCx.out ob)
  have acc := veil (own_apart OCx.out oc)
  have Aab' := veil ab
  have Aac' := veil ac
  have Abc' := veil bc
  have PA3 := veil oa
  have PB3 := veil ob
  have PC3 := veil oc
  have S3 := veil (Sx.out.below hb3)
  have TS3 := veil (TSx.out.below hb3)
  have OS3 := veil (own_belowY OSx.out hb3)
  have OA3 := veil (own_belowY OAx.out hb3)
  have OB3 := veil (own_belowY OBx.out hb3)
  have OC3 := veil (own_belowY OCx.out hb3)
  have R13 := veil (R1x.out.below hb3 R1x.out.lt)
  clear Sx TSx OSx OAx OBx OCx R1x
  clear hb3 oa ob oc ab ac bc
  have d0 : Hid (Row (w3.alloc (.cells (keysC (ownV a' nx d1') (ownV b' ny d2') (ownV c' nz d3')) 46)) w3.heap.size 46 (keysC (ownV a' nx d1') (ownV b' ny d2') (ownV c' nz d3'))) := row_alloc_new _ _ _ _
  go_wp2_with fail
  show Calls _ _ _ (w3.alloc (.cells (keysC (ownV a' nx d1') (ownV b' ny d2') (ownV c' nz d3')) 46)) _
  obtain ⟨W3, hW3⟩ : ∃ W, W = w3.alloc (.cells (keysC (ownV a' nx d1') (ownV b' ny d2') (ownV c' nz d3')) 46) := ⟨_, rfl⟩
  have hbA : Below w3.heap.size w3 W3 := by rw [hW3]; exact (Below.refl _ w3).alloc (Nat.le_refl _) _
  rw [← hW3] at d0 ⊢
  have R2y := d0
  have By := veil (B3.out.trans (hbA.mono B3.out.size))
  have Sy := veil (S3.out.below hbA)
  have TSy := veil (TS3.out.below hbA)
  have OSy := veil (own_belowY OS3.out hbA)
  have OAy := veil (own_belowY OA3.out hbA)
  have OBy := veil (own_belowY OB3.out hbA)
  have OCy := veil (own_belowY OC3.out hbA)
  have R1y := veil (R13.out.below hbA R13.out.lt)
  have PAy := veil (own_belowY PA3.out hbA)
  have PBy := veil (own_belowY PB3.out hbA)
  have PCy := veil (own_belowY PC3.out hbA)
  clear S3 TS3 OS3 OA3 OB3 OC3 R13 PA3 PB3 PC3
  obtain ⟨k2, hk2⟩ : ∃ k, w3.heap.size = k := ⟨_, rfl⟩
  rw [hk2] at R2y
  rw [hk2]
  have HK2 := veil (show w.heap.size ≤ k2 by rw [← hk2]; exact B3.out.size)
  clear d0 hbA hW3 hk2
  refine (HV.out (twinS gs s.len s.b) W3 (TSy.out.ok hsb.out) rfl).mono ?_
  rintro e4 w4 ⟨n, dn, rfl, on, hb4⟩
  have B4 := veil (By.out.trans (hb4.mono By.out.size))
  have asn := veil (own_apart OSy.out on)
  have aan := veil (own_apart OAy.out on)
  have abn := veil (own_apart OBy.out on)
  have acn := veil (own_apart OCy.out on)
  have pan := veil (own_apart PAy.out on)
  have pbn := veil (own_apart PBy.out on)
  have pcn := veil (own_apart PCy.out on)
  have ON4 := veil on
  have S4 := veil (Sy.out.below hb4)
  have TS4 := veil (TSy.out.below hb4)
  have OS4 := veil (own_belowY OSy.out hb4)
  have OA4 := veil (own_belowY OAy.out hb4)
  have OB4 := veil (own_belowY OBy.out hb4)
  have OC4 := veil (own_belowY OCy.out hb4)
  have R14 := veil (R1y.out.below hb4 R1y.out.lt)
  have PA4 := veil (own_belowY PAy.out hb4)
  have PB4 := veil (own_belowY PBy.out hb4)
  have PC4 := veil (own_belowY PCy.out hb4)
  have R24 := veil (R2y.out.below hb4 R2y.out.lt)
  clear Sy TSy OSy OAy OBy OCy R1y PAy PBy PCy R2y
  clear hb4 on
  go_wp2_with fail
  refine (HR.out s w4 S4.out rfl).mono ?_
  rintro e5 w5 ⟨p, q, r, rfl, hp, hq, hr, hpb, hqb, hrb, hb5⟩
  have B5 := veil (B4.out.trans (hb5.mono B4.out.size))
  have QP5 := veil hp
  have QQ5 := veil hq
  have QR5 := veil hr
  have EP := veil hpb
  have EQ := veil hqb
  have ER := veil hrb
  have S5 := veil (S4.out.below hb5)
  have TS5 := veil (TS4.out.below hb5)
  have OS5 := veil (own_belowY OS4.out hb5)
  have OA5 := veil (own_belowY OA4.out hb5)
  have OB5 := veil (own_belowY OB4.out hb5)
  have OC5 := veil (own_belowY OC4.out hb5)
  have R15 := veil (R14.out.below hb5 R14.out.lt)
  have PA5 := veil (own_belowY PA4.out hb5)
  have PB5 := veil (own_belowY PB4.out hb5)
  have PC5 := veil (own_belowY PC4.out hb5)
  have R25 := veil (R24.out.below hb5 R24.out.lt)
  have ON5 := veil (own_belowY ON4.out hb5)
  clear S4 TS4 OS4 OA4 OB4 OC4 R14 PA4 PB4 PC4 R24 ON4
  clear hb5 hp hq hr hpb hqb hrb
  have d0 : Hid (Row (w5.alloc (.cells (keysC (.slice p.a p.len p.cap) (.slice q.a q.len q.cap) (.slice r.a r.len r.cap)) 46)) w5.heap.size 46 (keysC (.slice p.a p.len p.cap) (.slice q.a q.len q.cap) (.slice r.a r.len r.cap))) := row_alloc_new _ _ _ _
  go_wp2_with fail
  show Calls _ _ _ (w5.alloc (.cells (keysC (.slice p.a p.len p.cap) (.slice q.a q.len q.cap) (.slice r.a r.len r.cap)) 46)) _
  obtain ⟨W5, hW5⟩ : ∃ W, W = w5.alloc (.cells (keysC (.slice p.a p.len p.cap) (.slice q.a q.len q.cap) (.slice r.a r.len r.cap)) 46) := ⟨_, rfl⟩
  have hbA : Below w5.heap.size w5 W5 := by rw [hW5]; exact (Below.refl _ w5).alloc (Nat.le_refl _) _
  rw [← hW5] at d0 ⊢
  have R3z := d0
  have Bz := veil (B5.out.trans (hbA.mono B5.out.size))
  have Sz := veil (S5.out.below hbA)
  have TSz := veil (TS5.out.below hbA)
  have OSz := veil (own_belowY OS5.out hbA)
  have OAz := veil (own_belowY OA5.out hbA)
  have OBz := veil (own_belowY OB5.out hbA)
  have OCz := veil (own_belowY OC5.out hbA)
  have R1z := veil (R15.out.below hbA R15.out.lt)
  have PAz := veil (own_belowY PA5.out hbA)
  have PBz := veil (own_belowY PB5.out hbA)
  have PCz := veil (own_belowY PC5.out hbA)
  have R2z := veil (R25.out.below hbA R25.out.lt)
  have ONz := veil (own_belowY ON5.out hbA)
  have QPz := veil (QP5.out.below hbA)
  have QQz := veil (QQ5.out.below hbA)
  have QRz := veil (QR5.out.below hbA)
  clear S5 TS5 OS5 OA5 OB5 OC5 R15 PA5 PB5 PC5 R25 ON5 QP5 QQ5 QR5
  obtain ⟨k3, hk3⟩ : ∃ k, w5.heap.size = k := ⟨_, rfl⟩
  rw [hk3] at R3z
  rw [hk3]
  clear d0 hbA hW5 hk3
  refine (HU.out s W5 Sz.out rfl).mono ?_
  rintro e6 w6 ⟨m, rfl, hm, hmb, hb6⟩
  have B6 := veil (Bz.out.trans (hb6.mono Bz.out.size))
  have QM6 := veil hm
  have EM := veil hmb
  have S6 := veil (Sz.out.below hb6)
  have TS6 := veil (TSz.out.below hb6)
  have OS6 := veil (own_belowY OSz.out hb6)
  have OA6 := veil (own_belowY OAz.out hb6)
  have OB6 := veil (own_belowY OBz.out hb6)
  have OC6 := veil (own_belowY OCz.out hb6)
  have R16 := veil (R1z.out.below hb6 R1z.out.lt)
  have PA6 := veil (own_belowY PAz.out hb6)
  have PB6 := veil (own_belowY PBz.out hb6)
  have PC6 := veil (own_belowY PCz.out hb6)
  have R26 := veil (R2z.out.below hb6 R2z.out.lt)
  have ON6 := veil (own_belowY ONz.out hb6)
  have QP6 := veil (QPz.out.below hb6)
  have QQ6 := veil (QQz.out.below hb6)
  have QR6 := veil (QRz.out.below hb6)
  have R36 := veil (R3z.out.below hb6 R3z.out.lt)
  clear Sz TSz OSz OAz OBz OCz R1z PAz PBz PCz R2z ONz QPz QQz QRz R3z
  clear hb6 hm hmb
  have HSK : Hid (Calls Tryz.prog 18 #[.agg (keysC (ownV a nx d1) (ownV b ny d2) (ownV c nz d3)), .agg (keysC (.slice p.a p.len p.cap) (.slice q.a q.len q.cap) (.slice r.a r.len r.cap))] w6 fun e w' => e = .returned (.bool true) ∧ Below w6.heap.size w6 w') := by
    obtain ⟨x1, hv1, hl1, hq1, hok1, _⟩ := SL.of_own OA6.out
    obtain ⟨x2, hv2, hl2, hq2, hok2, _⟩ := SL.of_own OB6.out
    obtain ⟨x3, hv3, hl3, hq3, hok3, _⟩ := SL.of_own OC6.out
    have e1 : ownV a nx d1 = .slice x1.a x1.len x1.cap := hv1.symm
    have e2 : ownV b ny d2 = .slice x2.a x2.len x2.cap := hv2.symm
    have e3 : ownV c nz d3 = .slice x3.a x3.len x3.cap := hv3.symm
    rw [e1, e2, e3]
    have := LX.out
    have := LY.out
    have := LZ.out
    exact sameKeys_yes x1 x2 x3 p q r w6 hok1 hok2 hok3 QP6.out QQ6.out QR6.out (by rw [hq1, EP.out]) (by rw [hq2, EQ.out]) (by rw [hq3, ER.out]) (by omega) (by omega) (by omega)
  have HSM : Hid (∀ W, Below w6.heap.size w6 W → Calls Tryz.prog 10 #[ownV n nv dn, .slice m.a m.len m.cap] W fun e w' => e = .returned (.bool true) ∧ Below W.heap.size W w') := fun W hW => by
    obtain ⟨x1, hv1, hl1, hq1, hok1, _⟩ := SL.of_own ON6.out
    have e1 : ownV n nv dn = .slice x1.a x1.len x1.cap := hv1.symm
    rw [e1]
    have := LV12.out
    exact same_yesK x1 m W (hok1.below hW) (QM6.out.below hW) (by omega) (by rw [hq1, EM.out])
  have cA0 : w6.cell? ⟨k1, 0, none⟩ = some (ownV a nx d1) := R16.out.cell 0
  have cA1 : w6.cell? ⟨k1, 1, none⟩ = some (ownV b ny d2) := R16.out.cell 1
  have cA2 : w6.cell? ⟨k1, 2, none⟩ = some (ownV c nz d3) := R16.out.cell 2
  have cB0 : w6.cell? ⟨k3, 0, none⟩ = some (.slice p.a p.len p.cap) := R36.out.cell 0
  have cB1 : w6.cell? ⟨k3, 1, none⟩ = some (.slice q.a q.len q.cap) := R36.out.cell 1
  have cB2 : w6.cell? ⟨k3, 2, none⟩ = some (.slice r.a r.len r.cap) := R36.out.cell 2
  go_wp2_with fail
  refine HSK.out.mono ?_
  rintro e7 w7 ⟨rfl, hb7⟩
  have C7 := veil hb7
  clear hb7 HSK cA0 cA1 cA2 cB0 cB1 cB2
  go_wp2_with fail
  refine (HSM.out w7 C7.out).mono ?_
  rintro e8 w8 ⟨rfl, hb8⟩
  have C8 := veil (C7.out.trans (hb8.mono C7.out.size))
  clear hb8 HSM C7
  go_wp2_with fail
  refine (left_sl s gs w8 (S6.out.below C8.out) LS.out (TS6.out.below C8.out)).mono ?_
  rintro e9 w9 ⟨rfl, hb9⟩
  have C9 := veil (C8.out.trans (hb9.mono C8.out.size))
  have B9 := veil (B6.out.trans (C9.out.mono B6.out.size))
  have z1 := B1.out.size
  have zx := Bx.out.size
  have zy := By.out.size
  have RS := veil (RowW.of_own (own_belowY OS6.out C9.out))
  have RA := veil (RowW.of_own (own_low (own_belowY OA6.out C9.out) z1))
  have RB := veil (RowW.of_own (own_low (own_belowY OB6.out C9.out) z1))
  have RC := veil (RowW.of_own (own_low (own_belowY OC6.out C9.out) z1))
  have RPA := veil (RowW.of_own (own_low (own_belowY PA6.out C9.out) zx))
  have RPB := veil (RowW.of_own (own_low (own_belowY PB6.out C9.out) zx))
  have RPC := veil (RowW.of_own (own_low (own_belowY PC6.out C9.out) zx))
  have RN := veil (RowW.of_own (own_low (own_belowY ON6.out C9.out) zy))
  have RK1 := veil (row_three (R16.out.below C9.out R16.out.lt) HK1.out)
  have RK2 := veil (row_three (R26.out.below C9.out R26.out.lt) HK2.out)
  have KB0 := veil (KB.new w.heap.size w w9 B9.out.size B9.out 42)
  clear hb9 C8 C9 S6 TS6 OS6 OA6 OB6 OC6 PA6 PB6 PC6 ON6 R16 R26 R36 QP6 QQ6 QR6 QM6 z1 zx zy B1 B2 B3 B4 B5 B6 Bx By Bz
  go_wp2_with fail
  refine (KB0.out.tell (.slice (some ⟨gs, 0, none⟩) s.len (s.len + 1)) s.len _ (by simp) (RS.out.alloc _) (fun k e => (RS.out.lt k e).2) (fun p hp => by simp at hp)).mono ?_
  rintro e10 w10 ⟨rfl, kb1, hh1⟩
  have KB1 := veil kb1
  have HH1 := veil ((Holds.alloc w.heap.size w9.heap.size w9 (.cells bookZ 42)).trans hh1)
  clear kb1 hh1 KB0
  obtain ⟨c0, c1, c2⟩ := row_three_cells (HH1.out _ _ _ RK1.out (fun k e => (RK1.out.lt k e).2))
  go_wp2_with fail
  refine (KB1.out.keys (ownV a nx d1) (ownV b ny d2) (ownV c nz d3) nx ny nz _ _ _ (by simp) (HH1.out _ _ _ RA.out (fun k e => (RA.out.lt k e).2)) (HH1.out _ _ _ RB.out (fun k e => (RB.out.lt k e).2)) (HH1.out _ _ _ RC.out (fun k e => (RC.out.lt k e).2)) (fun k e => (RA.out.lt k e).2) (fun k e => (RB.out.lt k e).2) (fun k e => (RC.out.lt k e).2)
    (fun p hp => by
      simp only [List.nil_append, List.mem_cons, List.not_mem_nil, or_false] at hp
      subst hp
      exact asa.out)
    (fun p hp => by
      simp only [List.nil_append, List.mem_cons, List.not_mem_nil, or_false] at hp
      subst hp
      exact asb.out)
    (fun p hp => by
      simp only [List.nil_append, List.mem_cons, List.not_mem_nil, or_false] at hp
      subst hp
      exact asc.out)
    Aab.out Aac.out Abc.out).mono ?_
  rintro e11 w11 ⟨rfl, kb, hh⟩
  have KB2 := veil kb
  have HH2 := veil (HH1.out.trans hh)
  clear kb hh c0 c1 c2 KB1 HH1
  obtain ⟨c0, c1, c2⟩ := row_three_cells (HH2.out _ _ _ RK2.out (fun k e => (RK2.out.lt k e).2))
  go_wp2_with fail
  refine (KB2.out.keys (ownV a' nx d1') (ownV b' ny d2') (ownV c' nz d3') nx ny nz _ _ _ (by simp) (HH2.out _ _ _ RPA.out (fun k e => (RPA.out.lt k e).2)) (HH2.out _ _ _ RPB.out (fun k e => (RPB.out.lt k e).2)) (HH2.out _ _ _ RPC.out (fun k e => (RPC.out.lt k e).2)) (fun k e => (RPA.out.lt k e).2) (fun k e => (RPB.out.lt k e).2) (fun k e => (RPC.out.lt k e).2)
    (fun p hp => by
      simp only [List.nil_append, List.cons_append, List.mem_cons, List.not_mem_nil, or_false] at hp
      rcases hp with rfl | rfl | rfl | rfl
      · exact asa'.out
      · exact aaa.out
      · exact aba.out
      · exact aca.out)
    (fun p hp => by
      simp only [List.nil_append, List.cons_append, List.mem_cons, List.not_mem_nil, or_false] at hp
      rcases hp with rfl | rfl | rfl | rfl
      · exact asb'.out
      · exact aab.out
      · exact abb.out
      · exact acb.out)
    (fun p hp => by
      simp only [List.nil_append, List.cons_append, List.mem_cons, List.not_mem_nil, or_false] at hp
      rcases hp with rfl | rfl | rfl | rfl
      · exact asc'.out
      · exact aac.out
      · exact abc.out
      · exact acc.out)
    Aab'.out Aac'.out Abc'.out).mono ?_
  rintro e12 w12 ⟨rfl, kb, hh⟩
  have KB3 := veil kb
  have HH3 := veil (HH2.out.trans hh)
  clear kb hh c0 c1 c2 KB2 HH2
  go_wp2_with fail
  refine (KB3.out.tell (ownV n nv dn) nv _ (by simp) (HH3.out _ _ _ RN.out (fun k e => (RN.out.lt k e).2)) (fun k e => (RN.out.lt k e).2)
    (fun p hp => by
      simp only [List.nil_append, List.cons_append, List.mem_cons, List.not_mem_nil, or_false] at hp
      rcases hp with rfl | rfl | rfl | rfl | rfl | rfl | rfl
      · exact asn.out
      · exact aan.out
      · exact abn.out
      · exact acn.out
      · exact pan.out
      · exact pbn.out
      · exact pcn.out)).mono ?_
  rintro e13 w13 ⟨rfl, kb, hh⟩
  have KB4 := veil kb
  clear kb hh KB3 HH3
  go_wp2_with fail
  refine (KB4.out.apart (by simp) (by simp) (fun p hp => by
    simp only [List.nil_append, List.cons_append, List.mem_cons, List.not_mem_nil, or_false] at hp
    have h1 := LS.out
    have h2 := LX.out
    have h3 := LY.out
    have h4 := LZ.out
    have h5 := LV12.out
    rcases hp with rfl | rfl | rfl | rfl | rfl | rfl | rfl | rfl
    · show s.len ≤ _; omega
    · show nx ≤ _; omega
    · show ny ≤ _; omega
    · show nz ≤ _; omega
    · show nx ≤ _; omega
    · show ny ≤ _; omega
    · show nz ≤ _; omega
    · show nv ≤ _; omega)).mono ?_
  rintro e14 w14 ⟨rfl, hb14⟩
  have B14 := veil hb14
  clear hb14 KB4
  go_wp2_with fail
  refine (lives_any w14 (HG.out.below B14.out (Nat.le_refl _))).mono ?_
  rintro e15 w15 ⟨rfl, hb15⟩
  have B15 := veil (B14.out.trans (hb15.mono B14.out.size))
  clear hb15
  go_wp2_with fail
  go_ret
  exact ⟨rfl, B15.out⟩
end Go.Proofs.YtlicflmpakkccaaGreatDoor
