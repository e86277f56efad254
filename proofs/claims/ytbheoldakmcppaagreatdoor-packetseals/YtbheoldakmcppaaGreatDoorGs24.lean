/-
  Out of PkSealB, PkSeal.
-/
import Derived.Test.YtbheoldakmcppaaGreatDoorGs23
import Derived.Test.YtbheoldakmcppaaGreatDoorGs5

/-! What packet.Seal refuses with ErrArg. -/
namespace Go.Proofs.YtbheoldakmcppaaGreatDoor
open Go Go.RowKit

/-- The two boxes of a call of Seal. -/
def sw (h : HD) (k : KS) (w : World) : World := (w.alloc (.cells h.cells 25)).alloc (.cells k.cells 27)
structure SealW (h : HD) (k : KS) (w W : World) : Prop where
  bel : Below w.heap.size w W
  rh : Row W w.heap.size 25 h.cells
  rk : Row W (w.heap.size + 1) 27 k.cells
  hh : h.Ok W
  hk : k.Ok W
  hg : Glob W
  sz : w.heap.size + 2 ≤ W.heap.size
theorem SealW.start (h : HD) (k : KS) (w : World) (hh : h.Ok w) (hk : k.Ok w) (hg : Glob w) : SealW h k w (sw h k w) := by
  have b0 : Below w.heap.size w (sw h k w) := ((Below.refl _ w).alloc (Nat.le_refl _) _).alloc (by simp) _
  have e : (w.alloc (.cells h.cells 25)).heap.size = w.heap.size + 1 := by simp
  have rk : Row (sw h k w) (w.alloc (.cells h.cells 25)).heap.size 27 k.cells := Row.new _ _ _
  rw [e] at rk
  exact ⟨b0, (Row.new _ _ _).alloc _, rk, hh.below b0, hk.below b0, hg.below b0 (Nat.le_refl _), by have := rk.lt; omega⟩
theorem SealW.below {h : HD} {k : KS} {w W W' : World} (s : SealW h k w W) (hb : Below W.heap.size W W') : SealW h k w W' :=
  ⟨s.bel.trans (hb.mono s.bel.size), s.rh.below hb s.rh.lt, s.rk.below hb s.rk.lt, s.hh.below hb, s.hk.below hb, s.hg.below hb (Nat.le_refl _), Nat.le_trans s.sz hb.size⟩

set_option maxRecDepth 20000 in
set_option maxHeartbeats 2000000 in
theorem seal_bad (h : HD) (n : Int) (p : SL) (k : KS) (w : World) (hg : Glob w) (hh : h.Ok w) (hp : p.Ok w) (hk : k.Ok w) (hn1 : -9223372036854775808 ≤ n) (hn2 : n ≤ 9223372036854775807) (hbad : goodP h.ph n p.b k.key.b k.iv.b k.mask.b = false) :
    Calls Tryz.prog 7 #[.agg h.cells, .int .i64 n, .slice p.a p.len p.cap, .agg k.cells] w fun e w' => e = .returned (.tuple #[.slice none 0 0, .int .i64 1]) ∧ Below w.heap.size w w' := by
  have S0 := veil (SealW.start h k w hh hk hg)
  have HPB := veil hp.hb
  unfold goodP at hbad
  rw [hp.hb] at hbad
  have MC := veil (fun W hW => mayBe_any h W hW)
  have ZC := veil (fun W => maySize_any n W)
  have KC := veil (fun W hW => mayBeKeys_any k W hW)
  have HW : Hid ((w.alloc (.cells h.cells 25)).alloc (.cells k.cells 27) = sw h k w) := rfl
  obtain ⟨M, hM⟩ : ∃ M, mayP h.ph = M := ⟨_, rfl⟩
  obtain ⟨K, hK⟩ : ∃ K, keysP k.key.b k.iv.b k.mask.b = K := ⟨_, rfl⟩
  obtain ⟨Z, hZ⟩ : ∃ Z, (decide (1 ≤ n) && decide (n ≤ 4)) = Z := ⟨_, rfl⟩
  rw [hM] at MC hbad
  rw [hK] at KC hbad
  rw [hZ] at ZC hbad
  clear hM hK hg hh hp hk
  cases M
  · clear hbad hZ
    go_enter Tryz.func7, Tryz.ntmps7
    go_wp2_with (first
      | (with_reducible (show wpList _ _ _ (⟨some 17, Op.load 25 _, _, _, _, _⟩ :: _) _ _)
         rw [HW.out]
         refine wpList_load_row rfl 25 _ rfl w.heap.size rfl 25 h.cells (0, 0) _ S0.out.rh Tryz.underlying25 rfl (by rfl) ?_))
    refine (MC.out _ S0.out.hh).mono ?_
    rintro e1 w1 ⟨rfl, hb1⟩
    have S1 := veil (S0.out.below hb1)
    clear hb1
    go_wp2_with fail
    go_ret2
    exact ⟨rfl, S1.out.bel⟩
  · cases Z
    · clear hbad hZ
      go_enter Tryz.func7, Tryz.ntmps7
      go_wp2_with (first
        | (with_reducible (show wpList _ _ _ (⟨some 17, Op.load 25 _, _, _, _, _⟩ :: _) _ _)
           rw [HW.out]
           refine wpList_load_row rfl 25 _ rfl w.heap.size rfl 25 h.cells (0, 0) _ S0.out.rh Tryz.underlying25 rfl (by rfl) ?_))
      refine (MC.out _ S0.out.hh).mono ?_
      rintro e1 w1 ⟨rfl, hb1⟩
      have S1 := veil (S0.out.below hb1)
      clear hb1
      go_wp2_with fail
      refine (ZC.out _).mono ?_
      rintro e2 w2 ⟨rfl, rfl⟩
      go_wp2_with fail
      go_ret2
      exact ⟨rfl, S1.out.bel⟩
    · have hn : 1 ≤ n ∧ n ≤ 4 := by
        rw [Bool.and_eq_true] at hZ
        exact ⟨of_decide_eq_true hZ.1, of_decide_eq_true hZ.2⟩
      clear hZ
      by_cases hs : (1 : Nat) ≤ p.len ∧ 4 - n ≤ (p.len : Int)
      · rw [decide_eq_true hs.1, decide_eq_true hs.2] at hbad
        obtain rfl : K = false := by cases K <;> simp_all
        obtain ⟨hs1, hs2⟩ := hs
        obtain ⟨hna, hnb⟩ := hn
        clear hbad
        by_cases hn3 : n ≤ 3
        · have hmx : (1 : Int) ≤ 4 - n := by omega
          have HLD : Hid (decide ((p.len : Int) < 4 - n) = false) := decide_eq_false (by omega)
          have HLD1 : Hid (decide ((p.len : Int) < 1) = false) := decide_eq_false (by omega)
          go_enter Tryz.func7, Tryz.ntmps7
          go_wp2_with (first
            | (with_reducible (show wpList _ _ _ (⟨some 17, Op.load 25 _, _, _, _, _⟩ :: _) _ _)
               rw [HW.out]
               refine wpList_load_row rfl 25 _ rfl w.heap.size rfl 25 h.cells (0, 0) _ S0.out.rh Tryz.underlying25 rfl (by rfl) ?_))
          refine (MC.out _ S0.out.hh).mono ?_
          rintro e1 w1 ⟨rfl, hb1⟩
          have S1 := veil (S0.out.below hb1)
          clear hb1
          go_wp2_with fail
          refine (ZC.out _).mono ?_
          rintro e2 w2 ⟨rfl, rfl⟩
          have k0 := KS.c0 S1.out.rk
          have k1 := KS.c1 S1.out.rk
          have k2 := KS.c2 S1.out.rk
          go_wp2_with fail
          all_goals
            clear k0 k1 k2
            refine (KC.out _ S1.out.hk).mono ?_
            rintro e3 w3 ⟨rfl, hb3⟩
            have S3 := veil (S1.out.below hb3)
            clear hb3
            go_wp2_with fail
            go_ret2
            exact ⟨rfl, S3.out.bel⟩
        · obtain rfl : n = 4 := by omega
          have HLD : Hid (decide ((p.len : Int) < 1) = false) := decide_eq_false (by omega)
          have HLD1 : Hid (decide ((p.len : Int) < 1) = false) := decide_eq_false (by omega)
          go_enter Tryz.func7, Tryz.ntmps7
          go_wp2_with (first
            | (with_reducible (show wpList _ _ _ (⟨some 17, Op.load 25 _, _, _, _, _⟩ :: _) _ _)
               rw [HW.out]
               refine wpList_load_row rfl 25 _ rfl w.heap.size rfl 25 h.cells (0, 0) _ S0.out.rh Tryz.underlying25 rfl (by rfl) ?_))
          refine (MC.out _ S0.out.hh).mono ?_
          rintro e1 w1 ⟨rfl, hb1⟩
          have S1 := veil (S0.out.below hb1)
          clear hb1
          go_wp2_with fail
          refine (ZC.out _).mono ?_
          rintro e2 w2 ⟨rfl, rfl⟩
          have k0 := KS.c0 S1.out.rk
          have k1 := KS.c1 S1.out.rk
          have k2 := KS.c2 S1.out.rk
          go_wp2_with fail
          all_goals
            clear k0 k1 k2
            refine (KC.out _ S1.out.hk).mono ?_
            rintro e3 w3 ⟨rfl, hb3⟩
            have S3 := veil (S1.out.below hb3)
            clear hb3
            go_wp2_with fail
            go_ret2
            exact ⟨rfl, S3.out.bel⟩
      · clear hbad
        obtain ⟨hna, hnb⟩ := hn
        by_cases hn3 : n ≤ 3
        · have hmx : (1 : Int) ≤ 4 - n := by omega
          have hs' : (p.len : Int) < 4 - n := by omega
          clear hs
          go_enter Tryz.func7, Tryz.ntmps7
          go_wp2_with (first
            | (with_reducible (show wpList _ _ _ (⟨some 17, Op.load 25 _, _, _, _, _⟩ :: _) _ _)
               rw [HW.out]
               refine wpList_load_row rfl 25 _ rfl w.heap.size rfl 25 h.cells (0, 0) _ S0.out.rh Tryz.underlying25 rfl (by rfl) ?_))
          refine (MC.out _ S0.out.hh).mono ?_
          rintro e1 w1 ⟨rfl, hb1⟩
          have S1 := veil (S0.out.below hb1)
          clear hb1
          go_wp2_with fail
          refine (ZC.out _).mono ?_
          rintro e2 w2 ⟨rfl, rfl⟩
          go_wp2_with fail
          all_goals
            go_ret2
            exact ⟨rfl, S1.out.bel⟩
        · obtain rfl : n = 4 := by omega
          have hs' : (p.len : Int) < 1 := by omega
          clear hs
          go_enter Tryz.func7, Tryz.ntmps7
          go_wp2_with (first
            | (with_reducible (show wpList _ _ _ (⟨some 17, Op.load 25 _, _, _, _, _⟩ :: _) _ _)
               rw [HW.out]
               refine wpList_load_row rfl 25 _ rfl w.heap.size rfl 25 h.cells (0, 0) _ S0.out.rh Tryz.underlying25 rfl (by rfl) ?_))
          refine (MC.out _ S0.out.hh).mono ?_
          rintro e1 w1 ⟨rfl, hb1⟩
          have S1 := veil (S0.out.below hb1)
          clear hb1
          go_wp2_with fail
          refine (ZC.out _).mono ?_
          rintro e2 w2 ⟨rfl, rfl⟩
          go_wp2_with fail
          all_goals
            go_ret2
            exact ⟨rfl, S1.out.bel⟩
end Go.Proofs.YtbheoldakmcppaaGreatDoor

/-! What packet.Seal answers. Written by mkseal13.py. -/
namespace Go.Proofs.YtbheoldakmcppaaGreatDoor
open Go Go.RowKit

theorem run_load_st {P : Program} {a : Act} {o : Oper} (ty : TypeId) (x : Operand) (ho : o.op = .load ty x) (g : Nat) (hx : a.eval x = .pointer (some ⟨g, 0, none⟩)) (t : TypeId) (cs : Array Value) (n : Nat) (fs : Array Field)
    (hu : P.underlying ty = some (.struct fs)) (hi : (P.info? ty).map (·.size) = some n) (hc : cs.size = n) (W : World) (hg : Row W g t cs) : (execOp a.eval o).run P W = .ok (.value (.agg cs)) W := by
  unfold execOp
  simp only [ho, hx, Instr.loadAt, Instr.sureAddr, Sem.run_bind, Sem.run_pure, Result.andThen_ok, run_loadVar_row W g t ty cs (0, 0) _ hg hu rfl (by rw [hc]; exact hi)]
theorem own_someB {w : World} {B n : Nat} {v : Value} {xs : List Value} (h : w.ownsRow B 5 1 v n xs) (hn : 0 < n) : ∃ g c, v = .slice (some ⟨g, 0, none⟩) n c ∧ n ≤ c := by
  rcases h.2 with ⟨_, rfl⟩ | ⟨g, cap, cur, e, _, _, h6, _⟩
  · exact absurd hn (Nat.lt_irrefl _)
  · exact ⟨g, cap, e, h6⟩
theorem samp4_eq (b : List By) (s : Nat) : samp4 (b.drop s) = sampL b s := by
  unfold samp4 sampL
  rw [List.drop_take, List.drop_drop]
theorem gb_take5 (B : List By) (j : Nat) (h : j < 5) : gb (B.take 5) j = gb B j := by
  unfold gb
  rw [List.getElem?_take, if_pos h]
theorem covTo_take (xs : List By) (s n : Nat) (c : By) (B : List By) (hn : n ≤ 4) : covTo xs s n c (B.take 5) = covTo xs s n c B := by
  unfold covTo
  apply List.map_congr_left
  intro j _
  split
  · rw [gb_take5 _ _ (by omega)]
  · split
    · rw [gb_take5 _ _ (by omega)]
    · rfl
theorem long_first (l p : Bool) (n : Nat) (h1 : 1 ≤ n) (h4 : n ≤ 4) : longB (firstB l p n) = l := by
  have h : n = 1 ∨ n = 2 ∨ n = 3 ∨ n = 4 := by omega
  rcases h with rfl | rfl | rfl | rfl <;> cases l <;> cases p <;> rfl
theorem bare_first (h : PH) (n : Nat) (p key iv : List By) : gb (bareL h n p key iv) 0 = firstB h.long h.phase n := by
  unfold bareL headL preL gb
  cases h.long <;> rfl
def depS : Nat → List Nat
  | 2 => [0, 1]
  | 4 => [2, 3]
  | 5 => [4]
  | 6 => [5]
  | 7 => [5]
  | 8 => [6]
  | 9 => [7]
  | _ => []
def valS13 (k : KS) (v : Value) (s : Nat) (c : SL) (B : List By) (S : Nat) : Nat → World → Value → Prop
  | 0, _, u => u = v
  | 1, _, u => u = .int .i64 (s : Int)
  | 2, _, u => u = .slice c.a c.len c.cap
  | 3, _, u => u = .agg k.cells
  | 4, W, u => ∃ g, u = .tuple #[.slice (some ⟨g, 0, none⟩) 5 5, .int .i64 0] ∧ S ≤ g ∧ Row W g 187 (bs B)
  | 5, W, u => ∃ g, u = .tuple #[.slice (some ⟨g, 0, none⟩) 5 5, .int .i64 0] ∧ S ≤ g ∧ Row W g 187 (bs B)
  | 6, W, u => ∃ g, u = .slice (some ⟨g, 0, none⟩) 5 5 ∧ S ≤ g ∧ Row W g 187 (bs B)
  | 7, _, u => u = .int .i64 0
  | 8, W, u => ∃ g, u = .slice (some ⟨g, 0, none⟩) 5 5 ∧ S ≤ g ∧ Row W g 187 (bs B)
  | 9, _, u => u = .int .i64 0
  | _, _, _ => True
theorem valS13_mono {k : KS} {v : Value} {s : Nat} {c : SL} {B : List By} {S : Nat} : ∀ (j : Nat) (W W' : World) (u : Value), Below W.heap.size W W' → valS13 k v s c B S j W u → valS13 k v s c B S j W' u
  | 0, _, _, _, _, h => h
  | 1, _, _, _, _, h => h
  | 2, _, _, _, _, h => h
  | 3, _, _, _, _, h => h
  | 4, _, _, _, hb, ⟨g, h1, h2, h3⟩ => ⟨g, h1, h2, h3.below hb h3.lt⟩
  | 5, _, _, _, hb, ⟨g, h1, h2, h3⟩ => ⟨g, h1, h2, h3.below hb h3.lt⟩
  | 6, _, _, _, hb, ⟨g, h1, h2, h3⟩ => ⟨g, h1, h2, h3.below hb h3.lt⟩
  | 7, _, _, _, _, h => h
  | 8, _, _, _, hb, ⟨g, h1, h2, h3⟩ => ⟨g, h1, h2, h3.below hb h3.lt⟩
  | 9, _, _, _, _, h => h
  | _ + 10, _, _, _, _, _ => trivial

set_option maxRecDepth 20000 in
set_option maxHeartbeats 4000000 in
theorem seal_good (h : HD) (n : Nat) (p : SL) (k : KS) (w : World) (hg : Glob w) (hh : h.Ok w) (hp : p.Ok w) (hk : k.Ok w) (hpl : p.len ≤ 140737488351232) (hgood : goodP h.ph n p.b k.key.b k.iv.b k.mask.b = true) :
    Calls Tryz.prog 7 #[.agg h.cells, .int .i64 (n : Int), .slice p.a p.len p.cap, .agg k.cells] w fun e w' => ∃ v, e = .returned (.tuple #[v, .int .i64 (packE h.ph n p.b k.key.b k.iv.b k.mask.b)]) ∧ w'.ownsRow w.heap.size 5 1 v (packO h.ph n p.b k.key.b k.iv.b k.mask.b).length (vb (packO h.ph n p.b k.key.b k.iv.b k.mask.b)) ∧ Below w.heap.size w w' := by
  obtain ⟨i0, hi, hz0, hz1, hz2⟩ := info_parts (P := Tryz.prog) (e := 5) (z := .int .u8 0) (size := 1) (bytes := 1) (by kernel_rfl)
  have S0 := veil (SealW.start h k w hh hk hg)
  have HPB := veil hp.hb
  have HW : Hid ((w.alloc (.cells h.cells 25)).alloc (.cells k.cells 27) = sw h k w) := rfl
  have hg2 := hgood
  unfold goodP at hg2
  simp only [Bool.and_eq_true, decide_eq_true_eq] at hg2
  obtain ⟨⟨⟨hM, hna, hnb⟩, hp1, hp4⟩, hK⟩ := hg2
  rw [hp.hb] at hp1 hp4
  have hM2 := hM
  unfold mayP HD.ph at hM2
  simp only [Bool.and_eq_true, decide_eq_true_eq] at hM2
  obtain ⟨⟨⟨ht, hf⟩, hx⟩, _⟩ := hM2
  rw [hh.tu.hb] at ht
  rw [hh.fr.hb] at hf
  have hK2 := hK
  unfold keysP at hK2
  simp only [Bool.and_eq_true, decide_eq_true_eq] at hK2
  obtain ⟨⟨hk1, hk2⟩, hk3⟩ := hK2
  rw [hk.key.hb] at hk1
  rw [hk.iv.hb] at hk2
  rw [hk.mask.hb] at hk3
  have hn1 : 1 ≤ n := by omega
  have hn4 : n ≤ 4 := by omega
  have hZ : (decide (1 ≤ (n : Int)) && decide ((n : Int) ≤ 4)) = true := by rw [decide_eq_true hna, decide_eq_true hnb]; rfl
  have mc := fun W hW => mayBe_any h W hW
  have zc := fun W => maySize_any n W
  have kc := fun W hW => mayBeKeys_any k W hW
  rw [hM] at mc
  rw [hZ] at zc
  rw [hK] at kc
  have MC := veil mc
  have ZC := veil zc
  have KC := veil kc
  have HE := veil (show packE h.ph n p.b k.key.b k.iv.b k.mask.b = if (headL h.ph n (n + p.b.length + 16)).length + (p.b.length + 16) ≤ 1200 then 0 else 3 by unfold packE; rw [hgood, if_pos rfl, Int.toNat_natCast])
  obtain ⟨R, hR⟩ : ∃ R, n + p.b.length + 16 = R := ⟨_, rfl⟩
  have hRi : (n : Int) + (p.len : Int) + 16 = (R : Int) := by have := hp.hb; omega
  have LC := veil (fun W hW => laid_any h n R W hW hn1 hn4 ht hf (by omega))
  obtain ⟨L, hL⟩ : ∃ L, (headL h.ph n R).length = L := ⟨_, rfl⟩
  have hLr : (preL h.ph n R).length + n = L := by rw [← hL, headL_length]
  have hpre := preL_length h.ph n R
  have hph : h.ph.tu.length = h.tu.len ∧ h.ph.fr.length = h.fr.len := ⟨hh.tu.hb, hh.fr.hb⟩
  have hs1 : 1 ≤ (preL h.ph n R).length := by rw [hpre]; split <;> omega
  have hL60 : L ≤ 60 := by
    rw [← hLr, hpre, hph.1, hph.2]
    split <;> omega
  have HP0 := veil hp
  have HXN := veil hx
  have HK1 := veil hk1
  have HK2 := veil hk2
  have HK3 := veil hk3
  have HP1 := veil hp1
  have HN1 := veil hn1
  have HN4 := veil hn4
  have HS1 := veil hs1
  have HLR := veil hLr
  have HL := veil hL
  have HR := veil hR
  have HPL := veil hpl
  rw [hR] at HE
  rw [hL] at HE
  rw [hp.hb] at HE
  have hp4' : (4 : Int) - n ≤ p.len := hp4
  have hmx : (1 : Int) ≤ p.len := by omega
  have hh0 := hh
  clear hg hh hp hk hgood hM hK ht hf hx hk1 hk2 hk3 mc zc kc hpre hph hs1 hL hLr hR hZ hh0 hpl hp1 hp4
  have HP4 := veil hp4'
  have HMX := veil hmx
  have hd1 : ¬ ((p.len : Int) < 4 - (n : Int)) := by omega
  have hd2 : ¬ ((p.len : Int) < 1) := by omega
  go_enter Tryz.func7, Tryz.ntmps7
  go_wp2_with (first
    | (with_reducible (show wpList _ _ _ (⟨some 17, Op.load 25 _, _, _, _, _⟩ :: _) _ _)
       rw [HW.out]
       refine wpList_load_row rfl 25 _ rfl w.heap.size rfl 25 h.cells (0, 0) _ S0.out.rh Tryz.underlying25 rfl (by rfl) ?_))
  refine (MC.out _ S0.out.hh).mono ?_
  rintro e1 w1 ⟨rfl, hb1⟩
  have S1 := veil (S0.out.below hb1)
  clear hb1 MC S0 HW
  go_wp2_with fail
  refine (ZC.out _).mono ?_
  rintro e2 w2 ⟨rfl, hw2⟩
  obtain rfl : w2 = w1 := hw2
  have k0 := KS.c0 S1.out.rk
  have k1 := KS.c1 S1.out.rk
  have k2 := KS.c2 S1.out.rk
  clear ZC
  go_wp2_with fail
  all_goals
    clear k0 k1 k2 hd1 hd2
    refine (KC.out _ S1.out.hk).mono ?_
    rintro e3 w3 ⟨rfl, hb3⟩
    have S3 := veil (S1.out.below hb3)
    have hpl2 := HPL.out
    clear hb3 KC S1
    go_wp2_with (first
      | (with_reducible (show wpList _ _ _ (⟨some 38, Op.load 25 _, _, _, _, _⟩ :: _) _ _)
         refine wpList_load_row rfl 25 _ rfl w.heap.size rfl 25 h.cells (0, 0) _ S3.out.rh Tryz.underlying25 rfl (by rfl) ?_))
    refine (LC.out _ S3.out.hh).mono ?_
    rintro e4 w4 ⟨v4, rfl, own4, hb4⟩
    rw [HL.out] at own4
    obtain ⟨g, c4, rfl, hc4⟩ := own_someB own4 (by have := HLR.out; have := HN1.out; omega)
    have D4 := veil hb4
    have O4 := veil own4
    have S4 := veil (S3.out.below hb4)
    have HC4 := veil hc4
    clear own4 hb4 LC hc4
    by_cases hlim : L + (p.len + 16) ≤ 1200
    · have hlt : (p.len : Int) ≤ 1184 - (L : Int) := by omega
      have k1 := KS.c1 S4.out.rk
      have h3 := HD.c3 S4.out.rh
      go_wp2_with fail
      clear k1 h3
      refine (nonce_any k.iv h.num w4 S4.out.hk.iv HK2.out HXN.out).mono ?_
      rintro e5 w5 ⟨gn, rfl, _, rN, hb5⟩
      have D5 := veil (D4.out.trans (hb5.mono D4.out.size))
      have S5 := veil (S4.out.below hb5)
      have O5 := veil (own_below O4.out hb5)
      have QN5 := veil (rowN_ok (n := 12) rN (nonceL_length _ _))
      clear rN hb5 D4 S4 O4
      have k0 := KS.c0 S5.out.rk
      go_wp2_with fail
      clear k0
      refine (seal_any k.key (rowN gn 12 (nonceL k.iv.b h.num)) p ⟨some ⟨g, 0, none⟩, L, c4, g, 0, headL h.ph n R⟩ w5 S5.out.hg S5.out.hk.key QN5.out (HP0.out.below (S5.out.bel.mono (Nat.le_refl _))) (own_okB O5.out)).mono ?_
      rintro e6 w6 ⟨a6, c6, rfl, own6, hb6⟩
      obtain ⟨hsE, hsO⟩ := seal_fine (k := k.key.b) (n := (rowN gn 12 (nonceL k.iv.b h.num)).b) (p := p.b) (b := headL h.ph n R) ⟨by rw [S5.out.hk.key.hb]; exact HK1.out, nonceL_length _ _⟩ ⟨by rw [HPB.out]; omega, by rw [HL.out]; omega⟩
      simp only [rowN] at hsE hsO own6 ⊢
      rw [hsO] at own6
      rw [hsE, hsO]
      have hsl : (sealL k.key.b (nonceL k.iv.b h.num) p.b (headL h.ph n R)).length = p.len + 16 := by rw [sealL_length, HPB.out]
      rw [hsl] at own6
      rw [hsl]
      have D6 := veil (D5.out.trans (hb6.mono D5.out.size))
      have S6 := veil (S5.out.below hb6)
      have O6 := veil (own_below O5.out hb6)
      obtain ⟨gs, cs6, hv6, hcs6⟩ := own_someB own6 (by omega)
      injection hv6 with e1 e2 e3
      subst e1 e3
      have Q6 := veil (own_okB own6)
      have Z6 := veil D6.out.size
      clear hb6 own6 hsE hsO D5 S5 O5 QN5 hsl e2 hcs6
      obtain ⟨s, hs⟩ : ∃ s, (preL h.ph n R).length = s := ⟨_, rfl⟩
      have hat : (L : Int) - (n : Int) = (s : Int) := by have := HLR.out; omega
      have HS := veil hs
      clear hs
      go_wp2_with (first
        | (with_reducible (show wpList _ _ _ (⟨some 77, Op.call _, _, _, _, _⟩ :: _) _ _)
           refine append_sl rfl _ _ 22 rfl w3.heap.size i0 Tryz.underlying22 hi hz0 hz1 hz2 _ L _ rfl O6.out ⟨some ⟨gs, 0, none⟩, p.len + 16, c6, gs, 0, sealL k.key.b (nonceL k.iv.b h.num) p.b (headL h.ph n R)⟩ Q6.out rfl (by show L + (p.len + 16) ≤ 8388608; omega) Z6.out ?_
           intro v9 w9 own9 grow9
           have D9 := veil (D6.out.grown grow9 Z6.out (fun q e => (O6.out.lt q e).1))
           have O9 := veil own9
           clear own9 grow9 D6 S6 O6 Q6 Z6))
      obtain ⟨N, hN⟩ : ∃ N, L + (p.len + 16) = N := ⟨_, rfl⟩
      have O9' : Hid (w9.ownsRow w3.heap.size 5 1 v9 N (vb (headL h.ph n R ++ sealL k.key.b (nonceL k.iv.b h.num) p.b (headL h.ph n R)))) := by rw [← hN]; exact O9.out
      obtain ⟨X, hX⟩ : ∃ X, headL h.ph n R ++ sealL k.key.b (nonceL k.iv.b h.num) p.b (headL h.ph n R) = X := ⟨_, rfl⟩
      rw [hX] at O9'
      obtain ⟨g9, c9, rfl, hc9⟩ := own_someB O9'.out (by omega)
      have hXl : X.length = N := by
        have := O9'.out.1
        unfold vb at this
        simpa using this
      have hsn : s + n = L := by have := HLR.out; rw [HS.out] at this; exact this
      have S9 := veil (S3.out.below D9.out)
      obtain ⟨c, hcut, ⟨hcl, hcb⟩, hcok, _⟩ := cut_lo ⟨some ⟨g9, 0, none⟩, N, c9, g9, 0, X⟩ w9 (own_okB O9'.out) s (by show s ≤ N; omega)
      have HC := veil (hcok _ (own_okB O9'.out))
      have HCL := veil (show 20 ≤ c.len by have : c.len = N - s := hcl; have := HP4.out; have := HMX.out; have := HN1.out; omega)
      have HCU := veil hcut
      have hcb' : c.b = X.drop s := hcb
      obtain ⟨MB, hMB⟩ : ∃ B, blockL k.mask.b (countL (samp4 c.b)) ((samp4 c.b).drop 4) = B := ⟨_, rfl⟩
      have HMB := veil hMB
      have HCB := veil hcb'
      have HX := veil hX
      have HXL := veil hXl
      have HN := veil hN
      have HSN := veil hsn
      have HC9 := veil hc9
      clear hcut hcl hcb hcok hcb' hMB hX hXl hsn O9 hN hc9
      refine (wpIn_wide (n := 4)).1 ?_
      refine wpIn_region_any (by kernel_rfl) ?_
      refine anyIn_genS (w0 := w9) (valS13 k (.slice (some ⟨g9, 0, none⟩) N c9) s c MB w9.heap.size) valS13_mono [83, 84, 85, 86, 87, 82, 88, 89, 16, 12] depS (by kernel_rfl) rfl (by decide) ((Below.refl _ _).drew) ?step ?done
      case step =>
        intro x W i e hW hdi hdep
        match i, hdi, hdep with
        | 0, hdi, _ =>
          obtain rfl := Option.some.inj hdi
          exact OI_value rfl rfl (about_none (by intro c h; cases h)) (by intro c h; cases h) (.slice (some ⟨g9, 0, none⟩) N c9) W (by kernel_rfl) ⟨_, rfl, Below.refl _ _, rfl⟩
        | 1, hdi, _ =>
          obtain rfl := Option.some.inj hdi
          exact OI_value rfl rfl (about_none (by intro c h; cases h)) (by intro c h; cases h) (.int .i64 (s : Int)) W (by kernel_rfl) ⟨_, rfl, Below.refl _ _, rfl⟩
        | 2, hdi, hdep =>
          obtain rfl := Option.some.inj hdi
          rw [updV_self (show x 0 = _ from hdep 0 (by simp [depS])), updV_self (show (updV x 0 _) 1 = _ from hdep 1 (by simp [depS]))]
          exact OI_value rfl rfl (about_none (by intro c h; cases h)) (by intro c h; cases h) (.slice c.a c.len c.cap) W (run_sliceOp _ _ _ _ _ rfl _ _ _ _ (by kernel_rfl) (by kernel_rfl) (by kernel_rfl) (by kernel_rfl) _ W (HCU.out W)) ⟨_, rfl, Below.refl _ _, rfl⟩
        | 3, hdi, _ =>
          obtain rfl := Option.some.inj hdi
          exact OI_value rfl rfl (about_none (by intro c h; cases h)) (by intro c h; cases h) (.agg k.cells) W (run_load_st 27 _ rfl (w.heap.size + 1) (by kernel_rfl) 27 k.cells 3 _ Tryz.underlying27 (by kernel_rfl) rfl W (S9.out.rk.below hW S9.out.rk.lt)) ⟨_, rfl, Below.refl _ _, rfl⟩
        | 4, hdi, hdep =>
          obtain rfl := Option.some.inj hdi
          rw [updV_self (show x 2 = _ from hdep 2 (by simp [depS])), updV_self (show updV x 2 _ 3 = _ from hdep 3 (by simp [depS]))]
          refine OI_call rfl rfl (by intro c h; cases h) 24 #[.slice c.a c.len c.cap, .agg k.cells] (fun _ _ => trivial) (by kernel_rfl) (by decide) ?_
          refine (callsIn_wide.2 (maskOf_any c k W (S9.out.hg.below hW (Nat.le_refl _)) (HC.out.below hW) (S9.out.hk.below hW) HCL.out HK3.out)).mono ?_
          rintro e w' ⟨gm, rfl, hgl, rg, hb'⟩
          rw [HMB.out] at rg
          exact ⟨_, rfl, _, rfl, hb', ⟨gm, rfl, Nat.le_trans hW.size hgl, rg⟩⟩
        | 5, hdi, hdep =>
          obtain rfl := Option.some.inj hdi
          obtain ⟨gm, e4, h1, h2⟩ := hdep 4 (by simp [depS])
          rw [updV_self (show x 4 = _ from e4)]
          exact OI_value rfl rfl (about_none (by intro c h; cases h)) (by intro c h; cases h) (.tuple #[.slice (some ⟨gm, 0, none⟩) 5 5, .int .i64 0]) W (by kernel_rfl) ⟨_, rfl, Below.refl _ _, ⟨gm, rfl, h1, h2⟩⟩
        | 6, hdi, hdep =>
          obtain rfl := Option.some.inj hdi
          obtain ⟨gm, e4, h1, h2⟩ := hdep 5 (by simp [depS])
          rw [updV_self (show x 5 = _ from e4)]
          exact OI_value rfl rfl (about_none (by intro c h; cases h)) (by intro c h; cases h) (.slice (some ⟨gm, 0, none⟩) 5 5) W (by kernel_rfl) ⟨_, rfl, Below.refl _ _, ⟨gm, rfl, h1, h2⟩⟩
        | 7, hdi, hdep =>
          obtain rfl := Option.some.inj hdi
          obtain ⟨gm, e4, h1, h2⟩ := hdep 5 (by simp [depS])
          rw [updV_self (show x 5 = _ from e4)]
          exact OI_value rfl rfl (about_none (by intro c h; cases h)) (by intro c h; cases h) (.int .i64 0) W (by kernel_rfl) ⟨_, rfl, Below.refl _ _, rfl⟩
        | 8, hdi, hdep =>
          obtain rfl := Option.some.inj hdi
          obtain ⟨gm, e4, h1, h2⟩ := hdep 6 (by simp [depS])
          rw [updV_self (show x 6 = _ from e4)]
          exact OI_value rfl rfl (about_none (by intro c h; cases h)) (by intro c h; cases h) (.slice (some ⟨gm, 0, none⟩) 5 5) W (by kernel_rfl) ⟨_, rfl, Below.refl _ _, ⟨gm, rfl, h1, h2⟩⟩
        | 9, hdi, hdep =>
          obtain rfl := Option.some.inj hdi
          rw [updV_self (show x 7 = _ from hdep 7 (by simp [depS]))]
          exact OI_value rfl rfl (about_none (by intro c h; cases h)) (by intro c h; cases h) (.int .i64 0) W (by kernel_rfl) ⟨_, rfl, Below.refl _ _, rfl⟩
        | _ + 10, hdi, _ => simp at hdi
      case done =>
        intro x W hW hx
        obtain ⟨gm, e8, hgm, rM⟩ := hx 8 (by decide)
        have e9 : x 9 = .int .i64 0 := hx 9 (by decide)
        simp only [putsV, Act.put, List.setIfInBounds_toArray, List.set_cons_succ, List.set_cons_zero, Nat.reduceAdd, e8, e9]
        generalize x 0 = z0, x 1 = z1, x 2 = z2, x 3 = z3, x 4 = z4, x 5 = z5, x 6 = z6, x 7 = z7
        have D10 := veil (D9.out.trans (hW.mono D9.out.size))
        have O10 := veil (own_below O9'.out hW)
        have RM := veil rM
        have HGM := veil hgm
        have HWS := veil hW.size
        have hLc : L ≤ c9 := by have := HC9.out; have := HN.out; omega
        clear hx e8 e9 rM hgm hW
        go_wp2_with fail
        refine (cover_any w3.heap.size g9 N c9 L s n gm X MB W O10.out RM.out (by rw [← HMB.out]; exact blockL_length _ _ _) (by have := (O9'.out.lt g9 rfl).2; have := HGM.out; omega) D10.out.size (by have := HN.out; omega) HSN.out (by have := HS1.out; rw [HS.out] at this; exact this) HN1.out HN4.out (by have := HN.out; omega)).mono ?_
        rintro e11 w11 ⟨rfl, hcov⟩
        have HCOV := veil hcov
        clear hcov
        go_wp2_with fail
        go_ret2
        have hE := HE.out
        rw [if_pos hlim] at hE
        have hbare : bareL h.ph n p.b k.key.b k.iv.b = X := by
          unfold bareL
          rw [HR.out]
          exact HX.out
        have hfb : longB (gb X 0) = h.long := by
          rw [← hbare, bare_first]
          exact long_first _ _ _ HN1.out HN4.out
        have hO : packO h.ph n p.b k.key.b k.iv.b k.mask.b = covTo X s n (covB (longB (gb X 0))) MB := by
          unfold packO
          rw [if_pos hE, Int.toNat_natCast]
          unfold packL maskL
          rw [covTo_take _ _ _ _ _ HN4.out, HR.out, hbare, HS.out, hfb, ← HMB.out, HCB.out, samp4_eq]
          rfl
        have hOl : (packO h.ph n p.b k.key.b k.iv.b k.mask.b).length = N := by rw [hO, covTo_length, HXL.out]
        rw [hE, hOl, hO]
        exact ⟨_, rfl, own_low HCOV.out.own S3.out.bel.size, S3.out.bel.trans ((D10.out.trans HCOV.out.bel).mono S3.out.bel.size)⟩
    · have hlt : 1184 - (L : Int) < (p.len : Int) := by omega
      go_wp2_with fail
      go_ret2
      have hE := HE.out
      rw [if_neg hlim] at hE
      have hO : packO h.ph n p.b k.key.b k.iv.b k.mask.b = [] := by unfold packO; rw [hE]; rfl
      rw [hE, hO]
      exact ⟨_, rfl, World.ownsRow_nil _ _ _ _, S4.out.bel⟩

/-- packet.Seal, at any packet. -/
theorem packSeal_any (h : HD) (n : Int) (p : SL) (k : KS) (w : World) (hg : Glob w) (hh : h.Ok w) (hp : p.Ok w) (hk : k.Ok w) (hpl : p.len ≤ 140737488351232) (hn1 : -9223372036854775808 ≤ n) (hn2 : n ≤ 9223372036854775807) :
    Calls Tryz.prog 7 #[.agg h.cells, .int .i64 n, .slice p.a p.len p.cap, .agg k.cells] w fun e w' => ∃ v, e = .returned (.tuple #[v, .int .i64 (packE h.ph n p.b k.key.b k.iv.b k.mask.b)]) ∧ w'.ownsRow w.heap.size 5 1 v (packO h.ph n p.b k.key.b k.iv.b k.mask.b).length (vb (packO h.ph n p.b k.key.b k.iv.b k.mask.b)) ∧ Below w.heap.size w w' := by
  by_cases hgood : goodP h.ph n p.b k.key.b k.iv.b k.mask.b = true
  · have hg2 := hgood
    unfold goodP at hg2
    simp only [Bool.and_eq_true, decide_eq_true_eq] at hg2
    obtain ⟨m, rfl⟩ : ∃ m : Nat, n = m := ⟨n.toNat, by omega⟩
    exact seal_good h m p k w hg hh hp hk hpl hgood
  · have hb : goodP h.ph n p.b k.key.b k.iv.b k.mask.b = false := by simpa using hgood
    have hE : packE h.ph n p.b k.key.b k.iv.b k.mask.b = 1 := by unfold packE; rw [hb]; rfl
    have hO : packO h.ph n p.b k.key.b k.iv.b k.mask.b = [] := by unfold packO; rw [hE]; rfl
    rw [hE, hO]
    refine (seal_bad h n p k w hg hh hp hk hn1 hn2 hb).mono ?_
    rintro e w' ⟨rfl, hb'⟩
    exact ⟨_, rfl, World.ownsRow_nil _ _ _ _, hb'⟩

end Go.Proofs.YtbheoldakmcppaaGreatDoor
