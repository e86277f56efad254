/-
  takeOut's iterator. Written by mklgtake.py.
-/
import Derived.Test.YtohoieleakieeaaGreatDoorGl21
namespace Go.Proofs.YtohoieleakieeaaGreatDoor
open Go Go.RowKit Go.Shelf
attribute [local go_sem] Oper.semAt_some

def depCp : Nat → List Nat
  | 0 => []
  | 1 => [0]
  | 2 => [1]
  | 3 => [2]
  | 4 => []
  | 5 => []
  | 6 => [4, 5]
  | 7 => []
  | 8 => [3, 6, 7]
  | 9 => []
  | 10 => [9]
  | 11 => [10]
  | 12 => [11]
  | 13 => []
  | 14 => [12, 13]
  | 15 => [8, 14]
  | _ => []
def dclCp : Nat → List Nat
  | 1 => [0]
  | 2 => [0, 1]
  | 3 => [0, 1, 2]
  | 6 => [4, 5]
  | 8 => [0, 1, 2, 3, 4, 5, 6, 7]
  | 10 => [9]
  | 11 => [9, 10]
  | 12 => [9, 10, 11]
  | 14 => [9, 10, 11, 12, 13]
  | 15 => [0, 1, 2, 3, 4, 5, 6, 7, 8, 9, 10, 11, 12, 13, 14]
  | _ => []
def valCp (g b o n cap d s : Nat) : Nat → Value
  | 0 => .pointer (some ⟨g, 0, none⟩)
  | 1 => .pointer (some ⟨g, 0, none⟩)
  | 2 => .pointer (some ⟨g, 0, none⟩)
  | 3 => .slice (some ⟨b, o, none⟩) n cap
  | 4 => .int .i64 ((d + s : Nat) : Int)
  | 5 => .int .i64 (s : Int)
  | 6 => .int .i64 (d : Int)
  | 7 => .int .i64 ((d + s : Nat) : Int)
  | 8 => .slice (some ⟨b, cutO o cap d 4, none⟩) (d + s - d) (cap - d)
  | 9 => .pointer (some ⟨g, 0, none⟩)
  | 10 => .pointer (some ⟨g, 0, none⟩)
  | 11 => .pointer (some ⟨g, 0, none⟩)
  | 12 => .slice (some ⟨b, o, none⟩) n cap
  | 13 => .int .i64 (s : Int)
  | 14 => .slice (some ⟨b, o, none⟩) s cap
  | _ => undef
def depSl : Nat → List Nat
  | 0 => []
  | 1 => []
  | 2 => [1]
  | 3 => [2]
  | 4 => [3]
  | 5 => []
  | 6 => []
  | 7 => [5, 6]
  | 8 => [4, 7]
  | 9 => [0]
  | 10 => [9]
  | 11 => [10, 8]
  | _ => []
def dclSl : Nat → List Nat
  | 2 => [1]
  | 3 => [1, 2]
  | 4 => [1, 2, 3]
  | 7 => [5, 6]
  | 8 => [1, 2, 3, 4, 5, 6, 7]
  | 9 => [0]
  | 10 => [0, 9]
  | 11 => [0, 1, 2, 3, 4, 5, 6, 7, 8, 9, 10]
  | _ => []
def valSl (g b o n cap d s : Nat) : Nat → Value
  | 0 => .pointer (some ⟨g, 0, none⟩)
  | 1 => .pointer (some ⟨g, 0, none⟩)
  | 2 => .pointer (some ⟨g, 0, none⟩)
  | 3 => .pointer (some ⟨g, 0, none⟩)
  | 4 => .slice (some ⟨b, o, none⟩) n cap
  | 5 => .int .i64 ((d + s : Nat) : Int)
  | 6 => .int .i64 (s : Int)
  | 7 => .int .i64 (d : Int)
  | 8 => .slice (some ⟨b, cutO o cap d 4, none⟩) (n - d) (cap - d)
  | 9 => .pointer (some ⟨g, 0, none⟩)
  | 10 => .pointer (some ⟨g, 0, none⟩)
  | _ => undef
def RTw (W0 W1 : World) : Nat → World → Value → Prop
  | 0, W, _ => W = W0
  | _, W, _ => W = W1
theorem RTw.zero {W0 W1 : World} {k : Nat} {W : World} {u : Value} (h : RTw W0 W1 k W u) (hk : k ≤ 0) : W = W0 := by
  obtain rfl : k = 0 := by omega
  exact h
set_option maxRecDepth 20000 in
set_option maxHeartbeats 2000000 in
theorem takeHit_in (N l z B1 B2 B3 g e C1 : Nat) (v : Value) (m : ML) (X0 : Lg.Pk → Bool) (st M0 : Nat → Prop) (Gb : World → Prop) (J : Nat → (Nat → Prop) → World → Prop) (W : World) (hm : Fits m) (he : e ≤ 4611686018427387904) (hB : TkB B1 B2 B3 z M0 st)
    (hJG : ∀ s M A, J s M A → Gb A) (hJ : ∀ s M A B, J s M A → KeepM M A B → J s (newM M A B) B)
    (hG : ∀ (W : World) (Z : List Lg.Pk) (a : Nat), Gb W → Row W g 70 (mlC v { m with way := Z, ask := a }) → ∀ p ∈ m.way, p.num < e → Calls Tryz.prog 29 #[.agg (pkC p), .pointer (some ⟨C1, 0, none⟩)] W fun r W' => r = .returned (.bool (X0 p)) ∧ Below W.heap.size W W')
    (hY : ∀ s x s' M W1, (m.way.filter (fun p => decide (p.num < e) && X0 p))[s]? = some x ∧ s' = s + 1 → J s M W1 → YieldW Tryz.prog l #[.agg (pkC x)] W1 fun r W' => (r = .returned (.bool true) ∧ J s' M W') ∧ KeepY z st M W1 W')
    (h0 : J 0 M0 W) (hL : LdOk W g v m) (hX : TkW B1 B2 B3 g e (.func (.func 29) #[] #[.pointer (some ⟨C1, 0, none⟩)]) W) (hg : M0 g) (hv : ∀ k, v.ownBlock = some k → M0 k) (hz : z ≤ W.heap.size) :
    CallsIn Fence.wide N Tryz.prog 87 #[.func (.yield l) #[] #[], .pointer (some ⟨B1, 0, none⟩), .pointer (some ⟨B2, 0, none⟩), .pointer (some ⟨B3, 0, none⟩)] W fun r W' => (∃ u, r = .returned u) ∧ ∃ s M, (s = (m.way.filter (fun p => decide (p.num < e) && X0 p)).length ∧ ∃ v', LdOk W' g v' { m with way := m.way.filter (fun p => !(decide (p.num < e) && X0 p)), ask := Lg.asum (m.way.filter (fun p => !(decide (p.num < e) && X0 p))) } ∧ v'.ownBlock = v.ownBlock) ∧ J s M W' := by
  obtain ⟨X, hXX⟩ : ∃ X : Lg.Pk → Bool, X = fun p => decide (p.num < e) && X0 p := ⟨_, rfl⟩
  have hXN : (fun p => !(decide (p.num < e) && X0 p)) = fun p => !X p := by rw [hXX]
  rw [hXN]
  rw [← hXX] at hY ⊢
  have hA0 : Lg.askA m.way X 0 = m.ask := by rw [hm.ask]; unfold Lg.askA Lg.asum Lg.sl; simp
  have I0 : TkI z M0 J B1 B2 B3 g e (.func (.func 29) #[] #[.pointer (some ⟨C1, 0, none⟩)]) v m X 0 m.way M0 W := ⟨Lg.Zt.zero _ _, (by show J (Lg.tl m.way X 0).length M0 W; unfold Lg.tl; simpa using h0), (by show LdOk W g v { m with way := m.way, ask := _ }; rw [hA0]; exact hL), hX, fun k q => .inl q, hg, hv, hz⟩
  obtain ⟨n, hn⟩ : ∃ n, m.way.length = n := ⟨_, rfl⟩
  obtain ⟨va, cap, hva, hnc, hcm⟩ := hL.way.shape
  rw [hn] at hva hnc
  have hn5 : n ≤ 2000 := by rw [← hn]; exact hm.len
  have HM := veil hm
  have HB := veil hB
  have HG := veil hG
  have HJG := veil hJG
  have HJ := veil hJ
  have HY := veil hY
  have HN := veil hn
  have HXX := veil hXX
  have HI0 := veil I0
  have HNC := veil hnc
  have hez : (e : Int) < 9223372036854775808 := by omega
  subst hva
  clear hm hB hG hJG hJ hY h0 hL hX hg hv hz hXX hXN hA0 I0 hn hcm he hnc
  refine callsIn_of_wp Tryz.func87 rfl trivial ?_ rfl
  simp only [Tryz.ntmps87, List.size_toArray, List.length_cons, List.length_nil, Nat.reduceAdd, Nat.reduceSub, Array.replicate_succ, Array.replicate_zero, List.push_toArray, List.append_toArray, List.nil_append, List.cons_append]
  gi_wp2_with fail
  gi_loopw [5, 6, 7] (fun sv tv mv wr => ∃ (i : Nat) (Z : List Lg.Pk) (M : Nat → Prop), sv = .int .i64 (i : Int) ∧ tv = .int .i64 ((Lg.sl m.way X i).length : Int) ∧ mv = .bool true ∧ TkI z M0 J B1 B2 B3 g e (.func (.func 29) #[] #[.pointer (some ⟨C1, 0, none⟩)]) (.slice va n cap) m X i Z M wr)
    (fun sv _ _ _ => n - (intOf sv).toNat)
  case atStart => exact ⟨0, _, _, rfl, by simp [Lg.sl], rfl, HI0.out⟩
  case round =>
    clear HI0
    obtain ⟨i, Z, M, rfl, rfl, rfl, hI⟩ := hrel
    have HI := veil hI
    have hile : i ≤ n := by rw [← HN.out]; exact hI.zt.ile
    have hsi := Lg.sl_le m.way X i hI.zt.ile
    have k1 : wr.cell? ⟨B1, 0, none⟩ = some (.pointer (some ⟨g, 0, none⟩)) := hI.bx.b1.cell 0
    have k2 : wr.cell? ⟨B2, 0, none⟩ = some (.int .u64 (e : Int)) := hI.bx.b2.cell 0
    have k3 : wr.cell? ⟨B3, 0, none⟩ = some (.func (.func 29) #[] #[.pointer (some ⟨C1, 0, none⟩)]) := hI.bx.b3.cell 0
    have k0 : wr.cell? ⟨g, 0, none⟩ = some (.slice va n cap) := hI.ld.cells.c0
    obtain ⟨s, hs⟩ : ∃ s, (Lg.sl m.way X i).length = s := ⟨_, rfl⟩
    rw [hs] at hsi ⊢
    have HS := veil hs
    clear hs
    by_cases hlt : i < n
    · obtain ⟨p, hp⟩ : ∃ p, m.way[i]? = some p := ⟨_, List.getElem?_eq_getElem (by rw [HN.out]; exact hlt)⟩
      have hpZ : Z[i]? = some p := by rw [hI.zt.get]; exact hp
      have hwy : RowO wr 78 4 (.slice va n cap) n (vp Z) := by have := hI.ld.way; rw [show (mlAt m X i Z).way.length = n from hI.zt.len.trans HN.out] at this; exact this
      obtain ⟨b, o, rfl, hbl, y0, y1, y2, y3⟩ := way_at hwy hpZ
      have hpm := List.mem_of_getElem? hp
      have HP := veil hp
      have d1 : decide ((i : Int) < (n : Int)) = true := by simp; omega
      have d2 : decide (i < n) = true := by simp; omega
      by_cases hpe : p.num < e
      · have d3 : decide ((p.num : Int) < (e : Int)) = true := by simp; omega
        have d4 : decide (p.num < e) = true := by simp; omega
        have GC := veil (fun (W : World) (q : Gb W) (r : Row W g 70 (mlC (.slice (some ⟨b, o, none⟩) n cap) (mlAt m X i Z))) => HG.out W Z (Lg.askA m.way X i) q r p hpm hpe)
        have HXp := veil (show X p = X0 p by rw [HXX.out]; simp only [d4, Bool.true_and])
        clear hI hwy hpZ hp
        gi_wp2_with fail
        gi_quiet (fail)
        have hbq : Below wr.heap.size wr (wr.drewN nq) := below_drewN (Below.refl _ wr) nq
        have hzq : (wr.drewN nq).heap.size = wr.heap.size := rfl
        have lg := HI.out.ld.lt
        have l1 := HI.out.bx.b1.lt
        have l3 := HI.out.bx.b3.lt
        replace k1 := (hbq.cell (p := ⟨B1, 0, none⟩) l1).trans k1
        replace k3 := (hbq.cell (p := ⟨B3, 0, none⟩) l3).trans k3
        replace k0 := (hbq.cell (p := ⟨g, 0, none⟩) lg).trans k0
        replace y0 := (hbq.cell (p := ⟨b, o + i * 4, none⟩) hbl).trans y0
        replace y1 := (hbq.cell (p := ⟨b, o + i * 4 + 1, none⟩) hbl).trans y1
        replace y2 := (hbq.cell (p := ⟨b, o + i * 4 + 2, none⟩) hbl).trans y2
        replace y3 := (hbq.cell (p := ⟨b, o + i * 4 + 3, none⟩) hbl).trans y3
        have HBQ := veil hbq
        have HZQ := veil hzq
        clear hbq k2 d3 d4 d1 d2 lg l1 l3 hez
        generalize wr.drewN nq = wq at *
        have hb1 : Below wr.heap.size wr (wq.alloc (.cells #[.int .u64 (p.num : Int), .int .i64 (p.size : Int), .int .u64 (p.time : Int), .bool p.asks] 78)) := HBQ.out.alloc HBQ.out.size _
        have HB1 := veil hb1
        have HBX := veil (show Row (wq.alloc (.cells #[.int .u64 (p.num : Int), .int .i64 (p.size : Int), .int .u64 (p.time : Int), .bool p.asks] 78)) wr.heap.size 78 #[.int .u64 (p.num : Int), .int .i64 (p.size : Int), .int .u64 (p.time : Int), .bool p.asks] from by rw [← hzq]; exact Row.new _ _ _)
        have HGb := veil (HJG.out _ _ _ (HJ.out _ _ _ _ HI.out.j (KeepM.of_below hb1)))
        have HR1 := veil ((HI.out.ld.below hb1).row)
        have j3 : (wq.alloc (.cells #[.int .u64 (p.num : Int), .int .i64 (p.size : Int), .int .u64 (p.time : Int), .bool p.asks] 78)).cell? ⟨B3, 0, none⟩ = some (.func (.func 29) #[] #[.pointer (some ⟨C1, 0, none⟩)]) := (hb1.cell (p := ⟨B3, 0, none⟩) HI.out.bx.b3.lt).trans (HI.out.bx.b3.cell 0)
        clear hb1
        gi_wp2_with fail
        refine ⟨trivial, (fun h => by simp [Fence.wide] at h), (callsIn_wide.2 (GC.out _ HGb.out HR1.out)).mono ?_⟩
        rintro r2 w2 ⟨rfl, hb2⟩
        have hB2 : Below wr.heap.size wr w2 := HB1.out.trans (hb2.mono HB1.out.size)
        have bx2 := HBX.out.below hb2 HBX.out.lt
        have m1 : w2.cell? ⟨B1, 0, none⟩ = some (.pointer (some ⟨g, 0, none⟩)) := (hB2.cell (p := ⟨B1, 0, none⟩) HI.out.bx.b1.lt).trans (HI.out.bx.b1.cell 0)
        have hL2 : LdOk w2 g (.slice (some ⟨b, o, none⟩) n cap) (mlAt m X i Z) := HI.out.ld.below hB2
        have m0 := hL2.cells.c0
        have x0 : w2.cell? ⟨wr.heap.size, 0, none⟩ = some (.int .u64 (p.num : Int)) := bx2.cell 0
        have x1 : w2.cell? ⟨wr.heap.size, 1, none⟩ = some (.int .i64 (p.size : Int)) := bx2.cell 1
        have x2 : w2.cell? ⟨wr.heap.size, 2, none⟩ = some (.int .u64 (p.time : Int)) := bx2.cell 2
        have x3 : w2.cell? ⟨wr.heap.size, 3, none⟩ = some (.bool p.asks) := bx2.cell 3
        have HB2 := veil hB2
        have HL2 := veil hL2
        clear hb2 bx2 hB2 k0 k1 k3 y0 y1 y2 y3 j3 HR1 HGb HBX HB1 GC HBQ HZQ
        cases hx0 : X0 p
        · have hxp : X p = false := HXp.out.trans hx0
          have hsn : s < n := by omega
          obtain ⟨p', hp'⟩ : ∃ p', Z[s]? = some p' := ⟨_, List.getElem?_eq_getElem (by rw [HI.out.zt.len, HN.out]; exact hsn)⟩
          have hwy2 : RowO w2 78 4 (.slice (some ⟨b, o, none⟩) n cap) n (vp Z) := by have := hL2.way; rw [show (mlAt m X i Z).way.length = n from HI.out.zt.len.trans HN.out] at this; exact this
          obtain ⟨b', o', hbo, _, z0, z1, z2, z3⟩ := way_at hwy2 hp'
          injection hbo with hbo
          injection hbo with hb' ho'
          subst hb' ho'
          have hf : ∀ k, w2.frozen? ⟨b, k, none⟩ = false := fun k => RowO.frozen hwy2 k
          have f0 := hf (o + s * 4)
          have f1 := hf (o + s * 4 + 1)
          have f2 := hf (o + s * 4 + 2)
          have f3 := hf (o + s * 4 + 3)
          obtain ⟨hL3, hK3⟩ := hL2.setPk (HI.out.zt.len.trans HN.out) s hsn p
          have hKM := keepM_ld (M := M) ((((KeepP.of_below HB2.out).trans hK3).trans (KeepP.of_below ((Below.refl _ _).drew)) : KeepL g (.slice (some ⟨b, o, none⟩) n cap) wr _)) HI.out.mg HI.out.mv
          obtain ⟨M', hst⟩ := HI.out.step HJ.out HB.out hKM (Z' := Z.set s p) (a := Lg.askA m.way X i) (hL3.below ((Below.refl _ _).drew))
          have HST := veil hst
          clear hst
          have HA := veil (Lg.askA_stay (X := X) HP.out hxp)
          have HZ := veil (HI.out.zt.stay HP.out hxp)
          have HSl := veil (show (Lg.sl m.way X (i + 1)).length = s + 1 by rw [Lg.sl_succ HP.out, if_neg (by rw [hxp]; decide), List.length_append, HS.out]; rfl)
          have HTl := veil (show Lg.tl m.way X (i + 1) = Lg.tl m.way X i by rw [Lg.tl_succ HP.out, if_neg (by rw [hxp]; decide)])
          have HLT := veil hlt
          clear hL2 hp' hwy2 hf hL3 hK3 hKM hxp hx0
          gi_wp2_with fail
          gi_region
          gi_wp2_with fail
          obtain ⟨q1, q2, q3, q4, q5, q6, q7⟩ := HST.out
          refine ⟨⟨i + 1, Z.set s p, M', by go_num, by rw [HSl.out]; go_num, rfl, ?_⟩, by have := HLT.out; simp [intOf]; omega⟩
          refine ⟨by have := HZ.out; rw [HS.out] at this; exact this, by rw [HTl.out]; exact q1, ?_, q2, q3, q4, q5, q6⟩
          unfold mlAt
          rw [HA.out]
          exact q7
        · have hxp : X p = true := HXp.out.trans hx0
          have HZ := veil (HI.out.zt.go HP.out hxp)
          have HSl := veil (show (Lg.sl m.way X (i + 1)).length = s by rw [Lg.sl_succ HP.out, if_pos hxp, HS.out])
          have HTl := veil (show (Lg.tl m.way X (i + 1)).length = (Lg.tl m.way X i).length + 1 by rw [Lg.tl_succ HP.out, if_pos hxp, List.length_append]; rfl)
          have HAg := veil (Lg.askA_go (X := X) HP.out hxp)
          have HTs := veil (Lg.tl_step (X := X) HP.out hxp)
          have HLT := veil hlt
          clear hx0 hxp
          cases hpa : p.asks
          · rw [hpa] at x3
            have hAA : Lg.askA m.way X i = Lg.askA m.way X (i + 1) := by have := HAg.out; rw [hpa] at this; simpa using this
            have hKM := keepM_ld (M := M) (KeepP.of_below HB2.out : KeepL g (.slice (some ⟨b, o, none⟩) n cap) wr _) HI.out.mg HI.out.mv
            obtain ⟨M', hst⟩ := HI.out.step HJ.out HB.out hKM (Z' := Z) (a := Lg.askA m.way X i) hL2
            have HST := veil hst
            clear hst
            obtain ⟨fn, tmps, assign, body, hy, hRR⟩ := HY.out _ p _ _ _ ⟨HTs.out, rfl⟩ HST.out.1 (N - 1)
            unfold pkC at hy
            simp only [hpa] at hy
            have HRR := veil hRR
            have HAA := veil hAA
            clear hRR hAA hKM hL2
            gi_wp2_with fail
            refine ⟨(fun h => by simp [Fence.wide] at h), HRR.out.mono ?_⟩
            rintro r3 w3 ⟨⟨rfl, hJ3⟩, hk3⟩
            have HJ3 := veil hJ3
            have HBK := veil (TkI.back HB.out hk3 HST.out.2.2.2.2.2.2 HST.out.2.1 HST.out.2.2.2.1 HST.out.2.2.2.2.1 HST.out.2.2.2.2.2.1)
            clear hJ3 hk3 hy m0 m1 x0 x1 x2 x3
            gi_wp2_with fail
            refine ⟨⟨i + 1, Z, M', by go_num, by rw [HSl.out], rfl, ?_⟩, by have := HLT.out; simp [intOf]; omega⟩
            refine ⟨HZ.out, by rw [HTl.out]; exact HJ3.out, ?_, HBK.out.2.1, HST.out.2.2.1, HST.out.2.2.2.1, HST.out.2.2.2.2.1, HBK.out.2.2⟩
            unfold mlAt
            rw [← HAA.out]
            exact HBK.out.1
          · rw [hpa] at x3
            have hAA : Lg.askA m.way X i = p.size + Lg.askA m.way X (i + 1) := by have := HAg.out; rw [hpa, if_pos rfl] at this; exact this
            have ha := hL2.cells.c1
            have hfa := hL2.cells.f 1
            rw [show (mlAt m X i Z).ask = p.size + Lg.askA m.way X (i + 1) from hAA] at ha
            have hbd : p.size + Lg.askA m.way X (i + 1) ≤ 3000000 := by
              rw [← hAA]
              exact askA_le HM.out X i
            obtain ⟨a1, ha1⟩ : ∃ a1, Lg.askA m.way X (i + 1) = a1 := ⟨_, rfl⟩
            rw [ha1] at ha hbd
            have hsub : IntKind.i64.wrap (((p.size + a1 : Nat) : Int) - (p.size : Int)) = (a1 : Int) := by rw [IntKind.wrap_i64]; omega
            obtain ⟨a2, ha2⟩ : ∃ a2, p.size + a1 = a2 := ⟨_, rfl⟩
            rw [ha2] at ha hsub
            obtain ⟨hL3, hK3⟩ := hL2.setAsk a1
            have hKM := keepM_ld (M := M) ((((KeepP.of_below HB2.out).trans hK3).trans (KeepP.of_below ((Below.refl _ _).drew)) : KeepL g (.slice (some ⟨b, o, none⟩) n cap) wr _)) HI.out.mg HI.out.mv
            obtain ⟨M', hst⟩ := HI.out.step HJ.out HB.out hKM (Z' := Z) (a := a1) (hL3.below ((Below.refl _ _).drew))
            have HST := veil hst
            clear hst
            have hne : wr.heap.size ≠ g := fun q => by have := HI.out.ld.lt; omega
            obtain ⟨fn, tmps, assign, body, hy, hRR⟩ := HY.out _ p _ _ _ ⟨HTs.out, rfl⟩ HST.out.1 (N - 1)
            unfold pkC at hy
            simp only [hpa] at hy
            have HRR := veil hRR
            have HA1 := veil ha1
            clear hRR hAA hKM hL2 ha1 ha2 hbd hL3 hK3
            gi_wp2_with fail
            gi_region
            gi_wp2_with fail
            refine ⟨(fun h => by simp [Fence.wide] at h), HRR.out.mono ?_⟩
            rintro r3 w3 ⟨⟨rfl, hJ3⟩, hk3⟩
            have HJ3 := veil hJ3
            have HBK := veil (TkI.back HB.out hk3 HST.out.2.2.2.2.2.2 HST.out.2.1 HST.out.2.2.2.1 HST.out.2.2.2.2.1 HST.out.2.2.2.2.2.1)
            clear hJ3 hk3 hy m0 m1 x0 x1 x2 x3 ha hfa
            gi_wp2_with fail
            refine ⟨⟨i + 1, Z, M', by go_num, by rw [HSl.out], rfl, ?_⟩, by have := HLT.out; simp [intOf]; omega⟩
            refine ⟨HZ.out, by rw [HTl.out]; exact HJ3.out, ?_, HBK.out.2.1, HST.out.2.2.1, HST.out.2.2.2.1, HST.out.2.2.2.2.1, HBK.out.2.2⟩
            unfold mlAt
            rw [HA1.out]
            exact HBK.out.1
      · have hrest : ∀ q ∈ m.way.drop i, X q = false := fun q hq => by
          have := Lg.rest_up HM.out.up (i := i) (e := e) (fun p2 hp2 => by rw [hp] at hp2; injection hp2 with hp2; subst hp2; omega) q hq
          rw [HXX.out]
          simp only [show decide (q.num < e) = false by simp; omega, Bool.false_and]
        have d3 : decide ((p.num : Int) < (e : Int)) = false := by simp; omega
        have d4 : decide (p.num < e) = false := by simp; omega
        clear hI hwy hpZ hp hpe
        gi_wp2_with fail
        gi_quiet (fail)
        gi_wp2_with fail
        have hbq : Below wr.heap.size wr (wr.drewN nq) := below_drewN (Below.refl _ wr) nq
        have hLq : LdOk (wr.drewN nq) g (.slice (some ⟨b, o, none⟩) n cap) (mlAt m X i Z) := HI.out.ld.below hbq
        replace k1 := (hbq.cell (p := ⟨B1, 0, none⟩) HI.out.bx.b1.lt).trans k1
        have HBQ := veil hbq
        clear hbq k0 k2 k3 y0 y1 y2 y3 d1 d2 d3 d4 hez
        generalize wr.drewN nq = wq at *
        obtain ⟨d, hd⟩ : ∃ d, i = d + s := ⟨i - s, by omega⟩
        have hwq : RowO wq.drew 78 4 (.slice (some ⟨b, o, none⟩) n cap) n (vp Z) := by have := (hLq.below ((Below.refl _ wq).drew)).way; rw [show (mlAt m X i Z).way.length = n from HI.out.zt.len.trans HN.out] at this; exact this
        have hdn : d ≤ n := by omega
        obtain ⟨w5, c5, r5, kp5⟩ := bring_up (P := Tryz.prog) wq.drew 3 68 78 n b o cap d s Z Tryz.underlying68 (by kernel_rfl) hwq (HI.out.zt.len.trans HN.out) (by omega)
        have hgb : g ≠ b := fun q => hLq.apart (by rw [q]; rfl)
        have row5 : Row w5 g 70 (mlC (.slice (some ⟨b, o, none⟩) n cap) (mlAt m X i Z)) := kp5.row (hLq.below ((Below.refl _ wq).drew)).row hgb
        have m1 : w5.cell? ⟨B1, 0, none⟩ = some (.pointer (some ⟨g, 0, none⟩)) := by
          have hB1 : B1 ≠ b := fun q => (HB.out.out HI.out.lo).1 (HI.out.mv B1 (by rw [q]; rfl))
          exact (World.cell?_of_block (a := ⟨B1, 0, none⟩) (kp5.block B1 (Nat.lt_of_lt_of_le HI.out.bx.b1.lt HBQ.out.size) hB1)).trans k1
        have HCP := veil c5
        have q0 : wq.drew.cell? ⟨g, 0, none⟩ = some (.slice (some ⟨b, o, none⟩) n cap) := (hLq.below ((Below.refl _ wq).drew)).cells.c0
        have q1 : wq.drew.cell? ⟨B1, 0, none⟩ = some (.pointer (some ⟨g, 0, none⟩)) := k1
        have g0 : w5.drew.cell? ⟨g, 0, none⟩ = some (.slice (some ⟨b, o, none⟩) n cap) := row5.cell 0
        have gf : w5.drew.frozen? ⟨g, 0, none⟩ = false := row5.frozen 0
        have g1 : w5.drew.cell? ⟨B1, 0, none⟩ = some (.pointer (some ⟨g, 0, none⟩)) := m1
        have HROW := veil row5
        have HRO5 := veil r5
        have HKP := veil kp5
        have HHD := veil hd
        have HRS := veil (Lg.rest_none hrest)
        have HGB := veil hgb
        clear hLq hwq c5 r5 kp5 row5 m1 k1 hrest hgb
        subst hd
        refine wpIn_region_any (by kernel_rfl) ?_
        refine anyIn_spine (valCp g b o n cap d s) (RTw wq.drew w5) undef [15] [67, 68, 69, 70, 71, 72, 73, 74, 75, 76, 77, 78, 79, 80, 81, 82] depCp dclCp (by kernel_rfl) (by decide) rfl (by decide) (by decide) ?ord (by decide) ?h0 ?fix ?cal ?don
        case ord =>
          intro k i j h1 h2
          match k, h1, h2 with
          | 0, _, h2 => simp at h2
          | _ + 1, h1, _ => simp at h1
        case fix =>
          intro x W4 m2 ii d u hR hdi hni hdep hlo hhi
          match ii, hdi, hni, hdep, hhi with
          | 0, hdi, _, _, hhi =>
            obtain rfl := Option.some.inj hdi
            exact OI_value rfl rfl (about_none (by intro c h; cases h)) (by intro c h; cases h) (.pointer (some ⟨g, 0, none⟩)) W4 (lgRun_cell 28 _ ⟨B1, 0, none⟩ _ _ rfl (by kernel_rfl) Tryz.underlying28 rfl _ (by rw [hR.zero (hhi 0 15 rfl (by decide))]; exact q1)) ⟨rfl, rfl⟩
          | 1, hdi, _, hdep, _ =>
            obtain rfl := Option.some.inj hdi
            rw [updV_self (show x 0 = _ from hdep 0 (by simp [depCp]) (by decide))]
            exact OI_value rfl rfl (about_none (by intro c h; cases h)) (by intro c h; cases h) (.pointer (some ⟨g, 0, none⟩)) W4 (by kernel_rfl) ⟨rfl, rfl⟩
          | 2, hdi, _, hdep, _ =>
            obtain rfl := Option.some.inj hdi
            rw [updV_self (show x 1 = _ from hdep 1 (by simp [depCp]) (by decide))]
            exact OI_value rfl rfl (about_none (by intro c h; cases h)) (by intro c h; cases h) (.pointer (some ⟨g, 0, none⟩)) W4 (by kernel_rfl) ⟨rfl, rfl⟩
          | 3, hdi, _, hdep, hhi =>
            obtain rfl := Option.some.inj hdi
            rw [updV_self (show x 2 = _ from hdep 2 (by simp [depCp]) (by decide))]
            exact OI_value rfl rfl (about_none (by intro c h; cases h)) (by intro c h; cases h) (.slice (some ⟨b, o, none⟩) n cap) W4 (lgRun_cell 68 _ ⟨g, 0, none⟩ _ _ rfl (by kernel_rfl) Tryz.underlying68 rfl _ (by rw [hR.zero (hhi 0 15 rfl (by decide))]; exact q0)) ⟨rfl, rfl⟩
          | 4, hdi, _, _, _ =>
            obtain rfl := Option.some.inj hdi
            exact OI_value rfl rfl (about_none (by intro c h; cases h)) (by intro c h; cases h) (.int .i64 ((d + s : Nat) : Int)) W4 (by kernel_rfl) ⟨rfl, rfl⟩
          | 5, hdi, _, _, _ =>
            obtain rfl := Option.some.inj hdi
            exact OI_value rfl rfl (about_none (by intro c h; cases h)) (by intro c h; cases h) (.int .i64 (s : Int)) W4 (by kernel_rfl) ⟨rfl, rfl⟩
          | 6, hdi, _, hdep, _ =>
            obtain rfl := Option.some.inj hdi
            rw [updV_self (show x 4 = _ from hdep 4 (by simp [depCp]) (by decide)), updV_self (show (updV x 4 _) 5 = _ from hdep 5 (by simp [depCp]) (by decide))]
            exact OI_value rfl rfl (about_none (by intro c h; cases h)) (by intro c h; cases h) (.int .i64 (d : Int)) W4 (lgRun_sub _ _ _ _ (d + s) s d (by omega) (by omega) rfl (by kernel_rfl) (by kernel_rfl) _) ⟨rfl, rfl⟩
          | 7, hdi, _, _, _ =>
            obtain rfl := Option.some.inj hdi
            exact OI_value rfl rfl (about_none (by intro c h; cases h)) (by intro c h; cases h) (.int .i64 ((d + s : Nat) : Int)) W4 (by kernel_rfl) ⟨rfl, rfl⟩
          | 8, hdi, _, hdep, _ =>
            obtain rfl := Option.some.inj hdi
            rw [updV_self (show x 3 = _ from hdep 3 (by simp [depCp]) (by decide)), updV_self (show (updV x 3 _) 6 = _ from hdep 6 (by simp [depCp]) (by decide)), updV_self (show (updV (updV x 3 _) 6 _) 7 = _ from hdep 7 (by simp [depCp]) (by decide))]
            exact OI_value rfl rfl (about_none (by intro c h; cases h)) (by intro c h; cases h) (.slice (some ⟨b, cutO o cap d 4, none⟩) (d + s - d) (cap - d)) W4 (lgRun_cutLH 68 78 4 _ _ _ b o n cap d (d + s) rfl (by kernel_rfl) (by kernel_rfl) (by kernel_rfl) Tryz.underlying68 (by kernel_rfl) (by omega) (by have := HNC.out; omega) _) ⟨rfl, rfl⟩
          | 9, hdi, _, _, hhi =>
            obtain rfl := Option.some.inj hdi
            exact OI_value rfl rfl (about_none (by intro c h; cases h)) (by intro c h; cases h) (.pointer (some ⟨g, 0, none⟩)) W4 (lgRun_cell 28 _ ⟨B1, 0, none⟩ _ _ rfl (by kernel_rfl) Tryz.underlying28 rfl _ (by rw [hR.zero (hhi 0 15 rfl (by decide))]; exact q1)) ⟨rfl, rfl⟩
          | 10, hdi, _, hdep, _ =>
            obtain rfl := Option.some.inj hdi
            rw [updV_self (show x 9 = _ from hdep 9 (by simp [depCp]) (by decide))]
            exact OI_value rfl rfl (about_none (by intro c h; cases h)) (by intro c h; cases h) (.pointer (some ⟨g, 0, none⟩)) W4 (by kernel_rfl) ⟨rfl, rfl⟩
          | 11, hdi, _, hdep, _ =>
            obtain rfl := Option.some.inj hdi
            rw [updV_self (show x 10 = _ from hdep 10 (by simp [depCp]) (by decide))]
            exact OI_value rfl rfl (about_none (by intro c h; cases h)) (by intro c h; cases h) (.pointer (some ⟨g, 0, none⟩)) W4 (by kernel_rfl) ⟨rfl, rfl⟩
          | 12, hdi, _, hdep, hhi =>
            obtain rfl := Option.some.inj hdi
            rw [updV_self (show x 11 = _ from hdep 11 (by simp [depCp]) (by decide))]
            exact OI_value rfl rfl (about_none (by intro c h; cases h)) (by intro c h; cases h) (.slice (some ⟨b, o, none⟩) n cap) W4 (lgRun_cell 68 _ ⟨g, 0, none⟩ _ _ rfl (by kernel_rfl) Tryz.underlying68 rfl _ (by rw [hR.zero (hhi 0 15 rfl (by decide))]; exact q0)) ⟨rfl, rfl⟩
          | 13, hdi, _, _, _ =>
            obtain rfl := Option.some.inj hdi
            exact OI_value rfl rfl (about_none (by intro c h; cases h)) (by intro c h; cases h) (.int .i64 (s : Int)) W4 (by kernel_rfl) ⟨rfl, rfl⟩
          | 14, hdi, _, hdep, _ =>
            obtain rfl := Option.some.inj hdi
            rw [updV_self (show x 12 = _ from hdep 12 (by simp [depCp]) (by decide)), updV_self (show (updV x 12 _) 13 = _ from hdep 13 (by simp [depCp]) (by decide))]
            exact OI_value rfl rfl (about_none (by intro c h; cases h)) (by intro c h; cases h) (.slice (some ⟨b, o, none⟩) s cap) W4 (lgRun_cutH 68 78 4 _ _ b o n cap s rfl (by kernel_rfl) (by kernel_rfl) Tryz.underlying68 (by kernel_rfl) (by have := HNC.out; omega) _) ⟨rfl, rfl⟩
          | 15, _, hni, _, _ => exact absurd (by decide) hni
          | _ + 16, hdi, _, _, _ => simp at hdi
        case cal =>
          intro x W4 k2 ii d u hR hk hdi hdep hu0 hup
          match k2, hk, hR, hu0, hup with
          | 0, hk, hR, hu0, hup =>
            obtain rfl := Option.some.inj hk
            obtain rfl := Option.some.inj hdi
            obtain rfl : W4 = wq.drew := hR
            rw [updV_self (show x 8 = _ from hdep 8 (by simp [depCp]) (by decide)), updV_self (show (updV x 8 _) 14 = _ from hdep 14 (by simp [depCp]) (by decide))]
            exact OI_value rfl rfl (about_builtin _ _ _ rfl) (by intro c h; cases h) (goInt s) w5 (lgRun_copyB _ _ _ (.slice (some ⟨b, cutO o cap d 4, none⟩) (d + s - d) (cap - d)) (.slice (some ⟨b, o, none⟩) s cap) _ _ _ rfl (by kernel_rfl) (by kernel_rfl) (by rw [show d + s - d = s by omega]; exact HCP.out)) ⟨_, rfl, rfl⟩
          | _ + 1, hk, _, _, _ => simp at hk
        case h0 => exact rfl
        case don =>
          intro x W4 u hR _ _
          obtain rfl : W4 = w5 := hR
          simp only [putsV, Act.put, List.setIfInBounds_toArray, List.set_cons_succ, List.set_cons_zero, Nat.reduceAdd]
          generalize x 0 = z0, x 1 = z1, x 2 = z2, x 3 = z3, x 4 = z4, x 5 = z5, x 6 = z6, x 7 = z7, x 8 = z8, x 9 = z9, x 10 = z10, x 11 = z11, x 12 = z12, x 13 = z13, x 14 = z14, x 15 = z15
          gi_wp2_with fail
          refine wpIn_region_any (by kernel_rfl) ?_
          refine anyIn_spine (valSl g b o n cap d s) (RTw W4.drew (W4.drew.setCell ⟨g, 0, none⟩ (.slice (some ⟨b, cutO o cap d 4, none⟩) (n - d) (cap - d)))) undef [11] [83, 84, 85, 86, 87, 88, 89, 90, 91, 92, 93, 100000] depSl dclSl (by kernel_rfl) (by decide) rfl (by decide) (by decide) ?ord (by decide) ?h0 ?fix ?cal ?don
          case ord =>
            intro k i j h1 h2
            match k, h1, h2 with
            | 0, _, h2 => simp at h2
            | _ + 1, h1, _ => simp at h1
          case fix =>
            intro x W9 m2 ii d u hR hdi hni hdep hlo hhi
            match ii, hdi, hni, hdep, hhi with
            | 0, hdi, _, _, hhi =>
              obtain rfl := Option.some.inj hdi
              exact OI_value rfl rfl (about_none (by intro c h; cases h)) (by intro c h; cases h) (.pointer (some ⟨g, 0, none⟩)) W9 (lgRun_cell 28 _ ⟨B1, 0, none⟩ _ _ rfl (by kernel_rfl) Tryz.underlying28 rfl _ (by rw [hR.zero (hhi 0 11 rfl (by decide))]; exact g1)) ⟨rfl, rfl⟩
            | 1, hdi, _, _, hhi =>
              obtain rfl := Option.some.inj hdi
              exact OI_value rfl rfl (about_none (by intro c h; cases h)) (by intro c h; cases h) (.pointer (some ⟨g, 0, none⟩)) W9 (lgRun_cell 28 _ ⟨B1, 0, none⟩ _ _ rfl (by kernel_rfl) Tryz.underlying28 rfl _ (by rw [hR.zero (hhi 0 11 rfl (by decide))]; exact g1)) ⟨rfl, rfl⟩
            | 2, hdi, _, hdep, _ =>
              obtain rfl := Option.some.inj hdi
              rw [updV_self (show x 1 = _ from hdep 1 (by simp [depSl]) (by decide))]
              exact OI_value rfl rfl (about_none (by intro c h; cases h)) (by intro c h; cases h) (.pointer (some ⟨g, 0, none⟩)) W9 (by kernel_rfl) ⟨rfl, rfl⟩
            | 3, hdi, _, hdep, _ =>
              obtain rfl := Option.some.inj hdi
              rw [updV_self (show x 2 = _ from hdep 2 (by simp [depSl]) (by decide))]
              exact OI_value rfl rfl (about_none (by intro c h; cases h)) (by intro c h; cases h) (.pointer (some ⟨g, 0, none⟩)) W9 (by kernel_rfl) ⟨rfl, rfl⟩
            | 4, hdi, _, hdep, hhi =>
              obtain rfl := Option.some.inj hdi
              rw [updV_self (show x 3 = _ from hdep 3 (by simp [depSl]) (by decide))]
              exact OI_value rfl rfl (about_none (by intro c h; cases h)) (by intro c h; cases h) (.slice (some ⟨b, o, none⟩) n cap) W9 (lgRun_cell 68 _ ⟨g, 0, none⟩ _ _ rfl (by kernel_rfl) Tryz.underlying68 rfl _ (by rw [hR.zero (hhi 0 11 rfl (by decide))]; exact g0)) ⟨rfl, rfl⟩
            | 5, hdi, _, _, _ =>
              obtain rfl := Option.some.inj hdi
              exact OI_value rfl rfl (about_none (by intro c h; cases h)) (by intro c h; cases h) (.int .i64 ((d + s : Nat) : Int)) W9 (by kernel_rfl) ⟨rfl, rfl⟩
            | 6, hdi, _, _, _ =>
              obtain rfl := Option.some.inj hdi
              exact OI_value rfl rfl (about_none (by intro c h; cases h)) (by intro c h; cases h) (.int .i64 (s : Int)) W9 (by kernel_rfl) ⟨rfl, rfl⟩
            | 7, hdi, _, hdep, _ =>
              obtain rfl := Option.some.inj hdi
              rw [updV_self (show x 5 = _ from hdep 5 (by simp [depSl]) (by decide)), updV_self (show (updV x 5 _) 6 = _ from hdep 6 (by simp [depSl]) (by decide))]
              exact OI_value rfl rfl (about_none (by intro c h; cases h)) (by intro c h; cases h) (.int .i64 (d : Int)) W9 (lgRun_sub _ _ _ _ (d + s) s d (by omega) (by omega) rfl (by kernel_rfl) (by kernel_rfl) _) ⟨rfl, rfl⟩
            | 8, hdi, _, hdep, _ =>
              obtain rfl := Option.some.inj hdi
              rw [updV_self (show x 4 = _ from hdep 4 (by simp [depSl]) (by decide)), updV_self (show (updV x 4 _) 7 = _ from hdep 7 (by simp [depSl]) (by decide))]
              exact OI_value rfl rfl (about_none (by intro c h; cases h)) (by intro c h; cases h) (.slice (some ⟨b, cutO o cap d 4, none⟩) (n - d) (cap - d)) W9 (lgRun_cutL 68 78 4 _ _ b o n cap d rfl (by kernel_rfl) (by kernel_rfl) Tryz.underlying68 (by kernel_rfl) (by omega) HNC.out _) ⟨rfl, rfl⟩
            | 9, hdi, _, hdep, _ =>
              obtain rfl := Option.some.inj hdi
              rw [updV_self (show x 0 = _ from hdep 0 (by simp [depSl]) (by decide))]
              exact OI_value rfl rfl (about_none (by intro c h; cases h)) (by intro c h; cases h) (.pointer (some ⟨g, 0, none⟩)) W9 (by kernel_rfl) ⟨rfl, rfl⟩
            | 10, hdi, _, hdep, _ =>
              obtain rfl := Option.some.inj hdi
              rw [updV_self (show x 9 = _ from hdep 9 (by simp [depSl]) (by decide))]
              exact OI_value rfl rfl (about_none (by intro c h; cases h)) (by intro c h; cases h) (.pointer (some ⟨g, 0, none⟩)) W9 (by kernel_rfl) ⟨rfl, rfl⟩
            | 11, _, hni, _, _ => exact absurd (by decide) hni
            | _ + 12, hdi, _, _, _ => simp at hdi
          case cal =>
            intro x W9 k2 ii d u hR hk hdi hdep hu0 hup
            match k2, hk, hR, hu0, hup with
            | 0, hk, hR, hu0, hup =>
              obtain rfl := Option.some.inj hk
              obtain rfl := Option.some.inj hdi
              obtain rfl : W9 = _ := hR
              rw [updV_self (show x 10 = _ from hdep 10 (by simp [depSl]) (by decide)), updV_self (show (updV x 10 _) 8 = _ from hdep 8 (by simp [depSl]) (by decide))]
              exact OI_skip rfl rfl (about_none (by intro c h; cases h)) (by intro c h; cases h) _ (lgRun_store 68 _ _ ⟨g, 0, none⟩ (.slice (some ⟨b, cutO o cap d 4, none⟩) (n - d) (cap - d)) (.slice (some ⟨b, o, none⟩) n cap) rfl rfl (by kernel_rfl) (by kernel_rfl) (by kernel_rfl) _ g0 gf) ⟨undef, (lgPut_none _ _).trans (put_far _ _ _ (by rw [puts_size]; exact Nat.le_of_ble_eq_true rfl)).symm, rfl⟩
            | _ + 1, hk, _, _, _ => simp at hk
          case h0 => exact rfl
          case don =>
            intro x W9 u hR _ _
            obtain rfl : W9 = _ := hR
            simp only [putsV, Act.put, List.setIfInBounds_toArray, List.set_cons_succ, List.set_cons_zero, List.set_nil, Nat.reduceAdd]
            generalize x 0 = z0, x 1 = z1, x 2 = z2, x 3 = z3, x 4 = z4, x 5 = z5, x 6 = z6, x 7 = z7, x 8 = z8, x 9 = z9, x 10 = z10, x 11 = z11
            gi_wp2_with fail
            refine bodyPost_end (results_none rfl _ _ _) rfl ?_
            have hF : Z.take s ++ Z.drop (d + s) = m.way.filter (fun p => !X p) := by
              rw [← HRS.out.2, HI.out.zt.dr]
              have h9 := HI.out.zt.st
              rw [HS.out] at h9
              rw [h9]
            have hKL : KeepL g (.slice (some ⟨b, o, none⟩) n cap) wr (W4.drew.setCell ⟨g, 0, none⟩ (.slice (some ⟨b, cutO o cap d 4, none⟩) (n - d) (cap - d))) :=
              ((((KeepP.of_below HBQ.out).trans (KeepP.of_below ((Below.refl _ wq).drew))).trans (HKP.out.mono (fun k q => .inr (by rw [q]; rfl)))).trans (KeepP.of_below ((Below.refl _ W4).drew))).trans (KeepP.setCell (.inl rfl) _ _ _)
            refine ⟨⟨_, rfl⟩, (Lg.tl m.way X (d + s)).length, _, ⟨by rw [HRS.out.1], .slice (some ⟨b, cutO o cap d 4, none⟩) (n - d) (cap - d), ⟨?_, ?_⟩, rfl⟩, HJ.out _ _ _ _ HI.out.j (keepM_ld hKL HI.out.mg HI.out.mv)⟩
            · have h8 := HROW.out.drew.set 0 (.slice (some ⟨b, cutO o cap d 4, none⟩) (n - d) (cap - d))
              have h7 : Lg.asum (m.way.filter (fun p => !X p)) = Lg.askA m.way X (d + s) := by unfold Lg.askA; rw [HRS.out.2]
              rw [h7]
              exact h8
            · have h6 := HRO5.out
              rw [hF] at h6
              have h5 : n - d = (m.way.filter (fun p => !X p)).length := by have := h6.1; rw [vp_length] at this; omega
              rw [h5] at h6 ⊢
              exact h6.same (fun k hk => Below.heap_setCell _ _ _ _ (fun q => HGB.out (by have q' : k = g := q; rw [← q']; injection hk with hk; exact hk.symm)))
    · have hin : i = n := by omega
      have hrest : ∀ q ∈ m.way.drop i, X q = false := fun q hq => by
        rw [hin, ← HN.out, List.drop_length] at hq
        cases hq
      have d1 : decide ((i : Int) < (n : Int)) = false := by simp; omega
      have d2 : decide (i < n) = false := by simp; omega
      have HIN := veil hin
      clear hin
      cases va with
      | some ad =>
        obtain ⟨b, o, hbo⟩ : ∃ b o, ad = ⟨b, o, none⟩ := by
          have h9 := hI.ld.way
          rw [show (mlAt m X i Z).way.length = n from hI.zt.len.trans HN.out] at h9
          rcases h9.2 with ⟨h8, _⟩ | ⟨b, o, _, _, h8, _⟩
          · cases h8
          · injection h8 with h8
            injection h8 with h8
            exact ⟨b, o, h8⟩
        subst hbo
        clear hI
        gi_wp2_with fail
        gi_quiet (fail)
        gi_wp2_with fail
        have hbq : Below wr.heap.size wr (wr.drewN nq) := below_drewN (Below.refl _ wr) nq
        have hLq : LdOk (wr.drewN nq) g (.slice (some ⟨b, o, none⟩) n cap) (mlAt m X i Z) := HI.out.ld.below hbq
        replace k1 := (hbq.cell (p := ⟨B1, 0, none⟩) HI.out.bx.b1.lt).trans k1
        have HBQ := veil hbq
        clear hbq k0 k2 k3 d1 d2 hez hlt
        generalize wr.drewN nq = wq at *
        obtain ⟨d, hd⟩ : ∃ d, i = d + s := ⟨i - s, by omega⟩
        have hwq : RowO wq.drew 78 4 (.slice (some ⟨b, o, none⟩) n cap) n (vp Z) := by have := (hLq.below ((Below.refl _ wq).drew)).way; rw [show (mlAt m X i Z).way.length = n from HI.out.zt.len.trans HN.out] at this; exact this
        have hdn : d ≤ n := by omega
        obtain ⟨w5, c5, r5, kp5⟩ := bring_up (P := Tryz.prog) wq.drew 3 68 78 n b o cap d s Z Tryz.underlying68 (by kernel_rfl) hwq (HI.out.zt.len.trans HN.out) (by omega)
        have hgb : g ≠ b := fun q => hLq.apart (by rw [q]; rfl)
        have row5 : Row w5 g 70 (mlC (.slice (some ⟨b, o, none⟩) n cap) (mlAt m X i Z)) := kp5.row (hLq.below ((Below.refl _ wq).drew)).row hgb
        have m1 : w5.cell? ⟨B1, 0, none⟩ = some (.pointer (some ⟨g, 0, none⟩)) := by
          have hB1 : B1 ≠ b := fun q => (HB.out.out HI.out.lo).1 (HI.out.mv B1 (by rw [q]; rfl))
          exact (World.cell?_of_block (a := ⟨B1, 0, none⟩) (kp5.block B1 (Nat.lt_of_lt_of_le HI.out.bx.b1.lt HBQ.out.size) hB1)).trans k1
        have HCP := veil c5
        have q0 : wq.drew.cell? ⟨g, 0, none⟩ = some (.slice (some ⟨b, o, none⟩) n cap) := (hLq.below ((Below.refl _ wq).drew)).cells.c0
        have q1 : wq.drew.cell? ⟨B1, 0, none⟩ = some (.pointer (some ⟨g, 0, none⟩)) := k1
        have g0 : w5.drew.cell? ⟨g, 0, none⟩ = some (.slice (some ⟨b, o, none⟩) n cap) := row5.cell 0
        have gf : w5.drew.frozen? ⟨g, 0, none⟩ = false := row5.frozen 0
        have g1 : w5.drew.cell? ⟨B1, 0, none⟩ = some (.pointer (some ⟨g, 0, none⟩)) := m1
        have HROW := veil row5
        have HRO5 := veil r5
        have HKP := veil kp5
        have HHD := veil hd
        have HRS := veil (Lg.rest_none hrest)
        have HGB := veil hgb
        clear hLq hwq c5 r5 kp5 row5 m1 k1 hrest hgb
        subst hd
        refine wpIn_region_any (by kernel_rfl) ?_
        refine anyIn_spine (valCp g b o n cap d s) (RTw wq.drew w5) undef [15] [67, 68, 69, 70, 71, 72, 73, 74, 75, 76, 77, 78, 79, 80, 81, 82] depCp dclCp (by kernel_rfl) (by decide) rfl (by decide) (by decide) ?ord (by decide) ?h0 ?fix ?cal ?don
        case ord =>
          intro k i j h1 h2
          match k, h1, h2 with
          | 0, _, h2 => simp at h2
          | _ + 1, h1, _ => simp at h1
        case fix =>
          intro x W4 m2 ii d u hR hdi hni hdep hlo hhi
          match ii, hdi, hni, hdep, hhi with
          | 0, hdi, _, _, hhi =>
            obtain rfl := Option.some.inj hdi
            exact OI_value rfl rfl (about_none (by intro c h; cases h)) (by intro c h; cases h) (.pointer (some ⟨g, 0, none⟩)) W4 (lgRun_cell 28 _ ⟨B1, 0, none⟩ _ _ rfl (by kernel_rfl) Tryz.underlying28 rfl _ (by rw [hR.zero (hhi 0 15 rfl (by decide))]; exact q1)) ⟨rfl, rfl⟩
          | 1, hdi, _, hdep, _ =>
            obtain rfl := Option.some.inj hdi
            rw [updV_self (show x 0 = _ from hdep 0 (by simp [depCp]) (by decide))]
            exact OI_value rfl rfl (about_none (by intro c h; cases h)) (by intro c h; cases h) (.pointer (some ⟨g, 0, none⟩)) W4 (by kernel_rfl) ⟨rfl, rfl⟩
          | 2, hdi, _, hdep, _ =>
            obtain rfl := Option.some.inj hdi
            rw [updV_self (show x 1 = _ from hdep 1 (by simp [depCp]) (by decide))]
            exact OI_value rfl rfl (about_none (by intro c h; cases h)) (by intro c h; cases h) (.pointer (some ⟨g, 0, none⟩)) W4 (by kernel_rfl) ⟨rfl, rfl⟩
          | 3, hdi, _, hdep, hhi =>
            obtain rfl := Option.some.inj hdi
            rw [updV_self (show x 2 = _ from hdep 2 (by simp [depCp]) (by decide))]
            exact OI_value rfl rfl (about_none (by intro c h; cases h)) (by intro c h; cases h) (.slice (some ⟨b, o, none⟩) n cap) W4 (lgRun_cell 68 _ ⟨g, 0, none⟩ _ _ rfl (by kernel_rfl) Tryz.underlying68 rfl _ (by rw [hR.zero (hhi 0 15 rfl (by decide))]; exact q0)) ⟨rfl, rfl⟩
          | 4, hdi, _, _, _ =>
            obtain rfl := Option.some.inj hdi
            exact OI_value rfl rfl (about_none (by intro c h; cases h)) (by intro c h; cases h) (.int .i64 ((d + s : Nat) : Int)) W4 (by kernel_rfl) ⟨rfl, rfl⟩
          | 5, hdi, _, _, _ =>
            obtain rfl := Option.some.inj hdi
            exact OI_value rfl rfl (about_none (by intro c h; cases h)) (by intro c h; cases h) (.int .i64 (s : Int)) W4 (by kernel_rfl) ⟨rfl, rfl⟩
          | 6, hdi, _, hdep, _ =>
            obtain rfl := Option.some.inj hdi
            rw [updV_self (show x 4 = _ from hdep 4 (by simp [depCp]) (by decide)), updV_self (show (updV x 4 _) 5 = _ from hdep 5 (by simp [depCp]) (by decide))]
            exact OI_value rfl rfl (about_none (by intro c h; cases h)) (by intro c h; cases h) (.int .i64 (d : Int)) W4 (lgRun_sub _ _ _ _ (d + s) s d (by omega) (by omega) rfl (by kernel_rfl) (by kernel_rfl) _) ⟨rfl, rfl⟩
          | 7, hdi, _, _, _ =>
            obtain rfl := Option.some.inj hdi
            exact OI_value rfl rfl (about_none (by intro c h; cases h)) (by intro c h; cases h) (.int .i64 ((d + s : Nat) : Int)) W4 (by kernel_rfl) ⟨rfl, rfl⟩
          | 8, hdi, _, hdep, _ =>
            obtain rfl := Option.some.inj hdi
            rw [updV_self (show x 3 = _ from hdep 3 (by simp [depCp]) (by decide)), updV_self (show (updV x 3 _) 6 = _ from hdep 6 (by simp [depCp]) (by decide)), updV_self (show (updV (updV x 3 _) 6 _) 7 = _ from hdep 7 (by simp [depCp]) (by decide))]
            exact OI_value rfl rfl (about_none (by intro c h; cases h)) (by intro c h; cases h) (.slice (some ⟨b, cutO o cap d 4, none⟩) (d + s - d) (cap - d)) W4 (lgRun_cutLH 68 78 4 _ _ _ b o n cap d (d + s) rfl (by kernel_rfl) (by kernel_rfl) (by kernel_rfl) Tryz.underlying68 (by kernel_rfl) (by omega) (by have := HNC.out; omega) _) ⟨rfl, rfl⟩
          | 9, hdi, _, _, hhi =>
            obtain rfl := Option.some.inj hdi
            exact OI_value rfl rfl (about_none (by intro c h; cases h)) (by intro c h; cases h) (.pointer (some ⟨g, 0, none⟩)) W4 (lgRun_cell 28 _ ⟨B1, 0, none⟩ _ _ rfl (by kernel_rfl) Tryz.underlying28 rfl _ (by rw [hR.zero (hhi 0 15 rfl (by decide))]; exact q1)) ⟨rfl, rfl⟩
          | 10, hdi, _, hdep, _ =>
            obtain rfl := Option.some.inj hdi
            rw [updV_self (show x 9 = _ from hdep 9 (by simp [depCp]) (by decide))]
            exact OI_value rfl rfl (about_none (by intro c h; cases h)) (by intro c h; cases h) (.pointer (some ⟨g, 0, none⟩)) W4 (by kernel_rfl) ⟨rfl, rfl⟩
          | 11, hdi, _, hdep, _ =>
            obtain rfl := Option.some.inj hdi
            rw [updV_self (show x 10 = _ from hdep 10 (by simp [depCp]) (by decide))]
            exact OI_value rfl rfl (about_none (by intro c h; cases h)) (by intro c h; cases h) (.pointer (some ⟨g, 0, none⟩)) W4 (by kernel_rfl) ⟨rfl, rfl⟩
          | 12, hdi, _, hdep, hhi =>
            obtain rfl := Option.some.inj hdi
            rw [updV_self (show x 11 = _ from hdep 11 (by simp [depCp]) (by decide))]
            exact OI_value rfl rfl (about_none (by intro c h; cases h)) (by intro c h; cases h) (.slice (some ⟨b, o, none⟩) n cap) W4 (lgRun_cell 68 _ ⟨g, 0, none⟩ _ _ rfl (by kernel_rfl) Tryz.underlying68 rfl _ (by rw [hR.zero (hhi 0 15 rfl (by decide))]; exact q0)) ⟨rfl, rfl⟩
          | 13, hdi, _, _, _ =>
            obtain rfl := Option.some.inj hdi
            exact OI_value rfl rfl (about_none (by intro c h; cases h)) (by intro c h; cases h) (.int .i64 (s : Int)) W4 (by kernel_rfl) ⟨rfl, rfl⟩
          | 14, hdi, _, hdep, _ =>
            obtain rfl := Option.some.inj hdi
            rw [updV_self (show x 12 = _ from hdep 12 (by simp [depCp]) (by decide)), updV_self (show (updV x 12 _) 13 = _ from hdep 13 (by simp [depCp]) (by decide))]
            exact OI_value rfl rfl (about_none (by intro c h; cases h)) (by intro c h; cases h) (.slice (some ⟨b, o, none⟩) s cap) W4 (lgRun_cutH 68 78 4 _ _ b o n cap s rfl (by kernel_rfl) (by kernel_rfl) Tryz.underlying68 (by kernel_rfl) (by have := HNC.out; omega) _) ⟨rfl, rfl⟩
          | 15, _, hni, _, _ => exact absurd (by decide) hni
          | _ + 16, hdi, _, _, _ => simp at hdi
        case cal =>
          intro x W4 k2 ii d u hR hk hdi hdep hu0 hup
          match k2, hk, hR, hu0, hup with
          | 0, hk, hR, hu0, hup =>
            obtain rfl := Option.some.inj hk
            obtain rfl := Option.some.inj hdi
            obtain rfl : W4 = wq.drew := hR
            rw [updV_self (show x 8 = _ from hdep 8 (by simp [depCp]) (by decide)), updV_self (show (updV x 8 _) 14 = _ from hdep 14 (by simp [depCp]) (by decide))]
            exact OI_value rfl rfl (about_builtin _ _ _ rfl) (by intro c h; cases h) (goInt s) w5 (lgRun_copyB _ _ _ (.slice (some ⟨b, cutO o cap d 4, none⟩) (d + s - d) (cap - d)) (.slice (some ⟨b, o, none⟩) s cap) _ _ _ rfl (by kernel_rfl) (by kernel_rfl) (by rw [show d + s - d = s by omega]; exact HCP.out)) ⟨_, rfl, rfl⟩
          | _ + 1, hk, _, _, _ => simp at hk
        case h0 => exact rfl
        case don =>
          intro x W4 u hR _ _
          obtain rfl : W4 = w5 := hR
          simp only [putsV, Act.put, List.setIfInBounds_toArray, List.set_cons_succ, List.set_cons_zero, Nat.reduceAdd]
          generalize x 0 = z0, x 1 = z1, x 2 = z2, x 3 = z3, x 4 = z4, x 5 = z5, x 6 = z6, x 7 = z7, x 8 = z8, x 9 = z9, x 10 = z10, x 11 = z11, x 12 = z12, x 13 = z13, x 14 = z14, x 15 = z15
          gi_wp2_with fail
          refine wpIn_region_any (by kernel_rfl) ?_
          refine anyIn_spine (valSl g b o n cap d s) (RTw W4.drew (W4.drew.setCell ⟨g, 0, none⟩ (.slice (some ⟨b, cutO o cap d 4, none⟩) (n - d) (cap - d)))) undef [11] [83, 84, 85, 86, 87, 88, 89, 90, 91, 92, 93, 100000] depSl dclSl (by kernel_rfl) (by decide) rfl (by decide) (by decide) ?ord (by decide) ?h0 ?fix ?cal ?don
          case ord =>
            intro k i j h1 h2
            match k, h1, h2 with
            | 0, _, h2 => simp at h2
            | _ + 1, h1, _ => simp at h1
          case fix =>
            intro x W9 m2 ii d u hR hdi hni hdep hlo hhi
            match ii, hdi, hni, hdep, hhi with
            | 0, hdi, _, _, hhi =>
              obtain rfl := Option.some.inj hdi
              exact OI_value rfl rfl (about_none (by intro c h; cases h)) (by intro c h; cases h) (.pointer (some ⟨g, 0, none⟩)) W9 (lgRun_cell 28 _ ⟨B1, 0, none⟩ _ _ rfl (by kernel_rfl) Tryz.underlying28 rfl _ (by rw [hR.zero (hhi 0 11 rfl (by decide))]; exact g1)) ⟨rfl, rfl⟩
            | 1, hdi, _, _, hhi =>
              obtain rfl := Option.some.inj hdi
              exact OI_value rfl rfl (about_none (by intro c h; cases h)) (by intro c h; cases h) (.pointer (some ⟨g, 0, none⟩)) W9 (lgRun_cell 28 _ ⟨B1, 0, none⟩ _ _ rfl (by kernel_rfl) Tryz.underlying28 rfl _ (by rw [hR.zero (hhi 0 11 rfl (by decide))]; exact g1)) ⟨rfl, rfl⟩
            | 2, hdi, _, hdep, _ =>
              obtain rfl := Option.some.inj hdi
              rw [updV_self (show x 1 = _ from hdep 1 (by simp [depSl]) (by decide))]
              exact OI_value rfl rfl (about_none (by intro c h; cases h)) (by intro c h; cases h) (.pointer (some ⟨g, 0, none⟩)) W9 (by kernel_rfl) ⟨rfl, rfl⟩
            | 3, hdi, _, hdep, _ =>
              obtain rfl := Option.some.inj hdi
              rw [updV_self (show x 2 = _ from hdep 2 (by simp [depSl]) (by decide))]
              exact OI_value rfl rfl (about_none (by intro c h; cases h)) (by intro c h; cases h) (.pointer (some ⟨g, 0, none⟩)) W9 (by kernel_rfl) ⟨rfl, rfl⟩
            | 4, hdi, _, hdep, hhi =>
              obtain rfl := Option.some.inj hdi
              rw [updV_self (show x 3 = _ from hdep 3 (by simp [depSl]) (by decide))]
              exact OI_value rfl rfl (about_none (by intro c h; cases h)) (by intro c h; cases h) (.slice (some ⟨b, o, none⟩) n cap) W9 (lgRun_cell 68 _ ⟨g, 0, none⟩ _ _ rfl (by kernel_rfl) Tryz.underlying68 rfl _ (by rw [hR.zero (hhi 0 11 rfl (by decide))]; exact g0)) ⟨rfl, rfl⟩
            | 5, hdi, _, _, _ =>
              obtain rfl := Option.some.inj hdi
              exact OI_value rfl rfl (about_none (by intro c h; cases h)) (by intro c h; cases h) (.int .i64 ((d + s : Nat) : Int)) W9 (by kernel_rfl) ⟨rfl, rfl⟩
            | 6, hdi, _, _, _ =>
              obtain rfl := Option.some.inj hdi
              exact OI_value rfl rfl (about_none (by intro c h; cases h)) (by intro c h; cases h) (.int .i64 (s : Int)) W9 (by kernel_rfl) ⟨rfl, rfl⟩
            | 7, hdi, _, hdep, _ =>
              obtain rfl := Option.some.inj hdi
              rw [updV_self (show x 5 = _ from hdep 5 (by simp [depSl]) (by decide)), updV_self (show (updV x 5 _) 6 = _ from hdep 6 (by simp [depSl]) (by decide))]
              exact OI_value rfl rfl (about_none (by intro c h; cases h)) (by intro c h; cases h) (.int .i64 (d : Int)) W9 (lgRun_sub _ _ _ _ (d + s) s d (by omega) (by omega) rfl (by kernel_rfl) (by kernel_rfl) _) ⟨rfl, rfl⟩
            | 8, hdi, _, hdep, _ =>
              obtain rfl := Option.some.inj hdi
              rw [updV_self (show x 4 = _ from hdep 4 (by simp [depSl]) (by decide)), updV_self (show (updV x 4 _) 7 = _ from hdep 7 (by simp [depSl]) (by decide))]
              exact OI_value rfl rfl (about_none (by intro c h; cases h)) (by intro c h; cases h) (.slice (some ⟨b, cutO o cap d 4, none⟩) (n - d) (cap - d)) W9 (lgRun_cutL 68 78 4 _ _ b o n cap d rfl (by kernel_rfl) (by kernel_rfl) Tryz.underlying68 (by kernel_rfl) (by omega) HNC.out _) ⟨rfl, rfl⟩
            | 9, hdi, _, hdep, _ =>
              obtain rfl := Option.some.inj hdi
              rw [updV_self (show x 0 = _ from hdep 0 (by simp [depSl]) (by decide))]
              exact OI_value rfl rfl (about_none (by intro c h; cases h)) (by intro c h; cases h) (.pointer (some ⟨g, 0, none⟩)) W9 (by kernel_rfl) ⟨rfl, rfl⟩
            | 10, hdi, _, hdep, _ =>
              obtain rfl := Option.some.inj hdi
              rw [updV_self (show x 9 = _ from hdep 9 (by simp [depSl]) (by decide))]
              exact OI_value rfl rfl (about_none (by intro c h; cases h)) (by intro c h; cases h) (.pointer (some ⟨g, 0, none⟩)) W9 (by kernel_rfl) ⟨rfl, rfl⟩
            | 11, _, hni, _, _ => exact absurd (by decide) hni
            | _ + 12, hdi, _, _, _ => simp at hdi
          case cal =>
            intro x W9 k2 ii d u hR hk hdi hdep hu0 hup
            match k2, hk, hR, hu0, hup with
            | 0, hk, hR, hu0, hup =>
              obtain rfl := Option.some.inj hk
              obtain rfl := Option.some.inj hdi
              obtain rfl : W9 = _ := hR
              rw [updV_self (show x 10 = _ from hdep 10 (by simp [depSl]) (by decide)), updV_self (show (updV x 10 _) 8 = _ from hdep 8 (by simp [depSl]) (by decide))]
              exact OI_skip rfl rfl (about_none (by intro c h; cases h)) (by intro c h; cases h) _ (lgRun_store 68 _ _ ⟨g, 0, none⟩ (.slice (some ⟨b, cutO o cap d 4, none⟩) (n - d) (cap - d)) (.slice (some ⟨b, o, none⟩) n cap) rfl rfl (by kernel_rfl) (by kernel_rfl) (by kernel_rfl) _ g0 gf) ⟨undef, (lgPut_none _ _).trans (put_far _ _ _ (by rw [puts_size]; exact Nat.le_of_ble_eq_true rfl)).symm, rfl⟩
            | _ + 1, hk, _, _, _ => simp at hk
          case h0 => exact rfl
          case don =>
            intro x W9 u hR _ _
            obtain rfl : W9 = _ := hR
            simp only [putsV, Act.put, List.setIfInBounds_toArray, List.set_cons_succ, List.set_cons_zero, List.set_nil, Nat.reduceAdd]
            generalize x 0 = z0, x 1 = z1, x 2 = z2, x 3 = z3, x 4 = z4, x 5 = z5, x 6 = z6, x 7 = z7, x 8 = z8, x 9 = z9, x 10 = z10, x 11 = z11
            gi_wp2_with fail
            refine bodyPost_end (results_none rfl _ _ _) rfl ?_
            have hF : Z.take s ++ Z.drop (d + s) = m.way.filter (fun p => !X p) := by
              rw [← HRS.out.2, HI.out.zt.dr]
              have h9 := HI.out.zt.st
              rw [HS.out] at h9
              rw [h9]
            have hKL : KeepL g (.slice (some ⟨b, o, none⟩) n cap) wr (W4.drew.setCell ⟨g, 0, none⟩ (.slice (some ⟨b, cutO o cap d 4, none⟩) (n - d) (cap - d))) :=
              ((((KeepP.of_below HBQ.out).trans (KeepP.of_below ((Below.refl _ wq).drew))).trans (HKP.out.mono (fun k q => .inr (by rw [q]; rfl)))).trans (KeepP.of_below ((Below.refl _ W4).drew))).trans (KeepP.setCell (.inl rfl) _ _ _)
            refine ⟨⟨_, rfl⟩, (Lg.tl m.way X (d + s)).length, _, ⟨by rw [HRS.out.1], .slice (some ⟨b, cutO o cap d 4, none⟩) (n - d) (cap - d), ⟨?_, ?_⟩, rfl⟩, HJ.out _ _ _ _ HI.out.j (keepM_ld hKL HI.out.mg HI.out.mv)⟩
            · have h8 := HROW.out.drew.set 0 (.slice (some ⟨b, cutO o cap d 4, none⟩) (n - d) (cap - d))
              have h7 : Lg.asum (m.way.filter (fun p => !X p)) = Lg.askA m.way X (d + s) := by unfold Lg.askA; rw [HRS.out.2]
              rw [h7]
              exact h8
            · have h6 := HRO5.out
              rw [hF] at h6
              have h5 : n - d = (m.way.filter (fun p => !X p)).length := by have := h6.1; rw [vp_length] at this; omega
              rw [h5] at h6 ⊢
              exact h6.same (fun k hk => Below.heap_setCell _ _ _ _ (fun q => HGB.out (by have q' : k = g := q; rw [← q']; injection hk with hk; exact hk.symm)))
      | none =>
        have h9 := hI.ld.way
        rw [show (mlAt m X i Z).way.length = n from hI.zt.len.trans HN.out] at h9
        obtain ⟨hn0, hc0⟩ : n = 0 ∧ cap = 0 := by
          rcases h9.2 with ⟨h8, _⟩ | ⟨b, o, _, _, h8, _⟩
          · injection h8 with _ h8 h7
            exact ⟨h8, h7⟩
          · cases h8
        have hi0 : i = 0 := by omega
        have hs0 : s = 0 := by omega
        have hbq : ∀ nq, Below wr.heap.size wr (wr.drewN nq) := fun nq => below_drewN (Below.refl _ wr) nq
        have HBQ := veil hbq
        have HRS := veil (Lg.rest_none hrest)
        have hkg := hI.ld.cells.f 0
        subst hn0 hc0 hi0 hs0
        clear hI h9 hbq hrest HIN hile hsi hlt d1 d2 hez
        have d1 : decide ((0 : Int) < (0 : Int)) = false := by decide
        have d2 : decide (0 < 0) = false := by decide
        gi_wp2_with fail
        gi_quiet (fail)
        gi_wp2_with fail
        have hcn : ∀ W : World, (Builtin.copy_ #[68, 68] 3 #[.slice none 0 0, .slice none 0 0]).run Tryz.prog W = .ok (goInt 0) W := fun W => copy_none W 3 68 78 4 Tryz.underlying68 (by kernel_rfl)
        gi_region
        gi_wp2_with fail
        gi_region
        gi_wp2_with fail
        refine bodyPost_end (results_none rfl _ _ _) rfl ?_
        have hw0 : m.way = [] := List.eq_nil_of_length_eq_zero HN.out
        have hKL : KeepL g (.slice none 0 0) wr ((wr.drewN (nq + 1 + 1)).setCell ⟨g, 0, none⟩ (.slice none 0 0)) := (KeepP.of_below (HBQ.out _)).trans (KeepP.setCell (.inl rfl) _ _ _)
        refine ⟨⟨_, rfl⟩, (Lg.tl m.way X 0).length, _, ⟨by rw [HRS.out.1], .slice none 0 0, ⟨?_, ?_⟩, rfl⟩, HJ.out _ _ _ _ HI.out.j (keepM_ld hKL HI.out.mg HI.out.mv)⟩
        · have h8 := (HI.out.ld.below (HBQ.out (nq + 1 + 1))).row.set 0 (.slice none 0 0)
          have h7 : Lg.asum (m.way.filter (fun p => !X p)) = Lg.askA m.way X 0 := by unfold Lg.askA; rw [HRS.out.2]
          rw [h7]
          exact h8
        · show RowO _ _ 4 _ (m.way.filter (fun p => !X p)).length (vp (m.way.filter (fun p => !X p)))
          rw [hw0]
          exact RowO.nil _ _ _
set_option maxRecDepth 20000 in
set_option maxHeartbeats 2000000 in
theorem takeLate_in (N l z B1 B2 B3 g e C1 C2 : Nat) (v : Value) (m : ML) (X0 : Lg.Pk → Bool) (st M0 : Nat → Prop) (Gb : World → Prop) (J : Nat → (Nat → Prop) → World → Prop) (W : World) (hm : Fits m) (he : e ≤ 4611686018427387904) (hB : TkB B1 B2 B3 z M0 st)
    (hJG : ∀ s M A, J s M A → Gb A) (hJ : ∀ s M A B, J s M A → KeepM M A B → J s (newM M A B) B)
    (hG : ∀ (W : World) (Z : List Lg.Pk) (a : Nat), Gb W → Row W g 70 (mlC v { m with way := Z, ask := a }) → ∀ p ∈ m.way, p.num < e → Calls Tryz.prog 93 #[.agg (pkC p), .pointer (some ⟨C1, 0, none⟩), .pointer (some ⟨C2, 0, none⟩)] W fun r W' => r = .returned (.bool (X0 p)) ∧ Below W.heap.size W W')
    (hY : ∀ s x s' M W1, (m.way.filter (fun p => decide (p.num < e) && X0 p))[s]? = some x ∧ s' = s + 1 → J s M W1 → YieldW Tryz.prog l #[.agg (pkC x)] W1 fun r W' => (r = .returned (.bool true) ∧ J s' M W') ∧ KeepY z st M W1 W')
    (h0 : J 0 M0 W) (hL : LdOk W g v m) (hX : TkW B1 B2 B3 g e (.func (.func 93) #[] #[.pointer (some ⟨C1, 0, none⟩), .pointer (some ⟨C2, 0, none⟩)]) W) (hg : M0 g) (hv : ∀ k, v.ownBlock = some k → M0 k) (hz : z ≤ W.heap.size) :
    CallsIn Fence.wide N Tryz.prog 87 #[.func (.yield l) #[] #[], .pointer (some ⟨B1, 0, none⟩), .pointer (some ⟨B2, 0, none⟩), .pointer (some ⟨B3, 0, none⟩)] W fun r W' => (∃ u, r = .returned u) ∧ ∃ s M, (s = (m.way.filter (fun p => decide (p.num < e) && X0 p)).length ∧ ∃ v', LdOk W' g v' { m with way := m.way.filter (fun p => !(decide (p.num < e) && X0 p)), ask := Lg.asum (m.way.filter (fun p => !(decide (p.num < e) && X0 p))) } ∧ v'.ownBlock = v.ownBlock) ∧ J s M W' := by
  obtain ⟨X, hXX⟩ : ∃ X : Lg.Pk → Bool, X = fun p => decide (p.num < e) && X0 p := ⟨_, rfl⟩
  have hXN : (fun p => !(decide (p.num < e) && X0 p)) = fun p => !X p := by rw [hXX]
  rw [hXN]
  rw [← hXX] at hY ⊢
  have hA0 : Lg.askA m.way X 0 = m.ask := by rw [hm.ask]; unfold Lg.askA Lg.asum Lg.sl; simp
  have I0 : TkI z M0 J B1 B2 B3 g e (.func (.func 93) #[] #[.pointer (some ⟨C1, 0, none⟩), .pointer (some ⟨C2, 0, none⟩)]) v m X 0 m.way M0 W := ⟨Lg.Zt.zero _ _, (by show J (Lg.tl m.way X 0).length M0 W; unfold Lg.tl; simpa using h0), (by show LdOk W g v { m with way := m.way, ask := _ }; rw [hA0]; exact hL), hX, fun k q => .inl q, hg, hv, hz⟩
  obtain ⟨n, hn⟩ : ∃ n, m.way.length = n := ⟨_, rfl⟩
  obtain ⟨va, cap, hva, hnc, hcm⟩ := hL.way.shape
  rw [hn] at hva hnc
  have hn5 : n ≤ 2000 := by rw [← hn]; exact hm.len
  have HM := veil hm
  have HB := veil hB
  have HG := veil hG
  have HJG := veil hJG
  have HJ := veil hJ
  have HY := veil hY
  have HN := veil hn
  have HXX := veil hXX
  have HI0 := veil I0
  have HNC := veil hnc
  have hez : (e : Int) < 9223372036854775808 := by omega
  subst hva
  clear hm hB hG hJG hJ hY h0 hL hX hg hv hz hXX hXN hA0 I0 hn hcm he hnc
  refine callsIn_of_wp Tryz.func87 rfl trivial ?_ rfl
  simp only [Tryz.ntmps87, List.size_toArray, List.length_cons, List.length_nil, Nat.reduceAdd, Nat.reduceSub, Array.replicate_succ, Array.replicate_zero, List.push_toArray, List.append_toArray, List.nil_append, List.cons_append]
  gi_wp2_with fail
  gi_loopw [5, 6, 7] (fun sv tv mv wr => ∃ (i : Nat) (Z : List Lg.Pk) (M : Nat → Prop), sv = .int .i64 (i : Int) ∧ tv = .int .i64 ((Lg.sl m.way X i).length : Int) ∧ mv = .bool true ∧ TkI z M0 J B1 B2 B3 g e (.func (.func 93) #[] #[.pointer (some ⟨C1, 0, none⟩), .pointer (some ⟨C2, 0, none⟩)]) (.slice va n cap) m X i Z M wr)
    (fun sv _ _ _ => n - (intOf sv).toNat)
  case atStart => exact ⟨0, _, _, rfl, by simp [Lg.sl], rfl, HI0.out⟩
  case round =>
    clear HI0
    obtain ⟨i, Z, M, rfl, rfl, rfl, hI⟩ := hrel
    have HI := veil hI
    have hile : i ≤ n := by rw [← HN.out]; exact hI.zt.ile
    have hsi := Lg.sl_le m.way X i hI.zt.ile
    have k1 : wr.cell? ⟨B1, 0, none⟩ = some (.pointer (some ⟨g, 0, none⟩)) := hI.bx.b1.cell 0
    have k2 : wr.cell? ⟨B2, 0, none⟩ = some (.int .u64 (e : Int)) := hI.bx.b2.cell 0
    have k3 : wr.cell? ⟨B3, 0, none⟩ = some (.func (.func 93) #[] #[.pointer (some ⟨C1, 0, none⟩), .pointer (some ⟨C2, 0, none⟩)]) := hI.bx.b3.cell 0
    have k0 : wr.cell? ⟨g, 0, none⟩ = some (.slice va n cap) := hI.ld.cells.c0
    obtain ⟨s, hs⟩ : ∃ s, (Lg.sl m.way X i).length = s := ⟨_, rfl⟩
    rw [hs] at hsi ⊢
    have HS := veil hs
    clear hs
    by_cases hlt : i < n
    · obtain ⟨p, hp⟩ : ∃ p, m.way[i]? = some p := ⟨_, List.getElem?_eq_getElem (by rw [HN.out]; exact hlt)⟩
      have hpZ : Z[i]? = some p := by rw [hI.zt.get]; exact hp
      have hwy : RowO wr 78 4 (.slice va n cap) n (vp Z) := by have := hI.ld.way; rw [show (mlAt m X i Z).way.length = n from hI.zt.len.trans HN.out] at this; exact this
      obtain ⟨b, o, rfl, hbl, y0, y1, y2, y3⟩ := way_at hwy hpZ
      have hpm := List.mem_of_getElem? hp
      have HP := veil hp
      have d1 : decide ((i : Int) < (n : Int)) = true := by simp; omega
      have d2 : decide (i < n) = true := by simp; omega
      by_cases hpe : p.num < e
      · have d3 : decide ((p.num : Int) < (e : Int)) = true := by simp; omega
        have d4 : decide (p.num < e) = true := by simp; omega
        have GC := veil (fun (W : World) (q : Gb W) (r : Row W g 70 (mlC (.slice (some ⟨b, o, none⟩) n cap) (mlAt m X i Z))) => HG.out W Z (Lg.askA m.way X i) q r p hpm hpe)
        have HXp := veil (show X p = X0 p by rw [HXX.out]; simp only [d4, Bool.true_and])
        clear hI hwy hpZ hp
        gi_wp2_with fail
        gi_quiet (fail)
        have hbq : Below wr.heap.size wr (wr.drewN nq) := below_drewN (Below.refl _ wr) nq
        have hzq : (wr.drewN nq).heap.size = wr.heap.size := rfl
        have lg := HI.out.ld.lt
        have l1 := HI.out.bx.b1.lt
        have l3 := HI.out.bx.b3.lt
        replace k1 := (hbq.cell (p := ⟨B1, 0, none⟩) l1).trans k1
        replace k3 := (hbq.cell (p := ⟨B3, 0, none⟩) l3).trans k3
        replace k0 := (hbq.cell (p := ⟨g, 0, none⟩) lg).trans k0
        replace y0 := (hbq.cell (p := ⟨b, o + i * 4, none⟩) hbl).trans y0
        replace y1 := (hbq.cell (p := ⟨b, o + i * 4 + 1, none⟩) hbl).trans y1
        replace y2 := (hbq.cell (p := ⟨b, o + i * 4 + 2, none⟩) hbl).trans y2
        replace y3 := (hbq.cell (p := ⟨b, o + i * 4 + 3, none⟩) hbl).trans y3
        have HBQ := veil hbq
        have HZQ := veil hzq
        clear hbq k2 d3 d4 d1 d2 lg l1 l3 hez
        generalize wr.drewN nq = wq at *
        have hb1 : Below wr.heap.size wr (wq.alloc (.cells #[.int .u64 (p.num : Int), .int .i64 (p.size : Int), .int .u64 (p.time : Int), .bool p.asks] 78)) := HBQ.out.alloc HBQ.out.size _
        have HB1 := veil hb1
        have HBX := veil (show Row (wq.alloc (.cells #[.int .u64 (p.num : Int), .int .i64 (p.size : Int), .int .u64 (p.time : Int), .bool p.asks] 78)) wr.heap.size 78 #[.int .u64 (p.num : Int), .int .i64 (p.size : Int), .int .u64 (p.time : Int), .bool p.asks] from by rw [← hzq]; exact Row.new _ _ _)
        have HGb := veil (HJG.out _ _ _ (HJ.out _ _ _ _ HI.out.j (KeepM.of_below hb1)))
        have HR1 := veil ((HI.out.ld.below hb1).row)
        have j3 : (wq.alloc (.cells #[.int .u64 (p.num : Int), .int .i64 (p.size : Int), .int .u64 (p.time : Int), .bool p.asks] 78)).cell? ⟨B3, 0, none⟩ = some (.func (.func 93) #[] #[.pointer (some ⟨C1, 0, none⟩), .pointer (some ⟨C2, 0, none⟩)]) := (hb1.cell (p := ⟨B3, 0, none⟩) HI.out.bx.b3.lt).trans (HI.out.bx.b3.cell 0)
        clear hb1
        gi_wp2_with fail
        refine ⟨trivial, (fun h => by simp [Fence.wide] at h), (callsIn_wide.2 (GC.out _ HGb.out HR1.out)).mono ?_⟩
        rintro r2 w2 ⟨rfl, hb2⟩
        have hB2 : Below wr.heap.size wr w2 := HB1.out.trans (hb2.mono HB1.out.size)
        have bx2 := HBX.out.below hb2 HBX.out.lt
        have m1 : w2.cell? ⟨B1, 0, none⟩ = some (.pointer (some ⟨g, 0, none⟩)) := (hB2.cell (p := ⟨B1, 0, none⟩) HI.out.bx.b1.lt).trans (HI.out.bx.b1.cell 0)
        have hL2 : LdOk w2 g (.slice (some ⟨b, o, none⟩) n cap) (mlAt m X i Z) := HI.out.ld.below hB2
        have m0 := hL2.cells.c0
        have x0 : w2.cell? ⟨wr.heap.size, 0, none⟩ = some (.int .u64 (p.num : Int)) := bx2.cell 0
        have x1 : w2.cell? ⟨wr.heap.size, 1, none⟩ = some (.int .i64 (p.size : Int)) := bx2.cell 1
        have x2 : w2.cell? ⟨wr.heap.size, 2, none⟩ = some (.int .u64 (p.time : Int)) := bx2.cell 2
        have x3 : w2.cell? ⟨wr.heap.size, 3, none⟩ = some (.bool p.asks) := bx2.cell 3
        have HB2 := veil hB2
        have HL2 := veil hL2
        clear hb2 bx2 hB2 k0 k1 k3 y0 y1 y2 y3 j3 HR1 HGb HBX HB1 GC HBQ HZQ
        cases hx0 : X0 p
        · have hxp : X p = false := HXp.out.trans hx0
          have hsn : s < n := by omega
          obtain ⟨p', hp'⟩ : ∃ p', Z[s]? = some p' := ⟨_, List.getElem?_eq_getElem (by rw [HI.out.zt.len, HN.out]; exact hsn)⟩
          have hwy2 : RowO w2 78 4 (.slice (some ⟨b, o, none⟩) n cap) n (vp Z) := by have := hL2.way; rw [show (mlAt m X i Z).way.length = n from HI.out.zt.len.trans HN.out] at this; exact this
          obtain ⟨b', o', hbo, _, z0, z1, z2, z3⟩ := way_at hwy2 hp'
          injection hbo with hbo
          injection hbo with hb' ho'
          subst hb' ho'
          have hf : ∀ k, w2.frozen? ⟨b, k, none⟩ = false := fun k => RowO.frozen hwy2 k
          have f0 := hf (o + s * 4)
          have f1 := hf (o + s * 4 + 1)
          have f2 := hf (o + s * 4 + 2)
          have f3 := hf (o + s * 4 + 3)
          obtain ⟨hL3, hK3⟩ := hL2.setPk (HI.out.zt.len.trans HN.out) s hsn p
          have hKM := keepM_ld (M := M) ((((KeepP.of_below HB2.out).trans hK3).trans (KeepP.of_below ((Below.refl _ _).drew)) : KeepL g (.slice (some ⟨b, o, none⟩) n cap) wr _)) HI.out.mg HI.out.mv
          obtain ⟨M', hst⟩ := HI.out.step HJ.out HB.out hKM (Z' := Z.set s p) (a := Lg.askA m.way X i) (hL3.below ((Below.refl _ _).drew))
          have HST := veil hst
          clear hst
          have HA := veil (Lg.askA_stay (X := X) HP.out hxp)
          have HZ := veil (HI.out.zt.stay HP.out hxp)
          have HSl := veil (show (Lg.sl m.way X (i + 1)).length = s + 1 by rw [Lg.sl_succ HP.out, if_neg (by rw [hxp]; decide), List.length_append, HS.out]; rfl)
          have HTl := veil (show Lg.tl m.way X (i + 1) = Lg.tl m.way X i by rw [Lg.tl_succ HP.out, if_neg (by rw [hxp]; decide)])
          have HLT := veil hlt
          clear hL2 hp' hwy2 hf hL3 hK3 hKM hxp hx0
          gi_wp2_with fail
          gi_region
          gi_wp2_with fail
          obtain ⟨q1, q2, q3, q4, q5, q6, q7⟩ := HST.out
          refine ⟨⟨i + 1, Z.set s p, M', by go_num, by rw [HSl.out]; go_num, rfl, ?_⟩, by have := HLT.out; simp [intOf]; omega⟩
          refine ⟨by have := HZ.out; rw [HS.out] at this; exact this, by rw [HTl.out]; exact q1, ?_, q2, q3, q4, q5, q6⟩
          unfold mlAt
          rw [HA.out]
          exact q7
        · have hxp : X p = true := HXp.out.trans hx0
          have HZ := veil (HI.out.zt.go HP.out hxp)
          have HSl := veil (show (Lg.sl m.way X (i + 1)).length = s by rw [Lg.sl_succ HP.out, if_pos hxp, HS.out])
          have HTl := veil (show (Lg.tl m.way X (i + 1)).length = (Lg.tl m.way X i).length + 1 by rw [Lg.tl_succ HP.out, if_pos hxp, List.length_append]; rfl)
          have HAg := veil (Lg.askA_go (X := X) HP.out hxp)
          have HTs := veil (Lg.tl_step (X := X) HP.out hxp)
          have HLT := veil hlt
          clear hx0 hxp
          cases hpa : p.asks
          · rw [hpa] at x3
            have hAA : Lg.askA m.way X i = Lg.askA m.way X (i + 1) := by have := HAg.out; rw [hpa] at this; simpa using this
            have hKM := keepM_ld (M := M) (KeepP.of_below HB2.out : KeepL g (.slice (some ⟨b, o, none⟩) n cap) wr _) HI.out.mg HI.out.mv
            obtain ⟨M', hst⟩ := HI.out.step HJ.out HB.out hKM (Z' := Z) (a := Lg.askA m.way X i) hL2
            have HST := veil hst
            clear hst
            obtain ⟨fn, tmps, assign, body, hy, hRR⟩ := HY.out _ p _ _ _ ⟨HTs.out, rfl⟩ HST.out.1 (N - 1)
            unfold pkC at hy
            simp only [hpa] at hy
            have HRR := veil hRR
            have HAA := veil hAA
            clear hRR hAA hKM hL2
            gi_wp2_with fail
            refine ⟨(fun h => by simp [Fence.wide] at h), HRR.out.mono ?_⟩
            rintro r3 w3 ⟨⟨rfl, hJ3⟩, hk3⟩
            have HJ3 := veil hJ3
            have HBK := veil (TkI.back HB.out hk3 HST.out.2.2.2.2.2.2 HST.out.2.1 HST.out.2.2.2.1 HST.out.2.2.2.2.1 HST.out.2.2.2.2.2.1)
            clear hJ3 hk3 hy m0 m1 x0 x1 x2 x3
            gi_wp2_with fail
            refine ⟨⟨i + 1, Z, M', by go_num, by rw [HSl.out], rfl, ?_⟩, by have := HLT.out; simp [intOf]; omega⟩
            refine ⟨HZ.out, by rw [HTl.out]; exact HJ3.out, ?_, HBK.out.2.1, HST.out.2.2.1, HST.out.2.2.2.1, HST.out.2.2.2.2.1, HBK.out.2.2⟩
            unfold mlAt
            rw [← HAA.out]
            exact HBK.out.1
          · rw [hpa] at x3
            have hAA : Lg.askA m.way X i = p.size + Lg.askA m.way X (i + 1) := by have := HAg.out; rw [hpa, if_pos rfl] at this; exact this
            have ha := hL2.cells.c1
            have hfa := hL2.cells.f 1
            rw [show (mlAt m X i Z).ask = p.size + Lg.askA m.way X (i + 1) from hAA] at ha
            have hbd : p.size + Lg.askA m.way X (i + 1) ≤ 3000000 := by
              rw [← hAA]
              exact askA_le HM.out X i
            obtain ⟨a1, ha1⟩ : ∃ a1, Lg.askA m.way X (i + 1) = a1 := ⟨_, rfl⟩
            rw [ha1] at ha hbd
            have hsub : IntKind.i64.wrap (((p.size + a1 : Nat) : Int) - (p.size : Int)) = (a1 : Int) := by rw [IntKind.wrap_i64]; omega
            obtain ⟨a2, ha2⟩ : ∃ a2, p.size + a1 = a2 := ⟨_, rfl⟩
            rw [ha2] at ha hsub
            obtain ⟨hL3, hK3⟩ := hL2.setAsk a1
            have hKM := keepM_ld (M := M) ((((KeepP.of_below HB2.out).trans hK3).trans (KeepP.of_below ((Below.refl _ _).drew)) : KeepL g (.slice (some ⟨b, o, none⟩) n cap) wr _)) HI.out.mg HI.out.mv
            obtain ⟨M', hst⟩ := HI.out.step HJ.out HB.out hKM (Z' := Z) (a := a1) (hL3.below ((Below.refl _ _).drew))
            have HST := veil hst
            clear hst
            have hne : wr.heap.size ≠ g := fun q => by have := HI.out.ld.lt; omega
            obtain ⟨fn, tmps, assign, body, hy, hRR⟩ := HY.out _ p _ _ _ ⟨HTs.out, rfl⟩ HST.out.1 (N - 1)
            unfold pkC at hy
            simp only [hpa] at hy
            have HRR := veil hRR
            have HA1 := veil ha1
            clear hRR hAA hKM hL2 ha1 ha2 hbd hL3 hK3
            gi_wp2_with fail
            gi_region
            gi_wp2_with fail
            refine ⟨(fun h => by simp [Fence.wide] at h), HRR.out.mono ?_⟩
            rintro r3 w3 ⟨⟨rfl, hJ3⟩, hk3⟩
            have HJ3 := veil hJ3
            have HBK := veil (TkI.back HB.out hk3 HST.out.2.2.2.2.2.2 HST.out.2.1 HST.out.2.2.2.1 HST.out.2.2.2.2.1 HST.out.2.2.2.2.2.1)
            clear hJ3 hk3 hy m0 m1 x0 x1 x2 x3 ha hfa
            gi_wp2_with fail
            refine ⟨⟨i + 1, Z, M', by go_num, by rw [HSl.out], rfl, ?_⟩, by have := HLT.out; simp [intOf]; omega⟩
            refine ⟨HZ.out, by rw [HTl.out]; exact HJ3.out, ?_, HBK.out.2.1, HST.out.2.2.1, HST.out.2.2.2.1, HST.out.2.2.2.2.1, HBK.out.2.2⟩
            unfold mlAt
            rw [HA1.out]
            exact HBK.out.1
      · have hrest : ∀ q ∈ m.way.drop i, X q = false := fun q hq => by
          have := Lg.rest_up HM.out.up (i := i) (e := e) (fun p2 hp2 => by rw [hp] at hp2; injection hp2 with hp2; subst hp2; omega) q hq
          rw [HXX.out]
          simp only [show decide (q.num < e) = false by simp; omega, Bool.false_and]
        have d3 : decide ((p.num : Int) < (e : Int)) = false := by simp; omega
        have d4 : decide (p.num < e) = false := by simp; omega
        clear hI hwy hpZ hp hpe
        gi_wp2_with fail
        gi_quiet (fail)
        gi_wp2_with fail
        have hbq : Below wr.heap.size wr (wr.drewN nq) := below_drewN (Below.refl _ wr) nq
        have hLq : LdOk (wr.drewN nq) g (.slice (some ⟨b, o, none⟩) n cap) (mlAt m X i Z) := HI.out.ld.below hbq
        replace k1 := (hbq.cell (p := ⟨B1, 0, none⟩) HI.out.bx.b1.lt).trans k1
        have HBQ := veil hbq
        clear hbq k0 k2 k3 y0 y1 y2 y3 d1 d2 d3 d4 hez
        generalize wr.drewN nq = wq at *
        obtain ⟨d, hd⟩ : ∃ d, i = d + s := ⟨i - s, by omega⟩
        have hwq : RowO wq.drew 78 4 (.slice (some ⟨b, o, none⟩) n cap) n (vp Z) := by have := (hLq.below ((Below.refl _ wq).drew)).way; rw [show (mlAt m X i Z).way.length = n from HI.out.zt.len.trans HN.out] at this; exact this
        have hdn : d ≤ n := by omega
        obtain ⟨w5, c5, r5, kp5⟩ := bring_up (P := Tryz.prog) wq.drew 3 68 78 n b o cap d s Z Tryz.underlying68 (by kernel_rfl) hwq (HI.out.zt.len.trans HN.out) (by omega)
        have hgb : g ≠ b := fun q => hLq.apart (by rw [q]; rfl)
        have row5 : Row w5 g 70 (mlC (.slice (some ⟨b, o, none⟩) n cap) (mlAt m X i Z)) := kp5.row (hLq.below ((Below.refl _ wq).drew)).row hgb
        have m1 : w5.cell? ⟨B1, 0, none⟩ = some (.pointer (some ⟨g, 0, none⟩)) := by
          have hB1 : B1 ≠ b := fun q => (HB.out.out HI.out.lo).1 (HI.out.mv B1 (by rw [q]; rfl))
          exact (World.cell?_of_block (a := ⟨B1, 0, none⟩) (kp5.block B1 (Nat.lt_of_lt_of_le HI.out.bx.b1.lt HBQ.out.size) hB1)).trans k1
        have HCP := veil c5
        have q0 : wq.drew.cell? ⟨g, 0, none⟩ = some (.slice (some ⟨b, o, none⟩) n cap) := (hLq.below ((Below.refl _ wq).drew)).cells.c0
        have q1 : wq.drew.cell? ⟨B1, 0, none⟩ = some (.pointer (some ⟨g, 0, none⟩)) := k1
        have g0 : w5.drew.cell? ⟨g, 0, none⟩ = some (.slice (some ⟨b, o, none⟩) n cap) := row5.cell 0
        have gf : w5.drew.frozen? ⟨g, 0, none⟩ = false := row5.frozen 0
        have g1 : w5.drew.cell? ⟨B1, 0, none⟩ = some (.pointer (some ⟨g, 0, none⟩)) := m1
        have HROW := veil row5
        have HRO5 := veil r5
        have HKP := veil kp5
        have HHD := veil hd
        have HRS := veil (Lg.rest_none hrest)
        have HGB := veil hgb
        clear hLq hwq c5 r5 kp5 row5 m1 k1 hrest hgb
        subst hd
        refine wpIn_region_any (by kernel_rfl) ?_
        refine anyIn_spine (valCp g b o n cap d s) (RTw wq.drew w5) undef [15] [67, 68, 69, 70, 71, 72, 73, 74, 75, 76, 77, 78, 79, 80, 81, 82] depCp dclCp (by kernel_rfl) (by decide) rfl (by decide) (by decide) ?ord (by decide) ?h0 ?fix ?cal ?don
        case ord =>
          intro k i j h1 h2
          match k, h1, h2 with
          | 0, _, h2 => simp at h2
          | _ + 1, h1, _ => simp at h1
        case fix =>
          intro x W4 m2 ii d u hR hdi hni hdep hlo hhi
          match ii, hdi, hni, hdep, hhi with
          | 0, hdi, _, _, hhi =>
            obtain rfl := Option.some.inj hdi
            exact OI_value rfl rfl (about_none (by intro c h; cases h)) (by intro c h; cases h) (.pointer (some ⟨g, 0, none⟩)) W4 (lgRun_cell 28 _ ⟨B1, 0, none⟩ _ _ rfl (by kernel_rfl) Tryz.underlying28 rfl _ (by rw [hR.zero (hhi 0 15 rfl (by decide))]; exact q1)) ⟨rfl, rfl⟩
          | 1, hdi, _, hdep, _ =>
            obtain rfl := Option.some.inj hdi
            rw [updV_self (show x 0 = _ from hdep 0 (by simp [depCp]) (by decide))]
            exact OI_value rfl rfl (about_none (by intro c h; cases h)) (by intro c h; cases h) (.pointer (some ⟨g, 0, none⟩)) W4 (by kernel_rfl) ⟨rfl, rfl⟩
          | 2, hdi, _, hdep, _ =>
            obtain rfl := Option.some.inj hdi
            rw [updV_self (show x 1 = _ from hdep 1 (by simp [depCp]) (by decide))]
            exact OI_value rfl rfl (about_none (by intro c h; cases h)) (by intro c h; cases h) (.pointer (some ⟨g, 0, none⟩)) W4 (by kernel_rfl) ⟨rfl, rfl⟩
          | 3, hdi, _, hdep, hhi =>
            obtain rfl := Option.some.inj hdi
            rw [updV_self (show x 2 = _ from hdep 2 (by simp [depCp]) (by decide))]
            exact OI_value rfl rfl (about_none (by intro c h; cases h)) (by intro c h; cases h) (.slice (some ⟨b, o, none⟩) n cap) W4 (lgRun_cell 68 _ ⟨g, 0, none⟩ _ _ rfl (by kernel_rfl) Tryz.underlying68 rfl _ (by rw [hR.zero (hhi 0 15 rfl (by decide))]; exact q0)) ⟨rfl, rfl⟩
          | 4, hdi, _, _, _ =>
            obtain rfl := Option.some.inj hdi
            exact OI_value rfl rfl (about_none (by intro c h; cases h)) (by intro c h; cases h) (.int .i64 ((d + s : Nat) : Int)) W4 (by kernel_rfl) ⟨rfl, rfl⟩
          | 5, hdi, _, _, _ =>
            obtain rfl := Option.some.inj hdi
            exact OI_value rfl rfl (about_none (by intro c h; cases h)) (by intro c h; cases h) (.int .i64 (s : Int)) W4 (by kernel_rfl) ⟨rfl, rfl⟩
          | 6, hdi, _, hdep, _ =>
            obtain rfl := Option.some.inj hdi
            rw [updV_self (show x 4 = _ from hdep 4 (by simp [depCp]) (by decide)), updV_self (show (updV x 4 _) 5 = _ from hdep 5 (by simp [depCp]) (by decide))]
            exact OI_value rfl rfl (about_none (by intro c h; cases h)) (by intro c h; cases h) (.int .i64 (d : Int)) W4 (lgRun_sub _ _ _ _ (d + s) s d (by omega) (by omega) rfl (by kernel_rfl) (by kernel_rfl) _) ⟨rfl, rfl⟩
          | 7, hdi, _, _, _ =>
            obtain rfl := Option.some.inj hdi
            exact OI_value rfl rfl (about_none (by intro c h; cases h)) (by intro c h; cases h) (.int .i64 ((d + s : Nat) : Int)) W4 (by kernel_rfl) ⟨rfl, rfl⟩
          | 8, hdi, _, hdep, _ =>
            obtain rfl := Option.some.inj hdi
            rw [updV_self (show x 3 = _ from hdep 3 (by simp [depCp]) (by decide)), updV_self (show (updV x 3 _) 6 = _ from hdep 6 (by simp [depCp]) (by decide)), updV_self (show (updV (updV x 3 _) 6 _) 7 = _ from hdep 7 (by simp [depCp]) (by decide))]
            exact OI_value rfl rfl (about_none (by intro c h; cases h)) (by intro c h; cases h) (.slice (some ⟨b, cutO o cap d 4, none⟩) (d + s - d) (cap - d)) W4 (lgRun_cutLH 68 78 4 _ _ _ b o n cap d (d + s) rfl (by kernel_rfl) (by kernel_rfl) (by kernel_rfl) Tryz.underlying68 (by kernel_rfl) (by omega) (by have := HNC.out; omega) _) ⟨rfl, rfl⟩
          | 9, hdi, _, _, hhi =>
            obtain rfl := Option.some.inj hdi
            exact OI_value rfl rfl (about_none (by intro c h; cases h)) (by intro c h; cases h) (.pointer (some ⟨g, 0, none⟩)) W4 (lgRun_cell 28 _ ⟨B1, 0, none⟩ _ _ rfl (by kernel_rfl) Tryz.underlying28 rfl _ (by rw [hR.zero (hhi 0 15 rfl (by decide))]; exact q1)) ⟨rfl, rfl⟩
          | 10, hdi, _, hdep, _ =>
            obtain rfl := Option.some.inj hdi
            rw [updV_self (show x 9 = _ from hdep 9 (by simp [depCp]) (by decide))]
            exact OI_value rfl rfl (about_none (by intro c h; cases h)) (by intro c h; cases h) (.pointer (some ⟨g, 0, none⟩)) W4 (by kernel_rfl) ⟨rfl, rfl⟩
          | 11, hdi, _, hdep, _ =>
            obtain rfl := Option.some.inj hdi
            rw [updV_self (show x 10 = _ from hdep 10 (by simp [depCp]) (by decide))]
            exact OI_value rfl rfl (about_none (by intro c h; cases h)) (by intro c h; cases h) (.pointer (some ⟨g, 0, none⟩)) W4 (by kernel_rfl) ⟨rfl, rfl⟩
          | 12, hdi, _, hdep, hhi =>
            obtain rfl := Option.some.inj hdi
            rw [updV_self (show x 11 = _ from hdep 11 (by simp [depCp]) (by decide))]
            exact OI_value rfl rfl (about_none (by intro c h; cases h)) (by intro c h; cases h) (.slice (some ⟨b, o, none⟩) n cap) W4 (lgRun_cell 68 _ ⟨g, 0, none⟩ _ _ rfl (by kernel_rfl) Tryz.underlying68 rfl _ (by rw [hR.zero (hhi 0 15 rfl (by decide))]; exact q0)) ⟨rfl, rfl⟩
          | 13, hdi, _, _, _ =>
            obtain rfl := Option.some.inj hdi
            exact OI_value rfl rfl (about_none (by intro c h; cases h)) (by intro c h; cases h) (.int .i64 (s : Int)) W4 (by kernel_rfl) ⟨rfl, rfl⟩
          | 14, hdi, _, hdep, _ =>
            obtain rfl := Option.some.inj hdi
            rw [updV_self (show x 12 = _ from hdep 12 (by simp [depCp]) (by decide)), updV_self (show (updV x 12 _) 13 = _ from hdep 13 (by simp [depCp]) (by decide))]
            exact OI_value rfl rfl (about_none (by intro c h; cases h)) (by intro c h; cases h) (.slice (some ⟨b, o, none⟩) s cap) W4 (lgRun_cutH 68 78 4 _ _ b o n cap s rfl (by kernel_rfl) (by kernel_rfl) Tryz.underlying68 (by kernel_rfl) (by have := HNC.out; omega) _) ⟨rfl, rfl⟩
          | 15, _, hni, _, _ => exact absurd (by decide) hni
          | _ + 16, hdi, _, _, _ => simp at hdi
        case cal =>
          intro x W4 k2 ii d u hR hk hdi hdep hu0 hup
          match k2, hk, hR, hu0, hup with
          | 0, hk, hR, hu0, hup =>
            obtain rfl := Option.some.inj hk
            obtain rfl := Option.some.inj hdi
            obtain rfl : W4 = wq.drew := hR
            rw [updV_self (show x 8 = _ from hdep 8 (by simp [depCp]) (by decide)), updV_self (show (updV x 8 _) 14 = _ from hdep 14 (by simp [depCp]) (by decide))]
            exact OI_value rfl rfl (about_builtin _ _ _ rfl) (by intro c h; cases h) (goInt s) w5 (lgRun_copyB _ _ _ (.slice (some ⟨b, cutO o cap d 4, none⟩) (d + s - d) (cap - d)) (.slice (some ⟨b, o, none⟩) s cap) _ _ _ rfl (by kernel_rfl) (by kernel_rfl) (by rw [show d + s - d = s by omega]; exact HCP.out)) ⟨_, rfl, rfl⟩
          | _ + 1, hk, _, _, _ => simp at hk
        case h0 => exact rfl
        case don =>
          intro x W4 u hR _ _
          obtain rfl : W4 = w5 := hR
          simp only [putsV, Act.put, List.setIfInBounds_toArray, List.set_cons_succ, List.set_cons_zero, Nat.reduceAdd]
          generalize x 0 = z0, x 1 = z1, x 2 = z2, x 3 = z3, x 4 = z4, x 5 = z5, x 6 = z6, x 7 = z7, x 8 = z8, x 9 = z9, x 10 = z10, x 11 = z11, x 12 = z12, x 13 = z13, x 14 = z14, x 15 = z15
          gi_wp2_with fail
          refine wpIn_region_any (by kernel_rfl) ?_
          refine anyIn_spine (valSl g b o n cap d s) (RTw W4.drew (W4.drew.setCell ⟨g, 0, none⟩ (.slice (some ⟨b, cutO o cap d 4, none⟩) (n - d) (cap - d)))) undef [11] [83, 84, 85, 86, 87, 88, 89, 90, 91, 92, 93, 100000] depSl dclSl (by kernel_rfl) (by decide) rfl (by decide) (by decide) ?ord (by decide) ?h0 ?fix ?cal ?don
          case ord =>
            intro k i j h1 h2
            match k, h1, h2 with
            | 0, _, h2 => simp at h2
            | _ + 1, h1, _ => simp at h1
          case fix =>
            intro x W9 m2 ii d u hR hdi hni hdep hlo hhi
            match ii, hdi, hni, hdep, hhi with
            | 0, hdi, _, _, hhi =>
              obtain rfl := Option.some.inj hdi
              exact OI_value rfl rfl (about_none (by intro c h; cases h)) (by intro c h; cases h) (.pointer (some ⟨g, 0, none⟩)) W9 (lgRun_cell 28 _ ⟨B1, 0, none⟩ _ _ rfl (by kernel_rfl) Tryz.underlying28 rfl _ (by rw [hR.zero (hhi 0 11 rfl (by decide))]; exact g1)) ⟨rfl, rfl⟩
            | 1, hdi, _, _, hhi =>
              obtain rfl := Option.some.inj hdi
              exact OI_value rfl rfl (about_none (by intro c h; cases h)) (by intro c h; cases h) (.pointer (some ⟨g, 0, none⟩)) W9 (lgRun_cell 28 _ ⟨B1, 0, none⟩ _ _ rfl (by kernel_rfl) Tryz.underlying28 rfl _ (by rw [hR.zero (hhi 0 11 rfl (by decide))]; exact g1)) ⟨rfl, rfl⟩
            | 2, hdi, _, hdep, _ =>
              obtain rfl := Option.some.inj hdi
              rw [updV_self (show x 1 = _ from hdep 1 (by simp [depSl]) (by decide))]
              exact OI_value rfl rfl (about_none (by intro c h; cases h)) (by intro c h; cases h) (.pointer (some ⟨g, 0, none⟩)) W9 (by kernel_rfl) ⟨rfl, rfl⟩
            | 3, hdi, _, hdep, _ =>
              obtain rfl := Option.some.inj hdi
              rw [updV_self (show x 2 = _ from hdep 2 (by simp [depSl]) (by decide))]
              exact OI_value rfl rfl (about_none (by intro c h; cases h)) (by intro c h; cases h) (.pointer (some ⟨g, 0, none⟩)) W9 (by kernel_rfl) ⟨rfl, rfl⟩
            | 4, hdi, _, hdep, hhi =>
              obtain rfl := Option.some.inj hdi
              rw [updV_self (show x 3 = _ from hdep 3 (by simp [depSl]) (by decide))]
              exact OI_value rfl rfl (about_none (by intro c h; cases h)) (by intro c h; cases h) (.slice (some ⟨b, o, none⟩) n cap) W9 (lgRun_cell 68 _ ⟨g, 0, none⟩ _ _ rfl (by kernel_rfl) Tryz.underlying68 rfl _ (by rw [hR.zero (hhi 0 11 rfl (by decide))]; exact g0)) ⟨rfl, rfl⟩
            | 5, hdi, _, _, _ =>
              obtain rfl := Option.some.inj hdi
              exact OI_value rfl rfl (about_none (by intro c h; cases h)) (by intro c h; cases h) (.int .i64 ((d + s : Nat) : Int)) W9 (by kernel_rfl) ⟨rfl, rfl⟩
            | 6, hdi, _, _, _ =>
              obtain rfl := Option.some.inj hdi
              exact OI_value rfl rfl (about_none (by intro c h; cases h)) (by intro c h; cases h) (.int .i64 (s : Int)) W9 (by kernel_rfl) ⟨rfl, rfl⟩
            | 7, hdi, _, hdep, _ =>
              obtain rfl := Option.some.inj hdi
              rw [updV_self (show x 5 = _ from hdep 5 (by simp [depSl]) (by decide)), updV_self (show (updV x 5 _) 6 = _ from hdep 6 (by simp [depSl]) (by decide))]
              exact OI_value rfl rfl (about_none (by intro c h; cases h)) (by intro c h; cases h) (.int .i64 (d : Int)) W9 (lgRun_sub _ _ _ _ (d + s) s d (by omega) (by omega) rfl (by kernel_rfl) (by kernel_rfl) _) ⟨rfl, rfl⟩
            | 8, hdi, _, hdep, _ =>
              obtain rfl := Option.some.inj hdi
              rw [updV_self (show x 4 = _ from hdep 4 (by simp [depSl]) (by decide)), updV_self (show (updV x 4 _) 7 = _ from hdep 7 (by simp [depSl]) (by decide))]
              exact OI_value rfl rfl (about_none (by intro c h; cases h)) (by intro c h; cases h) (.slice (some ⟨b, cutO o cap d 4, none⟩) (n - d) (cap - d)) W9 (lgRun_cutL 68 78 4 _ _ b o n cap d rfl (by kernel_rfl) (by kernel_rfl) Tryz.underlying68 (by kernel_rfl) (by omega) HNC.out _) ⟨rfl, rfl⟩
            | 9, hdi, _, hdep, _ =>
              obtain rfl := Option.some.inj hdi
              rw [updV_self (show x 0 = _ from hdep 0 (by simp [depSl]) (by decide))]
              exact OI_value rfl rfl (about_none (by intro c h; cases h)) (by intro c h; cases h) (.pointer (some ⟨g, 0, none⟩)) W9 (by kernel_rfl) ⟨rfl, rfl⟩
            | 10, hdi, _, hdep, _ =>
              obtain rfl := Option.some.inj hdi
              rw [updV_self (show x 9 = _ from hdep 9 (by simp [depSl]) (by decide))]
              exact OI_value rfl rfl (about_none (by intro c h; cases h)) (by intro c h; cases h) (.pointer (some ⟨g, 0, none⟩)) W9 (by kernel_rfl) ⟨rfl, rfl⟩
            | 11, _, hni, _, _ => exact absurd (by decide) hni
            | _ + 12, hdi, _, _, _ => simp at hdi
          case cal =>
            intro x W9 k2 ii d u hR hk hdi hdep hu0 hup
            match k2, hk, hR, hu0, hup with
            | 0, hk, hR, hu0, hup =>
              obtain rfl := Option.some.inj hk
              obtain rfl := Option.some.inj hdi
              obtain rfl : W9 = _ := hR
              rw [updV_self (show x 10 = _ from hdep 10 (by simp [depSl]) (by decide)), updV_self (show (updV x 10 _) 8 = _ from hdep 8 (by simp [depSl]) (by decide))]
              exact OI_skip rfl rfl (about_none (by intro c h; cases h)) (by intro c h; cases h) _ (lgRun_store 68 _ _ ⟨g, 0, none⟩ (.slice (some ⟨b, cutO o cap d 4, none⟩) (n - d) (cap - d)) (.slice (some ⟨b, o, none⟩) n cap) rfl rfl (by kernel_rfl) (by kernel_rfl) (by kernel_rfl) _ g0 gf) ⟨undef, (lgPut_none _ _).trans (put_far _ _ _ (by rw [puts_size]; exact Nat.le_of_ble_eq_true rfl)).symm, rfl⟩
            | _ + 1, hk, _, _, _ => simp at hk
          case h0 => exact rfl
          case don =>
            intro x W9 u hR _ _
            obtain rfl : W9 = _ := hR
            simp only [putsV, Act.put, List.setIfInBounds_toArray, List.set_cons_succ, List.set_cons_zero, List.set_nil, Nat.reduceAdd]
            generalize x 0 = z0, x 1 = z1, x 2 = z2, x 3 = z3, x 4 = z4, x 5 = z5, x 6 = z6, x 7 = z7, x 8 = z8, x 9 = z9, x 10 = z10, x 11 = z11
            gi_wp2_with fail
            refine bodyPost_end (results_none rfl _ _ _) rfl ?_
            have hF : Z.take s ++ Z.drop (d + s) = m.way.filter (fun p => !X p) := by
              rw [← HRS.out.2, HI.out.zt.dr]
              have h9 := HI.out.zt.st
              rw [HS.out] at h9
              rw [h9]
            have hKL : KeepL g (.slice (some ⟨b, o, none⟩) n cap) wr (W4.drew.setCell ⟨g, 0, none⟩ (.slice (some ⟨b, cutO o cap d 4, none⟩) (n - d) (cap - d))) :=
              ((((KeepP.of_below HBQ.out).trans (KeepP.of_below ((Below.refl _ wq).drew))).trans (HKP.out.mono (fun k q => .inr (by rw [q]; rfl)))).trans (KeepP.of_below ((Below.refl _ W4).drew))).trans (KeepP.setCell (.inl rfl) _ _ _)
            refine ⟨⟨_, rfl⟩, (Lg.tl m.way X (d + s)).length, _, ⟨by rw [HRS.out.1], .slice (some ⟨b, cutO o cap d 4, none⟩) (n - d) (cap - d), ⟨?_, ?_⟩, rfl⟩, HJ.out _ _ _ _ HI.out.j (keepM_ld hKL HI.out.mg HI.out.mv)⟩
            · have h8 := HROW.out.drew.set 0 (.slice (some ⟨b, cutO o cap d 4, none⟩) (n - d) (cap - d))
              have h7 : Lg.asum (m.way.filter (fun p => !X p)) = Lg.askA m.way X (d + s) := by unfold Lg.askA; rw [HRS.out.2]
              rw [h7]
              exact h8
            · have h6 := HRO5.out
              rw [hF] at h6
              have h5 : n - d = (m.way.filter (fun p => !X p)).length := by have := h6.1; rw [vp_length] at this; omega
              rw [h5] at h6 ⊢
              exact h6.same (fun k hk => Below.heap_setCell _ _ _ _ (fun q => HGB.out (by have q' : k = g := q; rw [← q']; injection hk with hk; exact hk.symm)))
    · have hin : i = n := by omega
      have hrest : ∀ q ∈ m.way.drop i, X q = false := fun q hq => by
        rw [hin, ← HN.out, List.drop_length] at hq
        cases hq
      have d1 : decide ((i : Int) < (n : Int)) = false := by simp; omega
      have d2 : decide (i < n) = false := by simp; omega
      have HIN := veil hin
      clear hin
      cases va with
      | some ad =>
        obtain ⟨b, o, hbo⟩ : ∃ b o, ad = ⟨b, o, none⟩ := by
          have h9 := hI.ld.way
          rw [show (mlAt m X i Z).way.length = n from hI.zt.len.trans HN.out] at h9
          rcases h9.2 with ⟨h8, _⟩ | ⟨b, o, _, _, h8, _⟩
          · cases h8
          · injection h8 with h8
            injection h8 with h8
            exact ⟨b, o, h8⟩
        subst hbo
        clear hI
        gi_wp2_with fail
        gi_quiet (fail)
        gi_wp2_with fail
        have hbq : Below wr.heap.size wr (wr.drewN nq) := below_drewN (Below.refl _ wr) nq
        have hLq : LdOk (wr.drewN nq) g (.slice (some ⟨b, o, none⟩) n cap) (mlAt m X i Z) := HI.out.ld.below hbq
        replace k1 := (hbq.cell (p := ⟨B1, 0, none⟩) HI.out.bx.b1.lt).trans k1
        have HBQ := veil hbq
        clear hbq k0 k2 k3 d1 d2 hez hlt
        generalize wr.drewN nq = wq at *
        obtain ⟨d, hd⟩ : ∃ d, i = d + s := ⟨i - s, by omega⟩
        have hwq : RowO wq.drew 78 4 (.slice (some ⟨b, o, none⟩) n cap) n (vp Z) := by have := (hLq.below ((Below.refl _ wq).drew)).way; rw [show (mlAt m X i Z).way.length = n from HI.out.zt.len.trans HN.out] at this; exact this
        have hdn : d ≤ n := by omega
        obtain ⟨w5, c5, r5, kp5⟩ := bring_up (P := Tryz.prog) wq.drew 3 68 78 n b o cap d s Z Tryz.underlying68 (by kernel_rfl) hwq (HI.out.zt.len.trans HN.out) (by omega)
        have hgb : g ≠ b := fun q => hLq.apart (by rw [q]; rfl)
        have row5 : Row w5 g 70 (mlC (.slice (some ⟨b, o, none⟩) n cap) (mlAt m X i Z)) := kp5.row (hLq.below ((Below.refl _ wq).drew)).row hgb
        have m1 : w5.cell? ⟨B1, 0, none⟩ = some (.pointer (some ⟨g, 0, none⟩)) := by
          have hB1 : B1 ≠ b := fun q => (HB.out.out HI.out.lo).1 (HI.out.mv B1 (by rw [q]; rfl))
          exact (World.cell?_of_block (a := ⟨B1, 0, none⟩) (kp5.block B1 (Nat.lt_of_lt_of_le HI.out.bx.b1.lt HBQ.out.size) hB1)).trans k1
        have HCP := veil c5
        have q0 : wq.drew.cell? ⟨g, 0, none⟩ = some (.slice (some ⟨b, o, none⟩) n cap) := (hLq.below ((Below.refl _ wq).drew)).cells.c0
        have q1 : wq.drew.cell? ⟨B1, 0, none⟩ = some (.pointer (some ⟨g, 0, none⟩)) := k1
        have g0 : w5.drew.cell? ⟨g, 0, none⟩ = some (.slice (some ⟨b, o, none⟩) n cap) := row5.cell 0
        have gf : w5.drew.frozen? ⟨g, 0, none⟩ = false := row5.frozen 0
        have g1 : w5.drew.cell? ⟨B1, 0, none⟩ = some (.pointer (some ⟨g, 0, none⟩)) := m1
        have HROW := veil row5
        have HRO5 := veil r5
        have HKP := veil kp5
        have HHD := veil hd
        have HRS := veil (Lg.rest_none hrest)
        have HGB := veil hgb
        clear hLq hwq c5 r5 kp5 row5 m1 k1 hrest hgb
        subst hd
        refine wpIn_region_any (by kernel_rfl) ?_
        refine anyIn_spine (valCp g b o n cap d s) (RTw wq.drew w5) undef [15] [67, 68, 69, 70, 71, 72, 73, 74, 75, 76, 77, 78, 79, 80, 81, 82] depCp dclCp (by kernel_rfl) (by decide) rfl (by decide) (by decide) ?ord (by decide) ?h0 ?fix ?cal ?don
        case ord =>
          intro k i j h1 h2
          match k, h1, h2 with
          | 0, _, h2 => simp at h2
          | _ + 1, h1, _ => simp at h1
        case fix =>
          intro x W4 m2 ii d u hR hdi hni hdep hlo hhi
          match ii, hdi, hni, hdep, hhi with
          | 0, hdi, _, _, hhi =>
            obtain rfl := Option.some.inj hdi
            exact OI_value rfl rfl (about_none (by intro c h; cases h)) (by intro c h; cases h) (.pointer (some ⟨g, 0, none⟩)) W4 (lgRun_cell 28 _ ⟨B1, 0, none⟩ _ _ rfl (by kernel_rfl) Tryz.underlying28 rfl _ (by rw [hR.zero (hhi 0 15 rfl (by decide))]; exact q1)) ⟨rfl, rfl⟩
          | 1, hdi, _, hdep, _ =>
            obtain rfl := Option.some.inj hdi
            rw [updV_self (show x 0 = _ from hdep 0 (by simp [depCp]) (by decide))]
            exact OI_value rfl rfl (about_none (by intro c h; cases h)) (by intro c h; cases h) (.pointer (some ⟨g, 0, none⟩)) W4 (by kernel_rfl) ⟨rfl, rfl⟩
          | 2, hdi, _, hdep, _ =>
            obtain rfl := Option.some.inj hdi
            rw [updV_self (show x 1 = _ from hdep 1 (by simp [depCp]) (by decide))]
            exact OI_value rfl rfl (about_none (by intro c h; cases h)) (by intro c h; cases h) (.pointer (some ⟨g, 0, none⟩)) W4 (by kernel_rfl) ⟨rfl, rfl⟩
          | 3, hdi, _, hdep, hhi =>
            obtain rfl := Option.some.inj hdi
            rw [updV_self (show x 2 = _ from hdep 2 (by simp [depCp]) (by decide))]
            exact OI_value rfl rfl (about_none (by intro c h; cases h)) (by intro c h; cases h) (.slice (some ⟨b, o, none⟩) n cap) W4 (lgRun_cell 68 _ ⟨g, 0, none⟩ _ _ rfl (by kernel_rfl) Tryz.underlying68 rfl _ (by rw [hR.zero (hhi 0 15 rfl (by decide))]; exact q0)) ⟨rfl, rfl⟩
          | 4, hdi, _, _, _ =>
            obtain rfl := Option.some.inj hdi
            exact OI_value rfl rfl (about_none (by intro c h; cases h)) (by intro c h; cases h) (.int .i64 ((d + s : Nat) : Int)) W4 (by kernel_rfl) ⟨rfl, rfl⟩
          | 5, hdi, _, _, _ =>
            obtain rfl := Option.some.inj hdi
            exact OI_value rfl rfl (about_none (by intro c h; cases h)) (by intro c h; cases h) (.int .i64 (s : Int)) W4 (by kernel_rfl) ⟨rfl, rfl⟩
          | 6, hdi, _, hdep, _ =>
            obtain rfl := Option.some.inj hdi
            rw [updV_self (show x 4 = _ from hdep 4 (by simp [depCp]) (by decide)), updV_self (show (updV x 4 _) 5 = _ from hdep 5 (by simp [depCp]) (by decide))]
            exact OI_value rfl rfl (about_none (by intro c h; cases h)) (by intro c h; cases h) (.int .i64 (d : Int)) W4 (lgRun_sub _ _ _ _ (d + s) s d (by omega) (by omega) rfl (by kernel_rfl) (by kernel_rfl) _) ⟨rfl, rfl⟩
          | 7, hdi, _, _, _ =>
            obtain rfl := Option.some.inj hdi
            exact OI_value rfl rfl (about_none (by intro c h; cases h)) (by intro c h; cases h) (.int .i64 ((d + s : Nat) : Int)) W4 (by kernel_rfl) ⟨rfl, rfl⟩
          | 8, hdi, _, hdep, _ =>
            obtain rfl := Option.some.inj hdi
            rw [updV_self (show x 3 = _ from hdep 3 (by simp [depCp]) (by decide)), updV_self (show (updV x 3 _) 6 = _ from hdep 6 (by simp [depCp]) (by decide)), updV_self (show (updV (updV x 3 _) 6 _) 7 = _ from hdep 7 (by simp [depCp]) (by decide))]
            exact OI_value rfl rfl (about_none (by intro c h; cases h)) (by intro c h; cases h) (.slice (some ⟨b, cutO o cap d 4, none⟩) (d + s - d) (cap - d)) W4 (lgRun_cutLH 68 78 4 _ _ _ b o n cap d (d + s) rfl (by kernel_rfl) (by kernel_rfl) (by kernel_rfl) Tryz.underlying68 (by kernel_rfl) (by omega) (by have := HNC.out; omega) _) ⟨rfl, rfl⟩
          | 9, hdi, _, _, hhi =>
            obtain rfl := Option.some.inj hdi
            exact OI_value rfl rfl (about_none (by intro c h; cases h)) (by intro c h; cases h) (.pointer (some ⟨g, 0, none⟩)) W4 (lgRun_cell 28 _ ⟨B1, 0, none⟩ _ _ rfl (by kernel_rfl) Tryz.underlying28 rfl _ (by rw [hR.zero (hhi 0 15 rfl (by decide))]; exact q1)) ⟨rfl, rfl⟩
          | 10, hdi, _, hdep, _ =>
            obtain rfl := Option.some.inj hdi
            rw [updV_self (show x 9 = _ from hdep 9 (by simp [depCp]) (by decide))]
            exact OI_value rfl rfl (about_none (by intro c h; cases h)) (by intro c h; cases h) (.pointer (some ⟨g, 0, none⟩)) W4 (by kernel_rfl) ⟨rfl, rfl⟩
          | 11, hdi, _, hdep, _ =>
            obtain rfl := Option.some.inj hdi
            rw [updV_self (show x 10 = _ from hdep 10 (by simp [depCp]) (by decide))]
            exact OI_value rfl rfl (about_none (by intro c h; cases h)) (by intro c h; cases h) (.pointer (some ⟨g, 0, none⟩)) W4 (by kernel_rfl) ⟨rfl, rfl⟩
          | 12, hdi, _, hdep, hhi =>
            obtain rfl := Option.some.inj hdi
            rw [updV_self (show x 11 = _ from hdep 11 (by simp [depCp]) (by decide))]
            exact OI_value rfl rfl (about_none (by intro c h; cases h)) (by intro c h; cases h) (.slice (some ⟨b, o, none⟩) n cap) W4 (lgRun_cell 68 _ ⟨g, 0, none⟩ _ _ rfl (by kernel_rfl) Tryz.underlying68 rfl _ (by rw [hR.zero (hhi 0 15 rfl (by decide))]; exact q0)) ⟨rfl, rfl⟩
          | 13, hdi, _, _, _ =>
            obtain rfl := Option.some.inj hdi
            exact OI_value rfl rfl (about_none (by intro c h; cases h)) (by intro c h; cases h) (.int .i64 (s : Int)) W4 (by kernel_rfl) ⟨rfl, rfl⟩
          | 14, hdi, _, hdep, _ =>
            obtain rfl := Option.some.inj hdi
            rw [updV_self (show x 12 = _ from hdep 12 (by simp [depCp]) (by decide)), updV_self (show (updV x 12 _) 13 = _ from hdep 13 (by simp [depCp]) (by decide))]
            exact OI_value rfl rfl (about_none (by intro c h; cases h)) (by intro c h; cases h) (.slice (some ⟨b, o, none⟩) s cap) W4 (lgRun_cutH 68 78 4 _ _ b o n cap s rfl (by kernel_rfl) (by kernel_rfl) Tryz.underlying68 (by kernel_rfl) (by have := HNC.out; omega) _) ⟨rfl, rfl⟩
          | 15, _, hni, _, _ => exact absurd (by decide) hni
          | _ + 16, hdi, _, _, _ => simp at hdi
        case cal =>
          intro x W4 k2 ii d u hR hk hdi hdep hu0 hup
          match k2, hk, hR, hu0, hup with
          | 0, hk, hR, hu0, hup =>
            obtain rfl := Option.some.inj hk
            obtain rfl := Option.some.inj hdi
            obtain rfl : W4 = wq.drew := hR
            rw [updV_self (show x 8 = _ from hdep 8 (by simp [depCp]) (by decide)), updV_self (show (updV x 8 _) 14 = _ from hdep 14 (by simp [depCp]) (by decide))]
            exact OI_value rfl rfl (about_builtin _ _ _ rfl) (by intro c h; cases h) (goInt s) w5 (lgRun_copyB _ _ _ (.slice (some ⟨b, cutO o cap d 4, none⟩) (d + s - d) (cap - d)) (.slice (some ⟨b, o, none⟩) s cap) _ _ _ rfl (by kernel_rfl) (by kernel_rfl) (by rw [show d + s - d = s by omega]; exact HCP.out)) ⟨_, rfl, rfl⟩
          | _ + 1, hk, _, _, _ => simp at hk
        case h0 => exact rfl
        case don =>
          intro x W4 u hR _ _
          obtain rfl : W4 = w5 := hR
          simp only [putsV, Act.put, List.setIfInBounds_toArray, List.set_cons_succ, List.set_cons_zero, Nat.reduceAdd]
          generalize x 0 = z0, x 1 = z1, x 2 = z2, x 3 = z3, x 4 = z4, x 5 = z5, x 6 = z6, x 7 = z7, x 8 = z8, x 9 = z9, x 10 = z10, x 11 = z11, x 12 = z12, x 13 = z13, x 14 = z14, x 15 = z15
          gi_wp2_with fail
          refine wpIn_region_any (by kernel_rfl) ?_
          refine anyIn_spine (valSl g b o n cap d s) (RTw W4.drew (W4.drew.setCell ⟨g, 0, none⟩ (.slice (some ⟨b, cutO o cap d 4, none⟩) (n - d) (cap - d)))) undef [11] [83, 84, 85, 86, 87, 88, 89, 90, 91, 92, 93, 100000] depSl dclSl (by kernel_rfl) (by decide) rfl (by decide) (by decide) ?ord (by decide) ?h0 ?fix ?cal ?don
          case ord =>
            intro k i j h1 h2
            match k, h1, h2 with
            | 0, _, h2 => simp at h2
            | _ + 1, h1, _ => simp at h1
          case fix =>
            intro x W9 m2 ii d u hR hdi hni hdep hlo hhi
            match ii, hdi, hni, hdep, hhi with
            | 0, hdi, _, _, hhi =>
              obtain rfl := Option.some.inj hdi
              exact OI_value rfl rfl (about_none (by intro c h; cases h)) (by intro c h; cases h) (.pointer (some ⟨g, 0, none⟩)) W9 (lgRun_cell 28 _ ⟨B1, 0, none⟩ _ _ rfl (by kernel_rfl) Tryz.underlying28 rfl _ (by rw [hR.zero (hhi 0 11 rfl (by decide))]; exact g1)) ⟨rfl, rfl⟩
            | 1, hdi, _, _, hhi =>
              obtain rfl := Option.some.inj hdi
              exact OI_value rfl rfl (about_none (by intro c h; cases h)) (by intro c h; cases h) (.pointer (some ⟨g, 0, none⟩)) W9 (lgRun_cell 28 _ ⟨B1, 0, none⟩ _ _ rfl (by kernel_rfl) Tryz.underlying28 rfl _ (by rw [hR.zero (hhi 0 11 rfl (by decide))]; exact g1)) ⟨rfl, rfl⟩
            | 2, hdi, _, hdep, _ =>
              obtain rfl := Option.some.inj hdi
              rw [updV_self (show x 1 = _ from hdep 1 (by simp [depSl]) (by decide))]
              exact OI_value rfl rfl (about_none (by intro c h; cases h)) (by intro c h; cases h) (.pointer (some ⟨g, 0, none⟩)) W9 (by kernel_rfl) ⟨rfl, rfl⟩
            | 3, hdi, _, hdep, _ =>
              obtain rfl := Option.some.inj hdi
              rw [updV_self (show x 2 = _ from hdep 2 (by simp [depSl]) (by decide))]
              exact OI_value rfl rfl (about_none (by intro c h; cases h)) (by intro c h; cases h) (.pointer (some ⟨g, 0, none⟩)) W9 (by kernel_rfl) ⟨rfl, rfl⟩
            | 4, hdi, _, hdep, hhi =>
              obtain rfl := Option.some.inj hdi
              rw [updV_self (show x 3 = _ from hdep 3 (by simp [depSl]) (by decide))]
              exact OI_value rfl rfl (about_none (by intro c h; cases h)) (by intro c h; cases h) (.slice (some ⟨b, o, none⟩) n cap) W9 (lgRun_cell 68 _ ⟨g, 0, none⟩ _ _ rfl (by kernel_rfl) Tryz.underlying68 rfl _ (by rw [hR.zero (hhi 0 11 rfl (by decide))]; exact g0)) ⟨rfl, rfl⟩
            | 5, hdi, _, _, _ =>
              obtain rfl := Option.some.inj hdi
              exact OI_value rfl rfl (about_none (by intro c h; cases h)) (by intro c h; cases h) (.int .i64 ((d + s : Nat) : Int)) W9 (by kernel_rfl) ⟨rfl, rfl⟩
            | 6, hdi, _, _, _ =>
              obtain rfl := Option.some.inj hdi
              exact OI_value rfl rfl (about_none (by intro c h; cases h)) (by intro c h; cases h) (.int .i64 (s : Int)) W9 (by kernel_rfl) ⟨rfl, rfl⟩
            | 7, hdi, _, hdep, _ =>
              obtain rfl := Option.some.inj hdi
              rw [updV_self (show x 5 = _ from hdep 5 (by simp [depSl]) (by decide)), updV_self (show (updV x 5 _) 6 = _ from hdep 6 (by simp [depSl]) (by decide))]
              exact OI_value rfl rfl (about_none (by intro c h; cases h)) (by intro c h; cases h) (.int .i64 (d : Int)) W9 (lgRun_sub _ _ _ _ (d + s) s d (by omega) (by omega) rfl (by kernel_rfl) (by kernel_rfl) _) ⟨rfl, rfl⟩
            | 8, hdi, _, hdep, _ =>
              obtain rfl := Option.some.inj hdi
              rw [updV_self (show x 4 = _ from hdep 4 (by simp [depSl]) (by decide)), updV_self (show (updV x 4 _) 7 = _ from hdep 7 (by simp [depSl]) (by decide))]
              exact OI_value rfl rfl (about_none (by intro c h; cases h)) (by intro c h; cases h) (.slice (some ⟨b, cutO o cap d 4, none⟩) (n - d) (cap - d)) W9 (lgRun_cutL 68 78 4 _ _ b o n cap d rfl (by kernel_rfl) (by kernel_rfl) Tryz.underlying68 (by kernel_rfl) (by omega) HNC.out _) ⟨rfl, rfl⟩
            | 9, hdi, _, hdep, _ =>
              obtain rfl := Option.some.inj hdi
              rw [updV_self (show x 0 = _ from hdep 0 (by simp [depSl]) (by decide))]
              exact OI_value rfl rfl (about_none (by intro c h; cases h)) (by intro c h; cases h) (.pointer (some ⟨g, 0, none⟩)) W9 (by kernel_rfl) ⟨rfl, rfl⟩
            | 10, hdi, _, hdep, _ =>
              obtain rfl := Option.some.inj hdi
              rw [updV_self (show x 9 = _ from hdep 9 (by simp [depSl]) (by decide))]
              exact OI_value rfl rfl (about_none (by intro c h; cases h)) (by intro c h; cases h) (.pointer (some ⟨g, 0, none⟩)) W9 (by kernel_rfl) ⟨rfl, rfl⟩
            | 11, _, hni, _, _ => exact absurd (by decide) hni
            | _ + 12, hdi, _, _, _ => simp at hdi
          case cal =>
            intro x W9 k2 ii d u hR hk hdi hdep hu0 hup
            match k2, hk, hR, hu0, hup with
            | 0, hk, hR, hu0, hup =>
              obtain rfl := Option.some.inj hk
              obtain rfl := Option.some.inj hdi
              obtain rfl : W9 = _ := hR
              rw [updV_self (show x 10 = _ from hdep 10 (by simp [depSl]) (by decide)), updV_self (show (updV x 10 _) 8 = _ from hdep 8 (by simp [depSl]) (by decide))]
              exact OI_skip rfl rfl (about_none (by intro c h; cases h)) (by intro c h; cases h) _ (lgRun_store 68 _ _ ⟨g, 0, none⟩ (.slice (some ⟨b, cutO o cap d 4, none⟩) (n - d) (cap - d)) (.slice (some ⟨b, o, none⟩) n cap) rfl rfl (by kernel_rfl) (by kernel_rfl) (by kernel_rfl) _ g0 gf) ⟨undef, (lgPut_none _ _).trans (put_far _ _ _ (by rw [puts_size]; exact Nat.le_of_ble_eq_true rfl)).symm, rfl⟩
            | _ + 1, hk, _, _, _ => simp at hk
          case h0 => exact rfl
          case don =>
            intro x W9 u hR _ _
            obtain rfl : W9 = _ := hR
            simp only [putsV, Act.put, List.setIfInBounds_toArray, List.set_cons_succ, List.set_cons_zero, List.set_nil, Nat.reduceAdd]
            generalize x 0 = z0, x 1 = z1, x 2 = z2, x 3 = z3, x 4 = z4, x 5 = z5, x 6 = z6, x 7 = z7, x 8 = z8, x 9 = z9, x 10 = z10, x 11 = z11
            gi_wp2_with fail
            refine bodyPost_end (results_none rfl _ _ _) rfl ?_
            have hF : Z.take s ++ Z.drop (d + s) = m.way.filter (fun p => !X p) := by
              rw [← HRS.out.2, HI.out.zt.dr]
              have h9 := HI.out.zt.st
              rw [HS.out] at h9
              rw [h9]
            have hKL : KeepL g (.slice (some ⟨b, o, none⟩) n cap) wr (W4.drew.setCell ⟨g, 0, none⟩ (.slice (some ⟨b, cutO o cap d 4, none⟩) (n - d) (cap - d))) :=
              ((((KeepP.of_below HBQ.out).trans (KeepP.of_below ((Below.refl _ wq).drew))).trans (HKP.out.mono (fun k q => .inr (by rw [q]; rfl)))).trans (KeepP.of_below ((Below.refl _ W4).drew))).trans (KeepP.setCell (.inl rfl) _ _ _)
            refine ⟨⟨_, rfl⟩, (Lg.tl m.way X (d + s)).length, _, ⟨by rw [HRS.out.1], .slice (some ⟨b, cutO o cap d 4, none⟩) (n - d) (cap - d), ⟨?_, ?_⟩, rfl⟩, HJ.out _ _ _ _ HI.out.j (keepM_ld hKL HI.out.mg HI.out.mv)⟩
            · have h8 := HROW.out.drew.set 0 (.slice (some ⟨b, cutO o cap d 4, none⟩) (n - d) (cap - d))
              have h7 : Lg.asum (m.way.filter (fun p => !X p)) = Lg.askA m.way X (d + s) := by unfold Lg.askA; rw [HRS.out.2]
              rw [h7]
              exact h8
            · have h6 := HRO5.out
              rw [hF] at h6
              have h5 : n - d = (m.way.filter (fun p => !X p)).length := by have := h6.1; rw [vp_length] at this; omega
              rw [h5] at h6 ⊢
              exact h6.same (fun k hk => Below.heap_setCell _ _ _ _ (fun q => HGB.out (by have q' : k = g := q; rw [← q']; injection hk with hk; exact hk.symm)))
      | none =>
        have h9 := hI.ld.way
        rw [show (mlAt m X i Z).way.length = n from hI.zt.len.trans HN.out] at h9
        obtain ⟨hn0, hc0⟩ : n = 0 ∧ cap = 0 := by
          rcases h9.2 with ⟨h8, _⟩ | ⟨b, o, _, _, h8, _⟩
          · injection h8 with _ h8 h7
            exact ⟨h8, h7⟩
          · cases h8
        have hi0 : i = 0 := by omega
        have hs0 : s = 0 := by omega
        have hbq : ∀ nq, Below wr.heap.size wr (wr.drewN nq) := fun nq => below_drewN (Below.refl _ wr) nq
        have HBQ := veil hbq
        have HRS := veil (Lg.rest_none hrest)
        have hkg := hI.ld.cells.f 0
        subst hn0 hc0 hi0 hs0
        clear hI h9 hbq hrest HIN hile hsi hlt d1 d2 hez
        have d1 : decide ((0 : Int) < (0 : Int)) = false := by decide
        have d2 : decide (0 < 0) = false := by decide
        gi_wp2_with fail
        gi_quiet (fail)
        gi_wp2_with fail
        have hcn : ∀ W : World, (Builtin.copy_ #[68, 68] 3 #[.slice none 0 0, .slice none 0 0]).run Tryz.prog W = .ok (goInt 0) W := fun W => copy_none W 3 68 78 4 Tryz.underlying68 (by kernel_rfl)
        gi_region
        gi_wp2_with fail
        gi_region
        gi_wp2_with fail
        refine bodyPost_end (results_none rfl _ _ _) rfl ?_
        have hw0 : m.way = [] := List.eq_nil_of_length_eq_zero HN.out
        have hKL : KeepL g (.slice none 0 0) wr ((wr.drewN (nq + 1 + 1)).setCell ⟨g, 0, none⟩ (.slice none 0 0)) := (KeepP.of_below (HBQ.out _)).trans (KeepP.setCell (.inl rfl) _ _ _)
        refine ⟨⟨_, rfl⟩, (Lg.tl m.way X 0).length, _, ⟨by rw [HRS.out.1], .slice none 0 0, ⟨?_, ?_⟩, rfl⟩, HJ.out _ _ _ _ HI.out.j (keepM_ld hKL HI.out.mg HI.out.mv)⟩
        · have h8 := (HI.out.ld.below (HBQ.out (nq + 1 + 1))).row.set 0 (.slice none 0 0)
          have h7 : Lg.asum (m.way.filter (fun p => !X p)) = Lg.askA m.way X 0 := by unfold Lg.askA; rw [HRS.out.2]
          rw [h7]
          exact h8
        · show RowO _ _ 4 _ (m.way.filter (fun p => !X p)).length (vp (m.way.filter (fun p => !X p)))
          rw [hw0]
          exact RowO.nil _ _ _
end Go.Proofs.YtohoieleakieeaaGreatDoor
