/-
  Written by mklgcame.py: what hangs on packets that were answered newly.
-/
import Derived.Test.YtohoieleakieeaaGreatDoorGlLgLose
namespace Go.Proofs.YtohoieleakieeaaGreatDoor
open Go Go.RowKit Go.Shelf

def growF (m : ML) (win : Nat) (p : Lg.Pk) : Nat := if countsB m p then growN { m with win := win } p.size else win
def cameF (m : ML) (q : Lg.Pk) : ML := { m with front := max m.front q.num }
def cameT (m : ML) (T : List Lg.Pk) (q : Lg.Pk) (last delay : Nat) : ML := if q.num = last ∧ T.any (·.asks) = true then measM (cameF m q) (m.now - q.time) delay else cameF m q
def cameM (m : ML) (T : List Lg.Pk) (q : Lg.Pk) (last delay : Nat) : ML := { cameT m T q last delay with win := T.foldl (growF (cameT m T q last delay)) m.win }
theorem growF_le (m : ML) (win : Nat) (p : Lg.Pk) (h : 2400 ≤ win) (hp : p.size ≤ 1200) : growF m win p ≤ win + 1200 ∧ win ≤ growF m win p := by
  unfold growF growN
  split
  · split
    · simp only
      have h3 : 1200 * p.size / win ≤ 1200 := by
        rw [Nat.div_le_iff_le_mul_add_pred (by omega)]
        omega
      generalize 1200 * p.size / win = d at *
      omega
    · simp only
      omega
  · omega
theorem growF_fold (m : ML) : ∀ (l : List Lg.Pk) (win : Nat), 2400 ≤ win → (∀ p ∈ l, p.size ≤ 1200) → l.foldl (growF m) win ≤ win + 1200 * l.length ∧ win ≤ l.foldl (growF m) win
  | [], win, _, _ => ⟨by simp, Nat.le_refl _⟩
  | p :: l, win, h, hp => by
    have h1 := growF_le m win p h (hp p (List.mem_cons_self ..))
    have h2 := growF_fold m l (growF m win p) (by omega) (fun q hq => hp q (List.mem_cons_of_mem _ hq))
    rw [List.foldl_cons, List.length_cons]
    omega
set_option maxRecDepth 20000 in
set_option maxHeartbeats 1000000 in
/-- The window, as packets came in. -/
theorem grows_any (g : Nat) (v : Value) (m : ML) (T : List Lg.Pk) (k : Nat) (p : Lg.Pk) (hk : T[k]? = some p) (w : World) (h : Row w g 70 (mlC v { m with win := (T.take k).foldl (growF m) m.win })) (hw : 2400 ≤ m.win) (hwu : m.win + 1200 * T.length ≤ 3000000) (ht : m.thr ≤ 3000000) (hp : ∀ p ∈ T, p.size ≤ 1200) (hc : countsB m p = true) :
    Calls Tryz.prog 92 #[.pointer (some ⟨g, 0, none⟩), .int .i64 (p.size : Int)] w fun e w' => (∃ u, e = .returned u) ∧ Row w' g 70 (mlC v { m with win := (T.take (k + 1)).foldl (growF m) m.win }) ∧ KeepP (fun k => k = g) w w' := by
  have hkl := (List.getElem?_eq_some_iff.1 hk).1
  have hf := growF_fold m (T.take k) m.win hw (fun p q => hp p (List.mem_of_mem_take q))
  rw [List.length_take] at hf
  have he : (T.take (k + 1)).foldl (growF m) m.win = growN { m with win := (T.take k).foldl (growF m) m.win } p.size := by
    rw [List.take_add_one, hk, List.foldl_append]
    show growF m _ p = _
    unfold growF
    rw [hc]
    rfl
  rw [he]
  exact grow_any g v { m with win := (T.take k).foldl (growF m) m.win } p.size w h (by show 1 ≤ List.foldl _ _ _; omega) (by show List.foldl _ _ _ ≤ 3000000; omega) (hp p (List.mem_of_getElem? hk)) ht
def depCa : Nat → List Nat
  | 0 => []
  | 1 => []
  | 2 => [1]
  | 3 => [2]
  | 4 => [3]
  | 5 => []
  | 6 => [5]
  | 7 => [4, 6]
  | 8 => []
  | 9 => [0, 7, 8]
  | _ => []
def dclCa : Nat → List Nat
  | 2 => [1]
  | 3 => [1, 2]
  | 4 => [1, 2, 3]
  | 6 => [5]
  | 7 => [1, 2, 3, 4, 5, 6]
  | 9 => [0, 1, 2, 3, 4, 5, 6, 7, 8]
  | _ => []
def valCa (g B now tm d delay : Nat) : Nat → Value
  | 0 => .pointer (some ⟨g, 0, none⟩)
  | 1 => .pointer (some ⟨g, 0, none⟩)
  | 2 => .pointer (some ⟨g, 0, none⟩)
  | 3 => .pointer (some ⟨g, 4, none⟩)
  | 4 => .int .u64 (now : Int)
  | 5 => .pointer (some ⟨B, 2, none⟩)
  | 6 => .int .u64 (tm : Int)
  | 7 => .int .u64 (d : Int)
  | 8 => .int .u64 (delay : Int)
  | _ => undef
def RCa (W0 : World) (R1 : World → Prop) : Nat → World → Value → Prop
  | 0, W, _ => W = W0
  | _, W, _ => R1 W
theorem RCa.zero {W0 : World} {R1 : World → Prop} {k : Nat} {W : World} {u : Value} (h : RCa W0 R1 k W u) (hk : k ≤ 0) : W = W0 := by
  obtain rfl : k = 0 := by omega
  exact h
set_option maxRecDepth 20000 in
set_option maxHeartbeats 2000000 in
theorem came_any (g : Nat) (v u : Value) (m : ML) (T : List Lg.Pk) (q : Lg.Pk) (last delay : Nat) (w : World) (h : Row w g 70 (mlC v m)) (hu : RowO w 78 4 u T.length (vp T)) (hne : ∀ k, u.ownBlock = some k → k ≠ g) (hq : T[T.length - 1]? = some q)
    (hw : 2400 ≤ m.win) (hwu : m.win + 1200 * T.length ≤ 3000000) (ht : m.thr ≤ 3000000) (hp : ∀ p ∈ T, p.size ≤ 1200) (h1 : m.smo ≤ 1099511627775) (h2 : m.var ≤ 1099511627775) (h3 : m.lea ≤ 1099511627775) (h4 : m.now ≤ 1099511627775) (h5 : delay ≤ 1099511627775) (h6 : q.time ≤ m.now) (hTl : T.length ≤ 2000) :
    Calls Tryz.prog 31 #[.pointer (some ⟨g, 0, none⟩), u, .int .u64 (last : Int), .int .u64 (delay : Int)] w fun e w' => (∃ r, e = .returned r) ∧ Row w' g 70 (mlC v (cameM m T q last delay)) ∧ KeepP (fun k => k = g) w w' := by
  obtain ⟨a, cap, rfl, _, _⟩ := hu.shape
  obtain ⟨n, hn⟩ : ∃ n, T.length = n := ⟨_, rfl⟩
  have hql := (List.getElem?_eq_some_iff.1 hq).1
  rw [hn] at hu hq hql ⊢
  obtain ⟨b, o, rfl, hbl, x0, x1, x2, x3⟩ := way_at hu hq
  have hn0 : 0 < n := by omega
  obtain ⟨n1, hn1⟩ : ∃ n1, n = n1 + 1 := ⟨n - 1, by omega⟩
  have e1 : IntKind.i64.wrap ((n : Int) - 1) = (n1 : Int) := by rw [IntKind.wrap_i64]; omega
  rw [show n - 1 = n1 by omega] at x0 x1 x2 x3
  have l1 : decide ((n1 : Int) < (n : Int)) = true := by simp; omega
  have l2 : decide (n1 < n) = true := by simp; omega
  have l3 : n1 < n := by omega
  have hba : Below w.heap.size w (w.alloc (.cells #[.int .u64 (q.num : Int), .int .i64 (q.size : Int), .int .u64 (q.time : Int), .bool q.asks] 78)) := (Below.refl _ w).alloc (Nat.le_refl _) _
  have HBX := veil (show Row (w.alloc (.cells #[.int .u64 (q.num : Int), .int .i64 (q.size : Int), .int .u64 (q.time : Int), .bool q.asks] 78)) w.heap.size 78 #[.int .u64 (q.num : Int), .int .i64 (q.size : Int), .int .u64 (q.time : Int), .bool q.asks] from Row.new _ _ _)
  have ha := h.below hba h.lt
  have c5 := (row_cells ha).c5
  have f5 := (row_cells ha).f 5
  have y0 := HBX.out.cell 0
  have y0' : (w.alloc (.cells #[.int .u64 (q.num : Int), .int .i64 (q.size : Int), .int .u64 (q.time : Int), .bool q.asks] 78)).cell? ⟨w.heap.size, 0, none⟩ = some (.int .u64 (q.num : Int)) := y0
  obtain ⟨fr, hfr⟩ : ∃ fr, max m.front q.num = fr := ⟨_, rfl⟩
  have e2 : max (m.front : Int) (q.num : Int) = (fr : Int) := by omega
  have hgw : g ≠ w.heap.size := by have := h.lt; omega
  have hgw' : w.heap.size ≠ g := fun c => hgw c.symm
  have HU := veil hu
  have HNE := veil (show ∀ k, (Value.slice (some ⟨b, o, none⟩) n cap).ownBlock = some k → k ≠ g from hne)
  have HN := veil hn
  have HA := veil ha
  have HBA := veil hba
  have HFR := veil hfr
  have HW1' := veil hw
  have HW2' := veil hwu
  have HW3' := veil ht
  have HSZ := veil hp
  have HTL := veil hTl
  have B1 := veil h1
  have B2 := veil h2
  have B3 := veil h3
  have B4 := veil h4
  have B5 := veil h5
  have B6 := veil h6
  have hn5 : n ≤ 2000 := by rw [← hn]; exact hTl
  have HG := veil hgw'
  clear h hu hne hq hql hn hba ha hfr hw hwu ht hp h1 h2 h3 h4 h5 h6 hTl y0 hgw hn0 hn1
  go_enter Tryz.func31, Tryz.ntmps31
  go_wp2_with fail
  go_region
  have hF : (⟨m.way, m.ask, m.next, m.asked, m.now, fr, m.lat, m.smo, m.var, m.lea, m.meas, m.win, m.shr, m.thr, m.mom⟩ : ML) = cameF m q := by rw [← HFR.out]; rfl
  have r1 : Row ((w.alloc (.cells #[.int .u64 (q.num : Int), .int .i64 (q.size : Int), .int .u64 (q.time : Int), .bool q.asks] 78)).setCell ⟨g, 5, none⟩ (.int .u64 (fr : Int))).drew g 70 (mlC v (cameF m q)) := by
    rw [← hF]
    exact (HA.out.set 5 (.int .u64 (fr : Int))).drew
  have k1 : KeepP (fun k => k = g) w ((w.alloc (.cells #[.int .u64 (q.num : Int), .int .i64 (q.size : Int), .int .u64 (q.time : Int), .bool q.asks] 78)).setCell ⟨g, 5, none⟩ (.int .u64 (fr : Int))).drew := ((KeepP.of_below HBA.out).trans (keepG g _ _ _)).trans (KeepP.of_below ((Below.refl _ _).drew))
  have bx1 : Row ((w.alloc (.cells #[.int .u64 (q.num : Int), .int .i64 (q.size : Int), .int .u64 (q.time : Int), .bool q.asks] 78)).setCell ⟨g, 5, none⟩ (.int .u64 (fr : Int))).drew w.heap.size 78 #[.int .u64 (q.num : Int), .int .i64 (q.size : Int), .int .u64 (q.time : Int), .bool q.asks] := (HBX.out.other (a := ⟨g, 5, none⟩) HG.out (.int .u64 (fr : Int))).drew
  clear hF c5 f5 y0' e1 e2 x0 x1 x2 x3
  generalize ((w.alloc (.cells #[.int .u64 (q.num : Int), .int .i64 (q.size : Int), .int .u64 (q.time : Int), .bool q.asks] 78)).setCell ⟨g, 5, none⟩ (.int .u64 (fr : Int))).drew = w1 at *
  have z0 : w1.cell? ⟨w.heap.size, 0, none⟩ = some (.int .u64 (q.num : Int)) := bx1.cell 0
  have u1 : RowO w1 78 4 (.slice (some ⟨b, o, none⟩) n cap) n (vp T) := HU.out.same (fun j hj => k1.block j (HU.out.lt j hj) (HNE.out j hj))
  obtain ⟨m2, hm2⟩ : ∃ m2, cameT m T q last delay = m2 := ⟨_, rfl⟩
  have hwin : m2.win = m.win ∧ m2.thr = m.thr := by
    rw [← hm2]
    unfold cameT measM cameF
    split
    · split <;> exact ⟨rfl, rfl⟩
    · exact ⟨rfl, rfl⟩
  have HME := veil (show cameM m T q last delay = { m2 with win := T.foldl (growF m2) m2.win } by unfold cameM; rw [hm2, hwin.1])
  have HW1 := veil (show 2400 ≤ m2.win by rw [hwin.1]; exact HW1'.out)
  have HW2 := veil (show m2.win + 1200 * T.length ≤ 3000000 by rw [hwin.1]; exact HW2'.out)
  have HW3 := veil (show m2.thr ≤ 3000000 by rw [hwin.2]; exact HW3'.out)
  have HM2 := veil hm2
  have HR1 := veil r1
  have HK1 := veil k1
  have HBX1 := veil bx1
  have HU1 := veil u1
  clear r1 k1 bx1 u1 hm2 hwin l1 l2 l3 HBX HA HBA HFR hgw'
  by_cases hql : q.num = last
  · have d1 : decide ((q.num : Int) = (last : Int)) = true := by simp; omega
    have d2 : decide (q.num = last) = true := by simp; omega
    have d3 : (q.num : Int) = (last : Int) := by omega
    have CC := veil (contains_asks (fun p => p.asks) _ T w1 (by rw [HN.out]; exact HU1.out) (by have := HTL.out; omega) (fun W9 _ p _ => asks1_any p W9))
    have HQL := veil hql
    clear hql
    go_wp2_with fail
    refine CC.out.mono ?_
    rintro e2 w2 ⟨rfl, hb2⟩
    have r2 := HR1.out.below hb2 HR1.out.lt
    have k2 : KeepP (fun k => k = g) w w2 := HK1.out.trans (KeepP.of_below hb2)
    have bx2 := HBX1.out.below hb2 HBX1.out.lt
    cases hany : T.any (fun p => p.asks)
    · have HM2' : m2 = cameF m q := by rw [← HM2.out]; unfold cameT; rw [if_neg (fun c => by rw [hany] at c; cases c.2)]
      have HR2 : Hid (Row w2 g 70 (mlC v m2)) := by rw [HM2']; exact r2
      have HK2 := veil k2
      clear hb2 r2 k2 bx2 z0 hany HM2' CC d1 d2 d3
      go_wp2_with fail
      go_loopw [47] (fun iv wr => ∃ k : Nat, k ≤ n ∧ iv = .int .i64 k ∧ Row wr g 70 (mlC v { m2 with win := (T.take k).foldl (growF m2) m2.win }) ∧ KeepP (fun k => k = g) w wr)
        (fun iv _ => n - (intOf iv).toNat)
      case atStart => exact ⟨0, Nat.zero_le _, rfl, by rw [List.take_zero]; exact HR2.out, HK2.out⟩
      case round =>
        obtain ⟨k, hk, rfl, hrow, hkeep⟩ := hrel
        by_cases hlt : k < n
        · have hkl : k < T.length := by rw [HN.out]; exact hlt
          obtain ⟨p, hget⟩ : ∃ p, T[k]? = some p := ⟨_, List.getElem?_eq_getElem hkl⟩
          have huw : RowO wr 78 4 (.slice (some ⟨b, o, none⟩) n cap) n (vp T) := HU.out.same (fun q hq => hkeep.block q (HU.out.lt q hq) (HNE.out q hq))
          obtain ⟨b9, o9, hbo, hbl, x0, x1, x2, x3⟩ := way_at huw hget
          injection hbo with hbo
          injection hbo with hb9 ho9
          subst hb9 ho9
          have hba : Below wr.heap.size wr (wr.alloc (.cells #[.int .u64 (p.num : Int), .int .i64 (p.size : Int), .int .u64 (p.time : Int), .bool p.asks] 78)) := (Below.refl _ wr).alloc (Nat.le_refl _) _
          have CC := veil (counts_any g v { m2 with win := (T.take k).foldl (growF m2) m2.win } p _ (hrow.below hba hrow.lt))
          have HBX := veil (show Row (wr.alloc (.cells #[.int .u64 (p.num : Int), .int .i64 (p.size : Int), .int .u64 (p.time : Int), .bool p.asks] 78)) wr.heap.size 78 #[.int .u64 (p.num : Int), .int .i64 (p.size : Int), .int .u64 (p.time : Int), .bool p.asks] from Row.new _ _ _)
          have HBA := veil hba
          have HROW := veil hrow
          have HKP := veil hkeep
          have HLt := veil hlt
          have HGT := veil hget
          unfold pkC at CC
          clear hrow hkeep huw hba hkl hget
          go_wp2_with fail
          refine CC.out.mono ?_
          rintro e6 w6 ⟨rfl, hb6⟩
          have hb6' : Below wr.heap.size wr w6 := HBA.out.trans (hb6.mono HBA.out.size)
          have r6 := HROW.out.below hb6' HROW.out.lt
          have k6 : KeepP (fun k => k = g) w w6 := HKP.out.trans (KeepP.of_below hb6')
          have y1 : w6.cell? ⟨wr.heap.size, 1, none⟩ = some (.int .i64 (p.size : Int)) := (HBX.out.below hb6 HBX.out.lt).cell 1
          have hce : countsB { m2 with win := (T.take k).foldl (growF m2) m2.win } p = countsB m2 p := rfl
          clear hb6 hb6' x0 x1 x2 x3 CC
          rw [hce]
          cases hcc : countsB m2 p
          · have HRR := veil (show Row w6 g 70 (mlC v { m2 with win := (T.take (k + 1)).foldl (growF m2) m2.win }) by
              rw [List.take_add_one, HGT.out, List.foldl_append]
              show Row w6 g 70 (mlC v { m2 with win := growF m2 _ p })
              unfold growF
              rw [hcc]
              exact r6)
            have HKK := veil k6
            clear r6 k6 y1 hcc hce
            go_wp2
            go_roundw
            case rel => exact ⟨k + 1, by have := HLt.out; omega, by go_num, HRR.out, HKK.out⟩
            case measure => have := HLt.out; simp [intOf]; omega
          · have GC := veil (grows_any g v m2 T k p HGT.out w6 r6 HW1.out HW2.out HW3.out HSZ.out hcc)
            have HKK := veil k6
            clear r6 k6 hcc hce
            go_wp2_with fail
            refine GC.out.mono ?_
            rintro e7 w7 ⟨⟨u7, rfl⟩, r7, k7⟩
            have HRR := veil r7
            have HK7 := veil (HKK.out.trans k7)
            clear r7 k7 y1
            go_wp2
            go_roundw
            case rel => exact ⟨k + 1, by have := HLt.out; omega, by go_num, HRR.out, HK7.out⟩
            case measure => have := HLt.out; simp [intOf]; omega
        · have e : k = n := by omega
          subst e
          have hto : T.take k = T := by rw [← HN.out]; exact List.take_length
          rw [hto] at hrow
          have HO := veil hrow
          have HB := veil hkeep
          clear hto hrow hkeep hlt
          go_wp2
          refine bodyPost_end (results_none rfl _ _ _) rfl ?_
          exact ⟨⟨_, rfl⟩, by rw [HME.out]; exact HO.out, HB.out⟩
    · have HM2' : m2 = measM (cameF m q) (m.now - q.time) delay := by rw [← HM2.out]; unfold cameT; rw [if_pos ⟨HQL.out, hany⟩]
      obtain ⟨d, hd⟩ : ∃ d, m.now - q.time = d := ⟨_, rfl⟩
      have hdd : IntKind.u64.wrap ((m.now : Int) - (q.time : Int)) = (d : Int) := by have := B4.out; have := B6.out; rw [IntKind.wrap_u64]; omega
      have p4 : w2.drew.cell? ⟨g, 4, none⟩ = some (.int .u64 (m.now : Int)) := r2.cell 4
      have p2 : w2.drew.cell? ⟨w.heap.size, 2, none⟩ = some (.int .u64 (q.time : Int)) := bx2.cell 2
      have MC := veil (measure_any g v (cameF m q) d delay w2.drew r2.drew B1.out B2.out B3.out (by have := B4.out; omega) B5.out)
      rw [hd] at HM2'
      rw [← HM2'] at MC
      have HK2' := veil k2
      clear hb2 r2 k2 bx2 z0 hany HM2' CC d1 d2 d3 hd
      go_wp2_with fail
      refine (wpIn_wide (n := 4)).1 ?_
      refine wpIn_region_any (by kernel_rfl) ?_
      refine anyIn_spine (valCa g w.heap.size m.now q.time d delay) (RCa w2.drew (fun W => Row W g 70 (mlC v m2) ∧ KeepP (fun k => k = g) w2.drew W)) undef [9] [35, 36, 37, 38, 39, 40, 41, 42, 43, 44] depCa dclCa (by kernel_rfl) (by decide) rfl (by decide) (by decide) ?ord (by decide) ?h0 ?fix ?cal ?don
      case ord =>
        intro k i j h1 h2
        match k, h1, h2 with
        | 0, _, h2 => simp at h2
        | _ + 1, h1, _ => simp at h1
      case fix =>
        intro x W4 m2 ii d u hR hdi hni hdep hlo hhi
        match ii, hdi, hni, hdep, hhi with
        | 0, hdi, _, _, _ =>
          obtain rfl := Option.some.inj hdi
          exact OI_value rfl rfl (about_none (by intro c h; cases h)) (by intro c h; cases h) (.pointer (some ⟨g, 0, none⟩)) W4 (by kernel_rfl) ⟨rfl, rfl⟩
        | 1, hdi, _, _, _ =>
          obtain rfl := Option.some.inj hdi
          exact OI_value rfl rfl (about_none (by intro c h; cases h)) (by intro c h; cases h) (.pointer (some ⟨g, 0, none⟩)) W4 (by kernel_rfl) ⟨rfl, rfl⟩
        | 2, hdi, _, hdep, _ =>
          obtain rfl := Option.some.inj hdi
          rw [updV_self (show x 1 = _ from hdep 1 (by simp [depCa]) (by decide))]
          exact OI_value rfl rfl (about_none (by intro c h; cases h)) (by intro c h; cases h) (.pointer (some ⟨g, 0, none⟩)) W4 (by kernel_rfl) ⟨rfl, rfl⟩
        | 3, hdi, _, hdep, _ =>
          obtain rfl := Option.some.inj hdi
          rw [updV_self (show x 2 = _ from hdep 2 (by simp [depCa]) (by decide))]
          exact OI_value rfl rfl (about_none (by intro c h; cases h)) (by intro c h; cases h) (.pointer (some ⟨g, 4, none⟩)) W4 (by kernel_rfl) ⟨rfl, rfl⟩
        | 4, hdi, _, hdep, hhi =>
          obtain rfl := Option.some.inj hdi
          rw [updV_self (show x 3 = _ from hdep 3 (by simp [depCa]) (by decide))]
          exact OI_value rfl rfl (about_none (by intro c h; cases h)) (by intro c h; cases h) (.int .u64 (m.now : Int)) W4 (lgRun_cell 23 _ ⟨g, 4, none⟩ _ _ rfl (by kernel_rfl) Tryz.underlying23 rfl _ (by rw [hR.zero (hhi 0 9 rfl (by decide))]; exact p4)) ⟨rfl, rfl⟩
        | 5, hdi, _, _, _ =>
          obtain rfl := Option.some.inj hdi
          exact OI_value rfl rfl (about_none (by intro c h; cases h)) (by intro c h; cases h) (.pointer (some ⟨w.heap.size, 2, none⟩)) W4 (by kernel_rfl) ⟨rfl, rfl⟩
        | 6, hdi, _, hdep, hhi =>
          obtain rfl := Option.some.inj hdi
          rw [updV_self (show x 5 = _ from hdep 5 (by simp [depCa]) (by decide))]
          exact OI_value rfl rfl (about_none (by intro c h; cases h)) (by intro c h; cases h) (.int .u64 (q.time : Int)) W4 (lgRun_cell 23 _ ⟨w.heap.size, 2, none⟩ _ _ rfl (by kernel_rfl) Tryz.underlying23 rfl _ (by rw [hR.zero (hhi 0 9 rfl (by decide))]; exact p2)) ⟨rfl, rfl⟩
        | 7, hdi, _, hdep, _ =>
          obtain rfl := Option.some.inj hdi
          rw [updV_self (show x 4 = _ from hdep 4 (by simp [depCa]) (by decide)), updV_self (show (updV x 4 _) 6 = _ from hdep 6 (by simp [depCa]) (by decide))]
          exact OI_value rfl rfl (about_none (by intro c h; cases h)) (by intro c h; cases h) (.int .u64 (d : Int)) W4 (val_eq (by kernel_rfl) hdd) ⟨rfl, rfl⟩
        | 8, hdi, _, _, _ =>
          obtain rfl := Option.some.inj hdi
          exact OI_value rfl rfl (about_none (by intro c h; cases h)) (by intro c h; cases h) (.int .u64 (delay : Int)) W4 (by kernel_rfl) ⟨rfl, rfl⟩
        | 9, _, hni, _, _ => exact absurd (by decide) hni
        | _ + 10, hdi, _, _, _ => simp at hdi
      case cal =>
        intro x W4 k2 ii d u hR hk hdi hdep hu0 hup
        match k2, hk, hR, hu0, hup with
        | 0, hk, hR, hu0, hup =>
          obtain rfl := Option.some.inj hk
          obtain rfl := Option.some.inj hdi
          obtain rfl : W4 = w2.drew := hR
          rw [updV_self (show x 0 = _ from hdep 0 (by simp [depCa]) (by decide)), updV_self (show (updV x 0 _) 7 = _ from hdep 7 (by simp [depCa]) (by decide)), updV_self (show (updV (updV x 0 _) 7 _) 8 = _ from hdep 8 (by simp [depCa]) (by decide))]
          refine OI_call rfl rfl (by intro c h; cases h) 90 #[.pointer (some ⟨g, 0, none⟩), .int .u64 (d : Int), .int .u64 (delay : Int)] (fun _ _ => trivial) (by kernel_rfl) (by decide) ?_
          refine (callsIn_wide.2 MC.out).mono ?_
          rintro r9 w9 ⟨⟨u9, rfl⟩, r9, k9⟩
          exact ⟨_, rfl, _, rfl, r9, k9⟩
        | _ + 1, hk, _, _, _ => simp at hk
      case h0 => exact rfl
      case don =>
        rintro x w3 u3 ⟨r3, k3⟩ _ _
        simp only [putsV, Act.put, List.setIfInBounds_toArray, List.set_cons_succ, List.set_cons_zero, Nat.reduceAdd]
        generalize x 0 = z0, x 1 = z1, x 2 = z2, x 3 = z3, x 4 = z4, x 5 = z5, x 6 = z6, x 7 = z7, x 8 = z8, x 9 = z9
        have HR2 := veil r3
        have HK2 := veil ((HK2'.out.trans (KeepP.of_below ((Below.refl _ w2).drew))).trans k3)
        clear r3 k3 p4 p2 hdd
        go_wp2_with fail
        go_loopw [47] (fun iv wr => ∃ k : Nat, k ≤ n ∧ iv = .int .i64 k ∧ Row wr g 70 (mlC v { m2 with win := (T.take k).foldl (growF m2) m2.win }) ∧ KeepP (fun k => k = g) w wr)
          (fun iv _ => n - (intOf iv).toNat)
        case atStart => exact ⟨0, Nat.zero_le _, rfl, by rw [List.take_zero]; exact HR2.out, HK2.out⟩
        case round =>
          obtain ⟨k, hk, rfl, hrow, hkeep⟩ := hrel
          by_cases hlt : k < n
          · have hkl : k < T.length := by rw [HN.out]; exact hlt
            obtain ⟨p, hget⟩ : ∃ p, T[k]? = some p := ⟨_, List.getElem?_eq_getElem hkl⟩
            have huw : RowO wr 78 4 (.slice (some ⟨b, o, none⟩) n cap) n (vp T) := HU.out.same (fun q hq => hkeep.block q (HU.out.lt q hq) (HNE.out q hq))
            obtain ⟨b9, o9, hbo, hbl, x0, x1, x2, x3⟩ := way_at huw hget
            injection hbo with hbo
            injection hbo with hb9 ho9
            subst hb9 ho9
            have hba : Below wr.heap.size wr (wr.alloc (.cells #[.int .u64 (p.num : Int), .int .i64 (p.size : Int), .int .u64 (p.time : Int), .bool p.asks] 78)) := (Below.refl _ wr).alloc (Nat.le_refl _) _
            have CC := veil (counts_any g v { m2 with win := (T.take k).foldl (growF m2) m2.win } p _ (hrow.below hba hrow.lt))
            have HBX := veil (show Row (wr.alloc (.cells #[.int .u64 (p.num : Int), .int .i64 (p.size : Int), .int .u64 (p.time : Int), .bool p.asks] 78)) wr.heap.size 78 #[.int .u64 (p.num : Int), .int .i64 (p.size : Int), .int .u64 (p.time : Int), .bool p.asks] from Row.new _ _ _)
            have HBA := veil hba
            have HROW := veil hrow
            have HKP := veil hkeep
            have HLt := veil hlt
            have HGT := veil hget
            unfold pkC at CC
            clear hrow hkeep huw hba hkl hget
            go_wp2_with fail
            refine CC.out.mono ?_
            rintro e6 w6 ⟨rfl, hb6⟩
            have hb6' : Below wr.heap.size wr w6 := HBA.out.trans (hb6.mono HBA.out.size)
            have r6 := HROW.out.below hb6' HROW.out.lt
            have k6 : KeepP (fun k => k = g) w w6 := HKP.out.trans (KeepP.of_below hb6')
            have y1 : w6.cell? ⟨wr.heap.size, 1, none⟩ = some (.int .i64 (p.size : Int)) := (HBX.out.below hb6 HBX.out.lt).cell 1
            have hce : countsB { m2 with win := (T.take k).foldl (growF m2) m2.win } p = countsB m2 p := rfl
            clear hb6 hb6' x0 x1 x2 x3 CC
            rw [hce]
            cases hcc : countsB m2 p
            · have HRR := veil (show Row w6 g 70 (mlC v { m2 with win := (T.take (k + 1)).foldl (growF m2) m2.win }) by
                rw [List.take_add_one, HGT.out, List.foldl_append]
                show Row w6 g 70 (mlC v { m2 with win := growF m2 _ p })
                unfold growF
                rw [hcc]
                exact r6)
              have HKK := veil k6
              clear r6 k6 y1 hcc hce
              go_wp2
              go_roundw
              case rel => exact ⟨k + 1, by have := HLt.out; omega, by go_num, HRR.out, HKK.out⟩
              case measure => have := HLt.out; simp [intOf]; omega
            · have GC := veil (grows_any g v m2 T k p HGT.out w6 r6 HW1.out HW2.out HW3.out HSZ.out hcc)
              have HKK := veil k6
              clear r6 k6 hcc hce
              go_wp2_with fail
              refine GC.out.mono ?_
              rintro e7 w7 ⟨⟨u7, rfl⟩, r7, k7⟩
              have HRR := veil r7
              have HK7 := veil (HKK.out.trans k7)
              clear r7 k7 y1
              go_wp2
              go_roundw
              case rel => exact ⟨k + 1, by have := HLt.out; omega, by go_num, HRR.out, HK7.out⟩
              case measure => have := HLt.out; simp [intOf]; omega
          · have e : k = n := by omega
            subst e
            have hto : T.take k = T := by rw [← HN.out]; exact List.take_length
            rw [hto] at hrow
            have HO := veil hrow
            have HB := veil hkeep
            clear hto hrow hkeep hlt
            go_wp2
            refine bodyPost_end (results_none rfl _ _ _) rfl ?_
            exact ⟨⟨_, rfl⟩, by rw [HME.out]; exact HO.out, HB.out⟩
  · have HM2' : m2 = cameF m q := by rw [← HM2.out]; unfold cameT; rw [if_neg (fun c => hql c.1)]
    have d1 : decide ((q.num : Int) = (last : Int)) = false := by simp; omega
    have d2 : decide (q.num = last) = false := by simp; omega
    have d3 : ¬ (q.num : Int) = (last : Int) := by omega
    have HR2 : Hid (Row w1 g 70 (mlC v m2)) := by rw [HM2']; exact HR1.out
    have HK2 := veil HK1.out
    clear hql HM2'
    go_wp2_with fail
    go_loopw [47] (fun iv wr => ∃ k : Nat, k ≤ n ∧ iv = .int .i64 k ∧ Row wr g 70 (mlC v { m2 with win := (T.take k).foldl (growF m2) m2.win }) ∧ KeepP (fun k => k = g) w wr)
      (fun iv _ => n - (intOf iv).toNat)
    case atStart => exact ⟨0, Nat.zero_le _, rfl, by rw [List.take_zero]; exact HR2.out, HK2.out⟩
    case round =>
      obtain ⟨k, hk, rfl, hrow, hkeep⟩ := hrel
      by_cases hlt : k < n
      · have hkl : k < T.length := by rw [HN.out]; exact hlt
        obtain ⟨p, hget⟩ : ∃ p, T[k]? = some p := ⟨_, List.getElem?_eq_getElem hkl⟩
        have huw : RowO wr 78 4 (.slice (some ⟨b, o, none⟩) n cap) n (vp T) := HU.out.same (fun q hq => hkeep.block q (HU.out.lt q hq) (HNE.out q hq))
        obtain ⟨b9, o9, hbo, hbl, x0, x1, x2, x3⟩ := way_at huw hget
        injection hbo with hbo
        injection hbo with hb9 ho9
        subst hb9 ho9
        have hba : Below wr.heap.size wr (wr.alloc (.cells #[.int .u64 (p.num : Int), .int .i64 (p.size : Int), .int .u64 (p.time : Int), .bool p.asks] 78)) := (Below.refl _ wr).alloc (Nat.le_refl _) _
        have CC := veil (counts_any g v { m2 with win := (T.take k).foldl (growF m2) m2.win } p _ (hrow.below hba hrow.lt))
        have HBX := veil (show Row (wr.alloc (.cells #[.int .u64 (p.num : Int), .int .i64 (p.size : Int), .int .u64 (p.time : Int), .bool p.asks] 78)) wr.heap.size 78 #[.int .u64 (p.num : Int), .int .i64 (p.size : Int), .int .u64 (p.time : Int), .bool p.asks] from Row.new _ _ _)
        have HBA := veil hba
        have HROW := veil hrow
        have HKP := veil hkeep
        have HLt := veil hlt
        have HGT := veil hget
        unfold pkC at CC
        clear hrow hkeep huw hba hkl hget
        go_wp2_with fail
        refine CC.out.mono ?_
        rintro e6 w6 ⟨rfl, hb6⟩
        have hb6' : Below wr.heap.size wr w6 := HBA.out.trans (hb6.mono HBA.out.size)
        have r6 := HROW.out.below hb6' HROW.out.lt
        have k6 : KeepP (fun k => k = g) w w6 := HKP.out.trans (KeepP.of_below hb6')
        have y1 : w6.cell? ⟨wr.heap.size, 1, none⟩ = some (.int .i64 (p.size : Int)) := (HBX.out.below hb6 HBX.out.lt).cell 1
        have hce : countsB { m2 with win := (T.take k).foldl (growF m2) m2.win } p = countsB m2 p := rfl
        clear hb6 hb6' x0 x1 x2 x3 CC
        rw [hce]
        cases hcc : countsB m2 p
        · have HRR := veil (show Row w6 g 70 (mlC v { m2 with win := (T.take (k + 1)).foldl (growF m2) m2.win }) by
            rw [List.take_add_one, HGT.out, List.foldl_append]
            show Row w6 g 70 (mlC v { m2 with win := growF m2 _ p })
            unfold growF
            rw [hcc]
            exact r6)
          have HKK := veil k6
          clear r6 k6 y1 hcc hce
          go_wp2
          go_roundw
          case rel => exact ⟨k + 1, by have := HLt.out; omega, by go_num, HRR.out, HKK.out⟩
          case measure => have := HLt.out; simp [intOf]; omega
        · have GC := veil (grows_any g v m2 T k p HGT.out w6 r6 HW1.out HW2.out HW3.out HSZ.out hcc)
          have HKK := veil k6
          clear r6 k6 hcc hce
          go_wp2_with fail
          refine GC.out.mono ?_
          rintro e7 w7 ⟨⟨u7, rfl⟩, r7, k7⟩
          have HRR := veil r7
          have HK7 := veil (HKK.out.trans k7)
          clear r7 k7 y1
          go_wp2
          go_roundw
          case rel => exact ⟨k + 1, by have := HLt.out; omega, by go_num, HRR.out, HK7.out⟩
          case measure => have := HLt.out; simp [intOf]; omega
      · have e : k = n := by omega
        subst e
        have hto : T.take k = T := by rw [← HN.out]; exact List.take_length
        rw [hto] at hrow
        have HO := veil hrow
        have HB := veil hkeep
        clear hto hrow hkeep hlt
        go_wp2
        refine bodyPost_end (results_none rfl _ _ _) rfl ?_
        exact ⟨⟨_, rfl⟩, by rw [HME.out]; exact HO.out, HB.out⟩
end Go.Proofs.YtohoieleakieeaaGreatDoor
