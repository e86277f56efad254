/-
  Out of BkRgF, BkRgG.
-/
import Derived.Test.YtehadfidenejdaaGreatDoorGp5

/-! What a Book of lists of ranges does to memory: each list is filled with its mark. Written by mkfill8.py. -/
namespace Go.Proofs.YtehadfidenejdaaGreatDoor.Bq
open Go Go.RowKit

def depF8 : Nat → List Nat
  | 1 => [0]
  | 4 => [3]
  | 5 => [4]
  | 6 => [1, 2]
  | 7 => [6, 5]
  | _ => []
def dclF8 : Nat → List Nat
  | 7 => [6, 5, 4, 3, 2, 1, 0]
  | 6 => [1, 2, 0]
  | 5 => [4, 3]
  | 4 => [3]
  | 1 => [0]
  | _ => []
def valF8 (Hb g nk c q k : Nat) : Nat → Value
  | 0 => .pointer (some ⟨Hb, 0, none⟩)
  | 1 => .slice (some ⟨g, 0, none⟩) nk c
  | 2 => .int .i64 (q : Int)
  | 3 => .pointer (some ⟨Hb, 2, none⟩)
  | 4 => .int .i64 (k : Int)
  | 6 => .pointer (some ⟨g, 0 + q * 2, none⟩)
  | _ => undef
/-- What the world is ahead of the call, behind it, and behind the store. -/
def fR8 (wr : World) (g q k : Nat) : Nat → World → Value → Prop
  | 0, W, _ => Below wr.heap.size wr W
  | 1, W, u => Below wr.heap.size wr W ∧ u = .agg (rC2 (mk k))
  | _, W, _ => ∃ W1, Below wr.heap.size wr W1 ∧ W = W1.setCells g (q * 2) (rC2 (mk k)).toList
theorem fR8.zero {wr W : World} {g q k : Nat} {u : Value} (h : fR8 wr g q k 0 W u) : Below wr.heap.size wr W := h
theorem fR8.one {wr W : World} {g q k : Nat} {u : Value} (h : fR8 wr g q k 1 W u) : Below wr.heap.size wr W ∧ u = .agg (rC2 (mk k)) := h
theorem fR8.two {wr W : World} {g q k : Nat} {u : Value} (h : fR8 wr g q k 2 W u) : ∃ W1, Below wr.heap.size wr W1 ∧ W = W1.setCells g (q * 2) (rC2 (mk k)).toList := h

set_option maxRecDepth 20000 in
set_option maxHeartbeats 2000000 in
theorem fill_any (S B h m cap : Nat) (nu : Nat → Nat) (E : Nat → Value) (N : Nat → Nat) (Lg : Nat → Value) (X : Nat → List (Nat × Nat)) (w0 wF : World) (hnu : ∀ i, i < m → nu i ≤ 5000000) (hm2 : m ≤ 3000000) (hN : ∀ i, i < m → N i ≤ 5000000) (hLg : ∀ i, i < m → Lg i = .slice none 0 0) (sep : Sep S B h m E) (st : St S B h m cap nu E N Lg X w0 wF) :
    Calls Tryz.prog 57 #[.pointer (some ⟨B, 0, none⟩)] wF fun e w' => e = .returned (.tuple #[]) ∧ St S B h m cap nu E N Lg (fun i => List.replicate (N i) (mk (nu i))) w0 w' ∧ KeepP (OwnB m E) wF w' := by
  have hc := st.book
  have HST := veil st
  clear st
  refine (callsIn_wide (n := 4)).1 ?_
  refine callsIn_of_wp Tryz.func57 rfl trivial ?_ rfl
  simp only [Tryz.ntmps57, List.size_toArray, List.length_cons, List.length_nil, Nat.reduceAdd, Nat.reduceSub, Array.replicate_succ, Array.replicate_zero, List.push_toArray, List.append_toArray, List.nil_append, List.cons_append]
  gi_wp2_with fail
  gi_loopw [2] (fun i wr => ∃ (k : Nat) (Y : Nat → List (Nat × Nat)), k ≤ m ∧ i = .int .i64 k ∧ St S B h m cap nu E N Lg Y w0 wr ∧ (∀ j, j < k → Y j = List.replicate (N j) (mk (nu j))) ∧ KeepP (OwnB m E) wF wr) (fun i _ => m - (intOf i).toNat)
  case atStart => exact ⟨0, X, Nat.zero_le _, rfl, HST.out, fun j hj => absurd hj (Nat.not_lt_zero _), KeepP.refl _ _⟩
  case round =>
    obtain ⟨k, Y, hk, rfl, st, hY, hkp⟩ := hrel
    have HKP := veil hkp
    clear hkp
    have hcb := st.book
    by_cases hlt : k < m
    · have c0 := st.l k hlt
      have c1 := st.g k hlt
      have c2 := st.n k hlt
      have hNk := hN k hlt
      have hkm : nu k ≤ 5000000 := hnu k hlt
      have HSR := veil st
      have HY := veil hY
      rw [hLg k hlt] at c1
      have hlen := rowsLen (st.rows k hlt)
      have hbh := st.bh
      obtain ⟨ao, c, hE⟩ : ∃ ao c, E k = .slice ao (N k) c := by
        rcases bookOwn_shape (st.rows k hlt) with ⟨h1, h2⟩ | ⟨g, c, h1, _⟩
        · exact ⟨none, 0, by rw [h1, h2]⟩
        · exact ⟨some ⟨g, 0, none⟩, c, h1⟩
      have HE := veil hE
      rw [hE] at c0
      clear st hY hE
      gi_wp2_with fail
      obtain ⟨wo, rfl⟩ : ∃ wo : World, wo = wr := ⟨_, rfl⟩
      have HA := HSR.out.alloc (.cells #[.slice ao (N k) c, .slice none 0 0, .int .i64 (nu k : Int)] 120)
      gi_loopw [4] (fun i wq => ∃ (q : Nat) (Z : List (Nat × Nat)), q ≤ N k ∧ i = .int .i64 q ∧ St S B h m cap nu E N Lg (fun j => if j = k then Z else Y j) w0 wq ∧ Z.length = N k ∧ Z.take q = List.replicate q (mk (nu k)) ∧ wq.cell? ⟨wo.heap.size, 0, none⟩ = some (.slice ao (N k) c) ∧ wq.cell? ⟨wo.heap.size, 2, none⟩ = some (.int .i64 (nu k : Int)) ∧ wo.heap.size < wq.heap.size ∧ KeepP (OwnB m E) wF wq) (fun i _ => N k - (intOf i).toNat)
      case atStart =>
        refine ⟨0, Y k, Nat.zero_le _, rfl, ?_, hlen, rfl, by simp, by simp, by simp, keep_grown HKP.out (World.grownBy_alloc _ _ none) (fun b e => by cases e)⟩
        have e : (fun j => if j = k then Y k else Y j) = Y := by
          funext j
          by_cases hj : j = k
          · rw [if_pos hj, hj]
          · rw [if_neg hj]
        rw [e]
        exact HA
      case round =>
        obtain ⟨q, Z, hq, rfl, st2, hZl, hZ, hp0, hp2, hsq, hkp2⟩ := hrel
        have HKP2 := veil hkp2
        clear hkp2
        have HS2 := veil st2
        by_cases hqn : q < N k
        · obtain ⟨g, hao⟩ : ∃ g, ao = some ⟨g, 0, none⟩ := by
            rcases bookOwn_shape (HSR.out.rows k hlt) with ⟨h1, h2⟩ | ⟨g, c4, h1, _⟩
            · omega
            · rw [HE.out] at h1; injection h1 with e1 e2 e3; exact ⟨g, e1⟩
          subst hao
          have hgl : g < wo.heap.size := ((HSR.out.rows k hlt).lt g (by rw [HE.out]; rfl)).2
          have ownW : ∀ W', Below wr.heap.size wr W' → W'.ownsRow S 93 2 (.slice (some ⟨g, 0, none⟩) (N k) c) (N k) (vr Z) := by
            intro W' hb
            have hrow := (HS2.out.belowW hb).rows k hlt
            simp only [if_true] at hrow
            rw [HE.out] at hrow
            exact hrow
          have HZ := veil hZ
          have HZL := veil hZl
          have i1 : (0 : Int) ≤ (q : Int) := by omega
          have i2 : (q : Int) < (N k : Int) := by omega
          clear st2 hZ hZl HA
          gi_wp2_with fail
          refine wpIn_region_any (by kernel_rfl) ?_
          refine anyIn_spine (valF8 wo.heap.size g (N k) c q (nu k)) (fR8 wr g q (nu k)) undef [5, 7] [28, 29, 30, 31, 32, 33, 34, 100000] depF8 dclF8 (by kernel_rfl) (by decide) rfl (by decide) (by decide) ?ord (by decide) ((Below.refl _ _).drew) ?fix ?cal ?don
          case ord =>
            intro k i j h1 h2
            match k, h1, h2 with
            | 0, h1, h2 =>
              obtain rfl := Option.some.inj h1
              obtain rfl := Option.some.inj h2
              decide
            | 1, _, h2 => simp at h2
            | _ + 2, h1, _ => simp at h1
          case fix =>
            intro x W m2 ii d u hR hdi hni hdep hlo hhi
            have hm1 : m2 ≤ 1 ∨ 7 < ii := by
              by_cases h7 : 7 < ii
              · exact .inr h7
              · refine .inl (hhi 1 7 rfl ?_)
                have : ii = 0 ∨ ii = 1 ∨ ii = 2 ∨ ii = 3 ∨ ii = 4 ∨ ii = 6 := by
                  have : ii ≠ 5 := fun e => hni (by rw [e]; decide)
                  have : ii ≠ 7 := fun e => hni (by rw [e]; decide)
                  omega
                rcases this with rfl | rfl | rfl | rfl | rfl | rfl <;> decide
            have hbW : 7 < ii ∨ Below wr.heap.size wr W := by
              rcases hm1 with h1 | h1
              · right
                rcases Nat.le_one_iff_eq_zero_or_eq_one.1 h1 with rfl | rfl
                · exact fR8.zero hR
                · exact (fR8.one hR).1
              · exact .inl h1
            have hb0 : 7 < ii ∨ (W.cell? ⟨wo.heap.size, 0, none⟩ = some (.slice (some ⟨g, 0, none⟩) (N k) c) ∧ W.cell? ⟨wo.heap.size, 2, none⟩ = some (.int .i64 (nu k : Int))) := by
              rcases hbW with h1 | h1
              · exact .inl h1
              · exact .inr ⟨(World.cell?_of_block (w := wr) (a := ⟨wo.heap.size, 0, none⟩) (h1.block wo.heap.size hsq)).trans hp0, (World.cell?_of_block (w := wr) (a := ⟨wo.heap.size, 2, none⟩) (h1.block wo.heap.size hsq)).trans hp2⟩
            by_cases h7 : 7 < ii
            · rw [List.getElem?_eq_none (by simp; omega)] at hdi
              cases hdi
            obtain ⟨b0, b2⟩ := hb0.resolve_left h7
            clear hm1 hbW hb0 h7
            match ii, hdi, hdep with
            | 0, hdi, _ =>
              obtain rfl := Option.some.inj hdi
              exact OI_value rfl rfl (about_none (by intro c h; cases h)) (by intro c h; cases h) (.pointer (some ⟨wo.heap.size, 0, none⟩)) W (by kernel_rfl) ⟨rfl, rfl⟩
            | 1, hdi, hdep =>
              obtain rfl := Option.some.inj hdi
              rw [updV_self (show x 0 = _ from hdep 0 (by simp [depF8]) (by decide))]
              exact OI_value rfl rfl (about_none (by intro c h; cases h)) (by intro c h; cases h) (.slice (some ⟨g, 0, none⟩) (N k) c) W (run_cellB 26 _ ⟨wo.heap.size, 0, none⟩ _ _ rfl (by kernel_rfl) Tryz.underlying26 rfl W b0) ⟨rfl, rfl⟩
            | 2, hdi, _ =>
              obtain rfl := Option.some.inj hdi
              exact OI_value rfl rfl (about_none (by intro c h; cases h)) (by intro c h; cases h) (.int .i64 (q : Int)) W (by kernel_rfl) ⟨rfl, rfl⟩
            | 3, hdi, _ =>
              obtain rfl := Option.some.inj hdi
              exact OI_value rfl rfl (about_none (by intro c h; cases h)) (by intro c h; cases h) (.pointer (some ⟨wo.heap.size, 2, none⟩)) W (by kernel_rfl) ⟨rfl, rfl⟩
            | 4, hdi, hdep =>
              obtain rfl := Option.some.inj hdi
              rw [updV_self (show x 3 = _ from hdep 3 (by simp [depF8]) (by decide))]
              exact OI_value rfl rfl (about_none (by intro c h; cases h)) (by intro c h; cases h) (.int .i64 (nu k : Int)) W (run_cellB 3 _ ⟨wo.heap.size, 2, none⟩ _ _ rfl (by kernel_rfl) Tryz.underlying3 rfl W b2) ⟨rfl, rfl⟩
            | 5, _, _ => exact absurd (by decide) hni
            | 6, hdi, hdep =>
              obtain rfl := Option.some.inj hdi
              rw [updV_self (show x 1 = _ from hdep 1 (by simp [depF8]) (by decide)), updV_self (show (updV x 1 _) 2 = _ from hdep 2 (by simp [depF8]) (by decide))]
              exact OI_value rfl rfl (about_none (by intro c h; cases h)) (by intro c h; cases h) (.pointer (some ⟨g, 0 + q * 2, none⟩)) W (run_atR 26 93 2 _ _ g 0 (N k) c q rfl (by kernel_rfl) (by kernel_rfl) Tryz.underlying26 (by kernel_rfl) hqn W) ⟨rfl, rfl⟩
            | 7, _, _ => exact absurd (by decide) hni
            | _ + 8, hdi, _ => simp at hdi
          case cal =>
            intro x W k2 ii d u hR hk hdi hdep hu0 hup
            match k2, hk, hR, hup with
            | 0, hk, hR, _ =>
              obtain rfl := Option.some.inj hk
              obtain rfl := Option.some.inj hdi
              rw [updV_self (show x 4 = _ from hdep 4 (by simp [depF8]) (by decide))]
              refine OI_call rfl rfl (by intro c h; cases h) 100 #[.int .i64 (nu k : Int)] (fun _ _ => trivial) (by kernel_rfl) (by decide) ?_
              refine (callsIn_wide.2 (mark_r (nu k) W hkm)).mono ?_
              rintro e w' ⟨rfl, hb'⟩
              exact ⟨_, rfl, _, rfl, (fR8.zero hR).trans (hb'.mono (fR8.zero hR).size), rfl⟩
            | 1, hk, hR, hup =>
              obtain rfl := Option.some.inj hk
              obtain rfl := Option.some.inj hdi
              obtain ⟨hbW, hu⟩ := fR8.one hR
              have hx5 : x 5 = .agg (rC2 (mk (nu k))) := (hup 0 5 rfl rfl).trans hu
              rw [updV_self (show x 6 = _ from hdep 6 (by simp [depF8]) (by decide)), updV_self (show updV x 6 _ 5 = _ from hx5)]
              refine OI_skip rfl rfl (about_none (by intro c h; cases h)) (by intro c h; cases h) (W.setCells g (0 + q * 2) (rC2 (mk (nu k))).toList) ?_ ?_
              · exact run_storeMid8 93 _ _ g (0 + q * 2) (rC2 (mk (nu k))) rfl (by kernel_rfl) (by kernel_rfl) W (own_there (ownW W hbW) HZL.out q hqn) (by kernel_rfl) (by kernel_rfl)
              · refine ⟨undef, (put_none _ _).trans (put_far _ _ _ (by rw [puts_size]; exact Nat.le_of_ble_eq_true rfl)).symm, W, hbW, ?_⟩
                rw [Nat.zero_add]
            | _ + 2, hk, _, _ => simp at hk
          case don =>
            intro x W u hR hx hlast
            obtain ⟨W1, hb1, rfl⟩ := fR8.two hR
            have hst := (HS2.out.belowW hb1).store sep hlt HE.out q hqn (mk (nu k))
            simp only [if_true] at hst
            have e : (fun j => if j = k then Z.set q (mk (nu k)) else if j = k then Z else Y j) = (fun j => if j = k then Z.set q (mk (nu k)) else Y j) := by
              funext j
              by_cases hj : j = k
              · rw [if_pos hj, if_pos hj]
              · rw [if_neg hj, if_neg hj, if_neg hj]
            rw [e] at hst
            have HS5 := veil hst
            have hgr : W1.grownBy (W1.setCells g (q * 2) (rC2 (mk (nu k))).toList) (some g) := by
              have e : W1.setCells g (q * 2) (rC2 (mk (nu k))).toList = (W1.setCell ⟨g, q * 2, none⟩ (.int .u64 ((mk (nu k)).1 : Int))).setCell ⟨g, q * 2 + 1, none⟩ (.int .u64 ((mk (nu k)).2 : Int)) := rfl
              rw [e]
              exact ⟨rfl, rfl, rfl, by simp, fun b _ hb => (Below.heap_setCell _ _ _ b (fun e => hb (by rw [e]))).trans (Below.heap_setCell _ _ _ b (fun e => hb (by rw [e])))⟩
            have HKP5 := veil (keep_grown (keep_below HKP2.out hb1) hgr (fun b e => by injection e with e; subst e; exact .inl ⟨k, hlt, by rw [HE.out]; rfl⟩))
            have hs1 := hb1.size
            have hs2 := hgr.size
            have kp : ∀ j v, wr.cell? ⟨wo.heap.size, j, none⟩ = some v → (W1.setCells g (q * 2) (rC2 (mk (nu k))).toList).cell? ⟨wo.heap.size, j, none⟩ = some v := fun j v hv => hgr.cell ((World.cell?_of_block (w := wr) (a := ⟨wo.heap.size, j, none⟩) (hb1.block wo.heap.size hsq)).trans hv) (by show some wo.heap.size ≠ _; intro e; injection e with e; omega)
            have r0 := kp 0 _ hp0
            have r2 := kp 2 _ hp2
            have hsz : wo.heap.size < (W1.setCells g (q * 2) (rC2 (mk (nu k))).toList).heap.size := by omega
            generalize W1.setCells g (q * 2) (rC2 (mk (nu k))).toList = W2 at *
            have z0 := hx 0 (by decide) (by decide)
            have z1 := hx 1 (by decide) (by decide)
            have z2 := hx 2 (by decide) (by decide)
            have z3 := hx 3 (by decide) (by decide)
            have z4 := hx 4 (by decide) (by decide)
            have z6 := hx 6 (by decide) (by decide)
            simp only [putsV, z0, z1, z2, z3, z4, z6, valF8, Act.put, List.setIfInBounds_toArray, List.set_cons_succ, List.set_cons_zero, Nat.reduceAdd]
            clear z0 z1 z2 z3 z4 z6 hx hR hst kp hgr hb1 hlast
            gi_wp2_with fail
            go_roundw
            case rel => exact ⟨q + 1, Z.set q (mk (nu k)), by omega, by go_num, HS5.out, by rw [List.length_set]; exact HZL.out, set_step Z q (N k) (mk (nu k)) HZL.out hqn HZ.out, r0, r2, hsz, HKP5.out⟩
            case measure => simp [intOf]; omega
        · have hqe : q = N k := by omega
          have HZF : Hid (Z = List.replicate (N k) (mk (nu k))) := by
            rw [hqe, List.take_of_length_le (by omega)] at hZ
            exact hZ
          clear st2 hZ hZl HA
          gi_wp2_with fail
          go_roundw
          case rel =>
            refine ⟨k + 1, _, by omega, by go_num, HS2.out, fun j hj => ?_, HKP2.out⟩
            by_cases hjk : j = k
            · simp only [hjk, if_true]; exact HZF.out
            · simp only [hjk, if_false]; exact HY.out j (by omega)
          case measure => simp [intOf]; omega
    · have hkm : k = m := by omega
      subst hkm
      have HSR := veil st
      have HY := veil hY
      clear st hY
      gi_wp2_with fail
      go_end0
      have hst := HSR.out
      refine ⟨rfl, ⟨hst.sS, hst.bB, hst.bh, hst.book, hst.l, hst.g, hst.n, hst.fz, fun i hi => ?_, hst.below⟩, HKP.out⟩
      have := hst.rows i hi
      rw [HY.out i hi] at this
      exact this
end Go.Proofs.YtehadfidenejdaaGreatDoor.Bq

/-! What a Book of lists of ranges does to memory: what is put behind each list. Written by mkbook8b.py out of AeBook.lean. -/
namespace Go.Proofs.YtehadfidenejdaaGreatDoor.Bq
open Go Go.RowKit

theorem Tryz.infoRangeB : (Tryz.prog.info? 93).map (fun i => (i.zero, i.size, i.bytes)) = some (some (.agg #[.int .u64 0, .int .u64 0]), 2, 16) := by kernel_rfl

set_option maxRecDepth 20000 in
set_option maxHeartbeats 4000000 in
theorem bk_grow_any (S B h m cap : Nat) (nu : Nat → Nat) (E : Nat → Value) (N : Nat → Nat) (Lg : Nat → Value) (w0 wF : World) (hnu : ∀ i, i < m → nu i ≤ 5000000) (hm2 : m ≤ 3000000) (hN : ∀ i, i < m → N i ≤ 5000000) (hLg : ∀ i, i < m → Lg i = .slice none 0 0) (sep : Sep S B h m E) (st : St S B h m cap nu E N Lg (fun i => List.replicate (N i) (mk (nu i))) w0 wF) :
    Calls Tryz.prog 69 #[.pointer (some ⟨B, 0, none⟩)] wF fun e w' => e = .returned (.tuple #[]) ∧ ∃ Lg', St S B h m cap nu E N Lg' (fun i => List.replicate (N i) (mk (nu i))) w0 w' ∧ Gr S B h m m nu E N Lg' w' ∧ KeepP (fun b => OwnB m E b ∨ b = h) wF w' ∧ ∀ j, j < m → ∀ b, (Lg' j).ownBlock = some b → OwnB m E b ∨ wF.heap.size ≤ b := by
  obtain ⟨i0, hi, hz0, hz1, hz2⟩ := info_parts Tryz.infoRangeB
  have hc := st.book
  have HST := veil st
  clear st
  go_enter Tryz.func69, Tryz.ntmps69
  go_wp2
  go_loopw [2] (fun i wr => ∃ (k : Nat) (L : Nat → Value), k ≤ m ∧ i = .int .i64 k ∧ St S B h m cap nu E N L (fun i => List.replicate (N i) (mk (nu i))) w0 wr ∧ Gr S B h m k nu E N L wr ∧ (∀ j, k ≤ j → j < m → L j = .slice none 0 0) ∧ KeepP (fun b => OwnB m E b ∨ b = h) wF wr ∧ ∀ j, j < k → ∀ b, (L j).ownBlock = some b → OwnB m E b ∨ wF.heap.size ≤ b) (fun i _ => m - (intOf i).toNat)
  case atStart => exact ⟨0, Lg, Nat.zero_le _, rfl, HST.out, ⟨fun j hj => absurd hj (Nat.not_lt_zero _), fun j hj => absurd hj (Nat.not_lt_zero _), fun j hj => absurd hj (Nat.not_lt_zero _), fun j i hj => absurd hj (Nat.not_lt_zero _)⟩, fun j _ hj => hLg j hj, KeepP.refl _ _, fun j hj => absurd hj (Nat.not_lt_zero _)⟩
  case round =>
    obtain ⟨k, L, hk, rfl, st, gr, hnil, hkp, hlb⟩ := hrel
    have HKP := veil hkp
    have HLB := veil hlb
    clear hkp hlb
    have hcb := st.book
    by_cases hlt : k < m
    · have c0 := st.l k hlt
      have c1 := st.g k hlt
      have c2 := st.n k hlt
      have hNk := hN k hlt
      have hnk := hnu k hlt
      have HSR : Hid (St S B h m cap nu E N L (fun i => List.replicate (N i) (mk (nu i))) w0 wr) := st
      have HGR : Hid (Gr S B h m k nu E N L wr) := gr
      have HNL : Hid (∀ j, k ≤ j → j < m → L j = .slice none 0 0) := hnil
      rw [hnil k (Nat.le_refl _) hlt] at c1
      have hbh := st.bh
      obtain ⟨ao, c, hE⟩ : ∃ ao c, E k = .slice ao (N k) c := by
        rcases bookOwn_shape (st.rows k hlt) with ⟨h1, h2⟩ | ⟨g, c, h1, _⟩
        · exact ⟨none, 0, by rw [h1, h2]⟩
        · exact ⟨some ⟨g, 0, none⟩, c, h1⟩
      have HE : Hid (E k = .slice ao (N k) c) := hE
      rw [hE] at c0
      clear st gr hnil hE
      go_wp2_with fail
      obtain ⟨wo, rfl⟩ : ∃ wo : World, wo = wr := ⟨_, rfl⟩
      have HA := HSR.out.alloc (.cells #[.slice ao (N k) c, .slice none 0 0, .int .i64 (nu k : Int)] 120)
      have HG := HGR.out.grown (World.grownBy_alloc wo (.cells #[.slice ao (N k) c, .slice none 0 0, .int .i64 (nu k : Int)] 120) none) (fun j hj e => by
        rcases (HGR.out.rows j hj).2 with ⟨_, h0⟩ | ⟨g2, c2, _, h2, _⟩
        · omega
        · rw [h2] at e; cases e)
      have HSz : Hid (wo.heap.size + 1 = (wo.alloc (.cells #[.slice ao (N k) c, .slice none 0 0, .int .i64 (nu k : Int)] 120)).heap.size) := by show _ = _; simp
      go_loopw [4, 5] (fun t i wq => ∃ (q : Nat) (ao3 : Option Addr) (c3 : Nat), q ≤ 40 ∧ i = .int .i64 q ∧ t = .slice ao3 (N k + q) c3 ∧ St S B h m cap nu E N L (fun i => List.replicate (N i) (mk (nu i))) w0 wq ∧ Gr S B h m k nu E N L wq ∧
          ((.slice ao3 (N k + q) c3 = E k ∧ q = 0) ∨ (∃ g1 c1, Value.slice ao3 (N k + q) c3 = .slice (some ⟨g1, 0, none⟩) (N k + q) c1 ∧ ((∃ n1, E k = .slice (some ⟨g1, 0, none⟩) n1 c1) ∨ wo.heap.size + 1 ≤ g1))) ∧
          wq.ownsRow S 93 2 (.slice ao3 (N k + q) c3) (N k + q) (vr (List.replicate (N k + q) (mk (nu k)))) ∧ wo.heap.size + 1 ≤ wq.heap.size ∧ wq.cell? ⟨wo.heap.size, 2, none⟩ = some (.int .i64 (nu k : Int)) ∧ KeepP (fun b => OwnB m E b ∨ b = h) wF wq) (fun _ i _ => 40 - (intOf i).toNat)
      case atStart =>
        refine ⟨0, ao, c, Nat.zero_le _, rfl, rfl, HA, HG, .inl ⟨HE.out.symm, rfl⟩, ?_, Nat.le_of_eq HSz.out, by simp, keep_grown HKP.out (World.grownBy_alloc _ _ none) (fun b e => by cases e)⟩
        have := HA.rows k hlt
        rw [HE.out] at this
        exact this
      case round =>
        obtain ⟨q, ao3, c3, hq, rfl, rfl, st2, gr2, hsh, hown, hsz, hp2, hkp2⟩ := hrel
        have HKP2 := veil hkp2
        clear hkp2
        have HS2 : Hid (St S B h m cap nu E N L (fun i => List.replicate (N i) (mk (nu i))) w0 wr) := st2
        have HG2 : Hid (Gr S B h m k nu E N L wr) := gr2
        have HSH : Hid ((.slice ao3 (N k + q) c3 = E k ∧ q = 0) ∨ (∃ g1 c1, Value.slice ao3 (N k + q) c3 = .slice (some ⟨g1, 0, none⟩) (N k + q) c1 ∧ ((∃ n1, E k = .slice (some ⟨g1, 0, none⟩) n1 c1) ∨ wo.heap.size + 1 ≤ g1))) := hsh
        have HOW : Hid (wr.ownsRow S 93 2 (.slice ao3 (N k + q) c3) (N k + q) (vr (List.replicate (N k + q) (mk (nu k))))) := hown
        have hSz2 := st2.sS
        have hbB2 := st2.bB
        clear st2 gr2 hsh hown HA HG HSz
        by_cases hq40 : q < 40
        · go_wp2_with fail
          refine (mark_l (nu k) _ hnk).mono ?_
          rintro e9 w9 ⟨rfl, hb9⟩
          have S9 := HS2.out.belowW hb9
          have G9 : Gr S B h m k nu E N L w9 := HG2.out.grown (row := none) ⟨hb9.os, hb9.tape, hb9.output, hb9.size, fun b hb _ => hb9.block b hb⟩ (fun j hj e => by
            rcases (HG2.out.rows j hj).2 with ⟨_, h0⟩ | ⟨g2, c2, _, h2, _⟩
            · omega
            · rw [h2] at e; cases e)
          have O9 : w9.ownsRow S 93 2 (.slice ao3 (N k + q) c3) (N k + q) (vr (List.replicate (N k + q) (mk (nu k)))) := HOW.out.kept (row := none) ⟨hb9.os, hb9.tape, hb9.output, hb9.size, fun b hb _ => hb9.block b hb⟩ (by
            by_cases h0 : (Value.slice ao3 (N k + q) c3).ownBlock = none
            · exact .inl h0
            · exact .inr h0)
          have hp9 : w9.cell? ⟨wo.heap.size, 2, none⟩ = some (.int .i64 (nu k : Int)) := (World.cell?_of_block (w := wr) (a := ⟨wo.heap.size, 2, none⟩) (hb9.block wo.heap.size (by omega))).trans hp2
          have hsz9 := hb9.size
          have HKP9 := veil (keep_below HKP2.out hb9)
          have HS9 := veil S9
          have HG9 := veil G9
          have HO9 := veil O9
          clear hb9 S9 G9 O9
          go_wp2_with (at_builtin; refine wpList_append_two _ rfl _ _ 26 rfl S 93 i0 (.agg #[.int .u64 0, .int .u64 0]) 2 16 Tryz.underlying26 hi hz0 hz1 hz2 rfl (by decide) _ _ _ rfl (HO9.out.alloc _) ⟨w9.heap.size, 0, none⟩ 1 1 (vr [mk (nu k)]) rfl rfl (by exact World.news_of_block (cs := #[.int .u64 ((mk (nu k)).1 : Int), .int .u64 ((mk (nu k)).2 : Int)]) (fr := (0, 0)) (heap_alloc_new w9 _)) (by simp [vr, mk, Value.oneCell']) (by decide) (by unfold maxLen; omega) (by omega) (by simp; omega) ?_; intro g1 c1 w1 hown1 hat1)
          have hne1 : ∀ n1, E k ≠ .slice (some ⟨wo.heap.size, 0, none⟩) n1 c1 := fun n1 hE1 => by
            have := (HSR.out.rows k hlt).lt wo.heap.size (by rw [hE1]; rfl)
            omega
          obtain ⟨st3, gr3, hpl, how3, hsz3, hcell3⟩ := grow_step (H := wo.heap.size + 1) hlt sep (HS9.out.alloc (.cells #[.int .u64 ((mk (nu k)).1 : Int), .int .u64 ((mk (nu k)).2 : Int)] 93)) (HG9.out.grown (World.grownBy_alloc w9 (.cells #[.int .u64 ((mk (nu k)).1 : Int), .int .u64 ((mk (nu k)).2 : Int)] 93) none) (fun j hj e => by
            rcases (HG9.out.rows j hj).2 with ⟨_, h0⟩ | ⟨g2, c2, _, h2, _⟩
            · omega
            · rw [h2] at e; cases e)) HSH.out (by simp; omega) (by have := HSR.out.bB; omega) (by omega) (fun i hi b hb => by have := (HSR.out.rows i hi).lt b hb; omega) (fun j hj b hb => by have := (HGR.out.rows j hj).lt b hb; omega) hown1 hat1
          have hp3 : w1.cell? ⟨wo.heap.size, 2, none⟩ = some (.int .i64 (nu k : Int)) := by
            rw [hcell3 ⟨wo.heap.size, 2, none⟩ (Nat.lt_succ_self _) hne1]
            exact (World.cell?_alloc_old _ _ _ (by show wo.heap.size ≠ _; omega)).trans hp9
          have HKP4 := veil (show KeepP (fun b => OwnB m E b ∨ b = h) wF w1 by
            have ka := keep_grown HKP9.out (World.grownBy_alloc w9 (.cells #[.int .u64 ((mk (nu k)).1 : Int), .int .u64 ((mk (nu k)).2 : Int)] 93) none) (fun b e => by cases e)
            rcases hat1 with ⟨_, hg⟩ | ⟨_, hg⟩
            · refine keep_grown ka hg (fun b e => ?_)
              injection e with e
              subst e
              rcases hpl with ⟨n1, h1⟩ | h1
              · exact .inl (.inl ⟨k, hlt, by rw [h1]; rfl⟩)
              · exact .inr (by have := HKP.out.size; omega)
            · exact keep_grown ka hg (fun b e => by cases e))
          clear hown1 hat1 hne1 hcell3
          have HS3 : Hid (St S B h m cap nu E N L (fun i => List.replicate (N i) (mk (nu i))) w0 w1) := st3
          have HG3 : Hid (Gr S B h m k nu E N L w1) := gr3
          have HO3 : Hid (w1.ownsRow S 93 2 (.slice (some ⟨g1, 0, none⟩) (N k + (q + 1)) c1) (N k + (q + 1)) (vr (List.replicate (N k + (q + 1)) (mk (nu k))))) := how3
          have HPL : Hid ((∃ n1, E k = .slice (some ⟨g1, 0, none⟩) n1 c1) ∨ wo.heap.size + 1 ≤ g1) := hpl
          clear st3 gr3 how3 hpl
          go_wp2_with fail
          go_roundw
          case rel => exact ⟨q + 1, _, c1, by omega, by go_num, rfl, HS3.out, HG3.out, .inr ⟨g1, c1, rfl, HPL.out⟩, HO3.out, hsz3, hp3, HKP4.out⟩
          case measure => simp [intOf]; omega
        · have hqe : q = 40 := by omega
          subst hqe
          have hcb2 := HS2.out.book
          have hg2 : wr.cell? ⟨h, k * 3 + 1, none⟩ = some (.slice none 0 0) := by rw [HS2.out.g k hlt, HNL.out k (Nat.le_refl _) hlt]
          have hfz2 := HS2.out.fz (k * 3 + 1)
          go_wp2_with fail
          go_roundw
          case rel =>
            refine ⟨k + 1, _, by omega, by go_num, HS2.out.lay sep hlt _, ?_, fun j hj hjm => ?_, keep_grown (row := some h) HKP2.out ⟨rfl, rfl, rfl, by simp, fun b _ hb => Below.heap_setCell _ _ _ b (fun e => hb (by rw [e]))⟩ (fun b e => by injection e with e; subst e; exact .inl (.inr rfl)), fun j hj b e => ?_⟩
            · have hgr : wr.grownBy (wr.setCell ⟨h, k * 3 + 1, none⟩ (.slice ao3 (N k + 40) c3)) (some h) := ⟨rfl, rfl, rfl, by simp, fun b _ hb => Below.heap_setCell _ _ _ b (fun e => hb (by rw [e]))⟩
              have hlg : ∀ j, j < k + 1 → j ≠ k → j < k := fun j h1 h2 => by omega
              obtain ⟨gg, cc, hgg⟩ : ∃ gg cc, Value.slice ao3 (N k + 40) c3 = .slice (some ⟨gg, 0, none⟩) (N k + 40) cc := by
                rcases bookOwn_shape HOW.out with ⟨_, h0⟩ | ⟨gg, cc, h1, _⟩
                · omega
                · exact ⟨gg, cc, h1⟩
              have hplace : (∃ n1, E k = .slice (some ⟨gg, 0, none⟩) n1 cc) ∨ wo.heap.size + 1 ≤ gg := by
                rcases HSH.out with ⟨_, h0⟩ | ⟨g1, c1, h1, h2⟩
                · omega
                · rw [hgg] at h1
                  injection h1 with e1 e2 e3
                  injection e1 with e1
                  injection e1 with e1
                  subst e1 e3
                  exact h2
              have hob : ∀ b, b < wo.heap.size + 1 → (∀ n1, E k ≠ .slice (some ⟨b, 0, none⟩) n1 cc) → (Value.slice ao3 (N k + 40) c3).ownBlock ≠ some b := by
                intro b hb hne e
                rw [hgg] at e
                injection e with e
                subst e
                rcases hplace with ⟨n1, h1⟩ | h1
                · exact hne n1 h1
                · have h2 : gg < wo.heap.size + 1 := hb
                  omega
              have hkB := hob B (by have := HSR.out.bB; omega) (fun n1 hE => sep.eB k hlt (by rw [hE]; rfl))
              have hkh := hob h (by omega) (fun n1 hE => sep.eh k hlt (by rw [hE]; rfl))
              refine ⟨fun j hj => ?_, fun j hj => ?_, fun j hj => ?_, fun j i hj hi hij => ?_⟩
              · by_cases hjk : j = k
                · subst hjk; rw [if_pos rfl]; exact HOW.out.kept hgr (.inr hkh)
                · rw [if_neg hjk]; exact (HG2.out.rows j (hlg j hj hjk)).kept hgr (.inr (HG2.out.nh j (hlg j hj hjk)))
              · by_cases hjk : j = k
                · subst hjk; rw [if_pos rfl]; exact hkB
                · rw [if_neg hjk]; exact HG2.out.nB j (hlg j hj hjk)
              · by_cases hjk : j = k
                · subst hjk; rw [if_pos rfl]; exact hkh
                · rw [if_neg hjk]; exact HG2.out.nh j (hlg j hj hjk)
              · by_cases hjk : j = k
                · subst hjk
                  rw [if_pos rfl]
                  intro e
                  cases hEi : (E i).ownBlock with
                  | none => rw [hEi, hgg] at e; cases e
                  | some b =>
                    rw [hEi] at e
                    refine hob b (by have := (HSR.out.rows i hi).lt b hEi; omega) (fun n1 hE => ?_) e
                    rcases sep.ee i j hi hlt hij with h1 | h1
                    · rw [hEi] at h1; cases h1
                    · exact h1 (by rw [hEi, hE]; rfl)
                · rw [if_neg hjk]; exact HG2.out.ne j i (hlg j hj hjk) hi hij
            · rw [if_neg (by omega)]; exact HNL.out j (by omega) hjm
            · by_cases hjk : j = k
              · rw [if_pos hjk] at e
                rcases HSH.out with ⟨_, h0⟩ | ⟨g1, c1, h1, h2⟩
                · omega
                · rw [h1] at e
                  injection e with e
                  subst e
                  rcases h2 with ⟨n1, h2⟩ | h2
                  · exact .inl ⟨k, hlt, by rw [h2]; rfl⟩
                  · exact .inr (by have := HKP.out.size; have h3 : wo.heap.size + 1 ≤ g1 := h2; show wF.heap.size ≤ g1; omega)
              · rw [if_neg hjk] at e
                exact HLB.out j (by omega) b e
          case measure => simp [intOf]; omega
    · have hkm : k = m := by omega
      subst hkm
      have HSR : Hid (St S B h k cap nu E N L (fun i => List.replicate (N i) (mk (nu i))) w0 wr) := st
      have HGR : Hid (Gr S B h k k nu E N L wr) := gr
      clear st gr hnil
      go_wp2_with fail
      go_end0
      exact ⟨rfl, L, HSR.out, HGR.out, HKP.out, HLB.out⟩
end Go.Proofs.YtehadfidenejdaaGreatDoor.Bq
