/-
  Out of PkRefK, PkRefSB, PkRefSG.
-/
import Derived.Test.YtbheoldakmcppaaGreatDoorGs24
import Derived.Test.YtbheoldakmcppaaGreatDoorGs33
import Derived.Test.YtbheoldakmcppaaGreatDoorGs39
import Derived.Test.YtbheoldakmcppaaGreatDoorGs38

/-! What the document's mask does. Written by mkrefk13.py. -/
namespace Go.Proofs.YtbheoldakmcppaaGreatDoor
open Go Go.RowKit

section
variable {P : Program} {o : Oper} {a : Act}
theorem run_addN13 (t t' : TypeId) (x y : Operand) (m r : Nat) (hm : m + r ≤ 140737488355328) (ho : o.op = .binOp .add t x y t') (hx : a.eval x = .int .i64 (m : Int)) (hy : a.eval y = .int .i64 (r : Int)) (W : World) :
    (execOp a.eval o).run P W = .ok (.value (.int .i64 ((m + r : Nat) : Int))) W := by
  have hw : IntKind.i64.wrap ((m : Int) + (r : Int)) = ((m + r : Nat) : Int) := by rw [IntKind.wrap_i64]; omega
  unfold execOp
  simp only [ho, hx, hy]
  go_simp
end
def depRK : Nat → List Nat
  | 1 => [0]
  | 4 => [3]
  | 6 => [5]
  | 7 => [2, 4, 6]
  | 8 => [1, 7]
  | 9 => [8]
  | 10 => [9]
  | 11 => [9]
  | 12 => [10]
  | 13 => [11]
  | _ => []
def Zk (B : List By) (S : Nat) (W : World) (v : Value) : Prop := ∃ z : SL, v = .slice z.a z.len z.cap ∧ z.Ok W ∧ z.b = B ∧ S ≤ z.g
theorem Zk.below {B : List By} {S : Nat} {W W' : World} {v : Value} (h : Zk B S W v) (hb : Below W.heap.size W W') : Zk B S W' v := by
  obtain ⟨z, h1, h2, h3⟩ := h
  exact ⟨z, h1, h2.below hb, h3⟩
def valRK (k : KS) (v : Value) (s G : Nat) (c : SL) (B : List By) (S : Nat) : Nat → World → Value → Prop
  | 0, _, u => u = .pointer (some ⟨G, 2, none⟩)
  | 1, _, u => u = .slice k.mask.a k.mask.len k.mask.cap
  | 2, _, u => u = v
  | 3, _, u => u = .int .i64 (s : Int)
  | 4, _, u => u = .int .i64 ((s + 4 : Nat) : Int)
  | 5, _, u => u = .int .i64 (s : Int)
  | 6, _, u => u = .int .i64 ((s + 20 : Nat) : Int)
  | 7, _, u => u = .slice c.a c.len c.cap
  | 8, W, u => ∃ y, u = .tuple #[y, .int .i64 0] ∧ Zk B S W y
  | 9, W, u => ∃ y, u = .tuple #[y, .int .i64 0] ∧ Zk B S W y
  | 10, W, u => Zk B S W u
  | 11, _, u => u = .int .i64 0
  | 12, W, u => Zk B S W u
  | 13, _, u => u = .int .i64 0
  | _, _, _ => True
theorem valRK_mono {k : KS} {v : Value} {s G : Nat} {c : SL} {B : List By} {S : Nat} : ∀ (j : Nat) (W W' : World) (u : Value), Below W.heap.size W W' → valRK k v s G c B S j W u → valRK k v s G c B S j W' u
  | 0, _, _, _, _, h => h
  | 1, _, _, _, _, h => h
  | 2, _, _, _, _, h => h
  | 3, _, _, _, _, h => h
  | 4, _, _, _, _, h => h
  | 5, _, _, _, _, h => h
  | 6, _, _, _, _, h => h
  | 7, _, _, _, _, h => h
  | 8, _, _, _, hb, ⟨y, h1, h2⟩ => ⟨y, h1, h2.below hb⟩
  | 9, _, _, _, hb, ⟨y, h1, h2⟩ => ⟨y, h1, h2.below hb⟩
  | 10, _, _, _, hb, h => h.below hb
  | 11, _, _, _, _, h => h
  | 12, _, _, _, hb, h => h.below hb
  | 13, _, _, _, _, h => h
  | _ + 14, _, _, _, _, _ => trivial
theorem SL.Ok.other13 {w : World} {z : SL} (h : z.Ok w) {p : Addr} (hne : z.g ≠ p.block) (v : Value) : z.Ok (w.setCell p v) := h.same (fun _ => heap_setCell_other w p z.g v hne) (by simp [World.setCell])
theorem SL.Ok.drew13 {w : World} {z : SL} (h : z.Ok w) : z.Ok w.drew := h.below (Below.refl _ w).drew
/-- Between two rounds. -/
structure RkD (w : World) (base g N cap : Nat) (xs : List By) (z : SL) (w' : World) : Prop where
  own : w'.ownsRow base 5 1 (.slice (some ⟨g, 0, none⟩) N cap) N (vb xs)
  bel : Below base w w'
  zok : z.Ok w'

set_option maxRecDepth 20000 in
set_option maxHeartbeats 2000000 in
theorem refCover_any (base g N cap s n : Nat) (xs : List By) (k : KS) (long : Bool) (w : World) (hown : w.ownsRow base 5 1 (.slice (some ⟨g, 0, none⟩) N cap) N (vb xs)) (hk : k.Ok w) (hml : k.mask.len = 32)
    (hbase : base ≤ w.heap.size) (hsN : s + 20 ≤ N) (hs : 1 ≤ s) (hn : n ≤ 4) (hN : N ≤ 1048576) :
    Calls Tryz.prog 31 #[.slice (some ⟨g, 0, none⟩) N cap, .int .i64 (s : Int), .int .i64 (n : Int), .agg k.cells, .bool long] w fun e w' => e = .returned (.tuple #[]) ∧ w'.ownsRow base 5 1 (.slice (some ⟨g, 0, none⟩) N cap) N (vb (covTo xs s n (covB long) (maskL k.mask.b (sampL xs s)))) ∧ Below base w w' := by
  have hxl : xs.length = N := by
    have := hown.1
    unfold vb at this
    simpa using this
  have hgb : base ≤ g ∧ g < w.heap.size := hown.lt g rfl
  have hcap : N ≤ cap := (own_okB hown).hcap
  have b0 : Below w.heap.size w (w.alloc (.cells k.cells 27)) := (Below.refl _ w).alloc (Nat.le_refl _) _
  have r0 : Row (w.alloc (.cells k.cells 27)) w.heap.size 27 k.cells := Row.new _ _ _
  obtain ⟨c, hcut, ⟨hcl, hcb⟩, hcok, _⟩ := cut_both ⟨some ⟨g, 0, none⟩, N, cap, g, 0, xs⟩ w (own_okB hown) (s + 4) (s + 20) (by omega) (by show s + 20 ≤ N; omega)
  have B0 := veil b0
  have R0 := veil r0
  have O0 := veil (own_below hown b0)
  have HC := veil (hcok _ ((own_okB hown).below b0))
  have HCL := veil (show c.len = 16 by omega)
  have HCB := veil (show c.b = sampL xs s by
    rw [show c.b = (xs.take (s + 20)).drop (s + 4) from hcb]
    unfold sampL
    rw [List.drop_take, show s + 20 - (s + 4) = 16 by omega])
  have HCU := veil hcut
  have HM := veil (hk.mask.below b0)
  have HML := veil hml
  have HXL := veil hxl
  have HGB := veil hgb
  have HBS := veil (Nat.le_trans hbase b0.size)
  have HB2 := veil hbase
  have HCAP := veil hcap
  have HSN := veil hsN
  have HS := veil hs
  have HN := veil hn
  have HNN := veil hN
  obtain ⟨M, hM⟩ : ∃ M, maskL k.mask.b (sampL xs s) = M := ⟨_, rfl⟩
  rw [hM]
  have HMM := veil hM
  have HM5 := veil (show M.length = 5 by rw [← hM]; unfold maskL; rw [List.length_take, blockL_length]; rfl)
  clear hown hk hml hbase hsN hs hn hN hxl hgb hcap b0 r0 hcut hcl hcb hcok hM
  go_enter Tryz.func31, Tryz.ntmps31
  go_wp2_with fail
  generalize w.alloc (.cells k.cells 27) = w0 at *
  refine (wpIn_wide (n := 4)).1 ?_
  refine wpIn_region_any (by kernel_rfl) ?_
  refine anyIn_genS (w0 := w0) (valRK k (.slice (some ⟨g, 0, none⟩) N cap) s w.heap.size c M w0.heap.size) valRK_mono [14, 15, 16, 17, 18, 19, 20, 21, 22, 13, 23, 24, 10, 11] depRK (by kernel_rfl) rfl (by decide) ((Below.refl _ _).drew) ?step ?done
  case step =>
    intro x W i e hW hdi hdep
    match i, hdi, hdep with
    | 0, hdi, _ =>
      obtain rfl := Option.some.inj hdi
      exact OI_value rfl rfl (about_none (by intro c h; cases h)) (by intro c h; cases h) (.pointer (some ⟨w.heap.size, 2, none⟩)) W (by kernel_rfl) ⟨_, rfl, Below.refl _ _, rfl⟩
    | 1, hdi, hdep =>
      obtain rfl := Option.some.inj hdi
      rw [updV_self (show x 0 = _ from hdep 0 (by simp [depRK]))]
      exact OI_value rfl rfl (about_none (by intro c h; cases h)) (by intro c h; cases h) (.slice k.mask.a k.mask.len k.mask.cap) W (run_cell 22 _ ⟨w.heap.size, 2, none⟩ _ _ rfl (by kernel_rfl) Tryz.underlying22 rfl W (KS.c2 (R0.out.below hW R0.out.lt))) ⟨_, rfl, Below.refl _ _, rfl⟩
    | 2, hdi, _ =>
      obtain rfl := Option.some.inj hdi
      exact OI_value rfl rfl (about_none (by intro c h; cases h)) (by intro c h; cases h) (.slice (some ⟨g, 0, none⟩) N cap) W (by kernel_rfl) ⟨_, rfl, Below.refl _ _, rfl⟩
    | 3, hdi, _ =>
      obtain rfl := Option.some.inj hdi
      exact OI_value rfl rfl (about_none (by intro c h; cases h)) (by intro c h; cases h) (.int .i64 (s : Int)) W (by kernel_rfl) ⟨_, rfl, Below.refl _ _, rfl⟩
    | 4, hdi, hdep =>
      obtain rfl := Option.some.inj hdi
      rw [updV_self (show x 3 = _ from hdep 3 (by simp [depRK]))]
      exact OI_value rfl rfl (about_none (by intro c h; cases h)) (by intro c h; cases h) (.int .i64 ((s + 4 : Nat) : Int)) W (run_addN13 _ _ _ _ s 4 (by have := HSN.out; have := HNN.out; omega) rfl (by kernel_rfl) (by kernel_rfl) W) ⟨_, rfl, Below.refl _ _, rfl⟩
    | 5, hdi, _ =>
      obtain rfl := Option.some.inj hdi
      exact OI_value rfl rfl (about_none (by intro c h; cases h)) (by intro c h; cases h) (.int .i64 (s : Int)) W (by kernel_rfl) ⟨_, rfl, Below.refl _ _, rfl⟩
    | 6, hdi, hdep =>
      obtain rfl := Option.some.inj hdi
      rw [updV_self (show x 5 = _ from hdep 5 (by simp [depRK]))]
      exact OI_value rfl rfl (about_none (by intro c h; cases h)) (by intro c h; cases h) (.int .i64 ((s + 20 : Nat) : Int)) W (run_addN13 _ _ _ _ s 20 (by have := HSN.out; have := HNN.out; omega) rfl (by kernel_rfl) (by kernel_rfl) W) ⟨_, rfl, Below.refl _ _, rfl⟩
    | 7, hdi, hdep =>
      obtain rfl := Option.some.inj hdi
      rw [updV_self (show x 2 = _ from hdep 2 (by simp [depRK])), updV_self (show (updV x 2 _) 4 = _ from hdep 4 (by simp [depRK])), updV_self (show (updV (updV x 2 _) 4 _) 6 = _ from hdep 6 (by simp [depRK]))]
      exact OI_value rfl rfl (about_none (by intro c h; cases h)) (by intro c h; cases h) (.slice c.a c.len c.cap) W (run_sliceOp _ _ _ _ _ rfl _ _ _ _ (by kernel_rfl) (by kernel_rfl) (by kernel_rfl) (by kernel_rfl) _ W (HCU.out W)) ⟨_, rfl, Below.refl _ _, rfl⟩
    | 8, hdi, hdep =>
      obtain rfl := Option.some.inj hdi
      rw [updV_self (show x 1 = _ from hdep 1 (by simp [depRK])), updV_self (show updV x 1 _ 7 = _ from hdep 7 (by simp [depRK]))]
      refine OI_call rfl rfl (by intro c h; cases h) 84 #[.slice k.mask.a k.mask.len k.mask.cap, .slice c.a c.len c.cap] (fun _ _ => trivial) (by kernel_rfl) (by decide) ?_
      refine (callsIn_wide.2 (refMask_new k.mask c W (HM.out.below hW) (HC.out.below hW) HML.out HCL.out)).mono ?_
      rintro e w' ⟨z, rfl, hz, hzb, hzg, hb'⟩
      rw [HCB.out, HMM.out] at hzb
      exact ⟨_, rfl, _, rfl, hb', ⟨_, rfl, ⟨z, rfl, hz, hzb, Nat.le_trans hW.size hzg⟩⟩⟩
    | 9, hdi, hdep =>
      obtain rfl := Option.some.inj hdi
      obtain ⟨y, e4, h1⟩ := hdep 8 (by simp [depRK])
      rw [updV_self (show x 8 = _ from e4)]
      exact OI_value rfl rfl (about_none (by intro c h; cases h)) (by intro c h; cases h) (.tuple #[y, .int .i64 0]) W (by kernel_rfl) ⟨_, rfl, Below.refl _ _, ⟨y, rfl, h1⟩⟩
    | 10, hdi, hdep =>
      obtain rfl := Option.some.inj hdi
      obtain ⟨y, e4, h1⟩ := hdep 9 (by simp [depRK])
      rw [updV_self (show x 9 = _ from e4)]
      exact OI_value rfl rfl (about_none (by intro c h; cases h)) (by intro c h; cases h) y W (by kernel_rfl) ⟨_, rfl, Below.refl _ _, h1⟩
    | 11, hdi, hdep =>
      obtain rfl := Option.some.inj hdi
      obtain ⟨y, e4, h1⟩ := hdep 9 (by simp [depRK])
      rw [updV_self (show x 9 = _ from e4)]
      exact OI_value rfl rfl (about_none (by intro c h; cases h)) (by intro c h; cases h) (.int .i64 0) W (by kernel_rfl) ⟨_, rfl, Below.refl _ _, rfl⟩
    | 12, hdi, hdep =>
      obtain rfl := Option.some.inj hdi
      obtain ⟨z, e4, h1⟩ := hdep 10 (by simp [depRK])
      rw [updV_self (show x 10 = _ from e4)]
      exact OI_value rfl rfl (about_none (by intro c h; cases h)) (by intro c h; cases h) (.slice z.a z.len z.cap) W (by kernel_rfl) ⟨_, rfl, Below.refl _ _, ⟨z, rfl, h1⟩⟩
    | 13, hdi, hdep =>
      obtain rfl := Option.some.inj hdi
      rw [updV_self (show x 11 = _ from hdep 11 (by simp [depRK]))]
      exact OI_value rfl rfl (about_none (by intro c h; cases h)) (by intro c h; cases h) (.int .i64 0) W (by kernel_rfl) ⟨_, rfl, Below.refl _ _, rfl⟩
    | _ + 14, hdi, _ => simp at hdi
  case done =>
    intro x W hW hx
    obtain ⟨z, e12, hz, hzb, hzg⟩ : Zk M w0.heap.size W (x 12) := hx 12 (by decide)
    have e13 : x 13 = .int .i64 0 := hx 13 (by decide)
    have hzl : z.len = 5 := by rw [← hz.hb, hzb]; exact HM5.out
    have hza := hz.at_ (by omega)
    simp only [putsV, Act.put, List.setIfInBounds_toArray, List.set_cons_succ, List.set_cons_zero, Nat.reduceAdd, e12, e13]
    generalize x 0 = z0, x 1 = z1, x 2 = z2, x 3 = z3, x 4 = z4, x 5 = z5, x 6 = z6, x 7 = z7, x 8 = z8, x 9 = z9, x 10 = z10, x 11 = z11
    rw [hza, hzl]
    have D0 := veil (show RkD w base g N cap xs z W from ⟨own_below O0.out hW, (B0.out.mono HB2.out).trans (hW.mono HBS.out), hz⟩)
    have HZB := veil hzb
    have HZL := veil hzl
    have HZG := veil (show z.g ≠ g by have := HGB.out.2; have := B0.out.size; omega)
    obtain ⟨x0, hx0⟩ : ∃ x, gb xs 0 = x := ⟨_, rfl⟩
    obtain ⟨m0, hm00⟩ : ∃ x, gb M 0 = x := ⟨_, rfl⟩
    have HX0 := veil hx0
    have HM0 := veil hm00
    have hN0 : 0 < N := by have := HSN.out; omega
    clear hx e12 e13 hz hzb hzg hzl hza hW hx0 hm00
    cases long
    · have hc0 : W.cell? ⟨g, 0, none⟩ = some (.int .u8 (v8 x0)) := by rw [← HX0.out]; exact own_cellB D0.out.own (j := 0) (by rw [HXL.out]; have := HSN.out; omega)
      have hf0 : W.frozen? ⟨g, 0, none⟩ = false := own_frozenB D0.out.own
      have hm0 : W.cell? ⟨z.g, z.off, none⟩ = some (.int .u8 (v8 m0)) := by
        have := D0.out.zok.cell 0 (by rw [HZL.out]; decide)
        rw [HZB.out, HM0.out] at this
        exact this
      have hand : bits .and .u8 (v8 m0) 31 = v8 (m0 &&& covB false) := by
        rw [← b8a]
        rfl
      have hxr := b8x x0 (m0 &&& covB false)
      go_wp2_with fail
      go_region
      have D1 : Hid (RkD w base g N cap (covTo xs s 0 (covB false) M) z (W.setCell ⟨g, 0, none⟩ (.int .u8 (v8 (x0 ^^^ (m0 &&& covB false))))).drew) := by
        refine ⟨?_, ?_, ?_⟩
        · have := own_setB (j := 0) D0.out.own (x0 ^^^ (m0 &&& covB false))
          rw [← covTo_zero, HX0.out, HM0.out]
          exact this.drew
        · exact (D0.out.bel.setCell (p := ⟨g, 0, none⟩) HGB.out.1 _).drew
        · exact (D0.out.zok.other13 HZG.out _).drew13
      clear hc0 hf0 hm0 hand hxr D0
      generalize (W.setCell ⟨g, 0, none⟩ (.int .u8 (v8 (x0 ^^^ (m0 &&& covB false))))).drew = W1 at *
      go_wp2_with fail
      go_loopw [12] (fun i wr => ∃ t : Nat, t ≤ n ∧ i = .int .i64 (t : Int) ∧ RkD w base g N cap (covTo xs s t (covB false) M) z wr) (fun i _ => n - (intOf i).toNat)
      case atStart => exact ⟨0, Nat.zero_le _, rfl, D1.out⟩
      case round =>
        obtain ⟨t, ht, rfl, hct⟩ := hrel
        have HT := veil hct
        have hn4 := HN.out
        by_cases hlt : t < n
        · have hc := own_cellB hct.own (j := s + t) (by rw [covTo_length, HXL.out]; have := HSN.out; omega)
          have hf := own_frozenB (j := s + t) hct.own
          have hcm := hct.zok.cell (1 + t) (by rw [HZL.out]; omega)
          rw [HZB.out] at hcm
          have hx := b8x (gb (covTo xs s t (covB false) M) (s + t)) (gb M (1 + t))
          have hset := covTo_succ xs s t (covB false) M HS.out (by rw [HXL.out]; have := HSN.out; omega)
          have HSET := veil hset
          clear hct hset
          obtain ⟨y, hy⟩ : ∃ y, gb (covTo xs s t (covB false) M) (s + t) = y := ⟨_, rfl⟩
          obtain ⟨zz, hz⟩ : ∃ z, gb M (1 + t) = z := ⟨_, rfl⟩
          rw [hy] at hc hx HSET
          rw [hz] at hcm hx HSET
          clear hy hz
          obtain ⟨J, hJ⟩ : ∃ J, s + t = J := ⟨_, rfl⟩
          obtain ⟨L, hL⟩ : ∃ L, 1 + t = L := ⟨_, rfl⟩
          have hJi : (s : Int) + (t : Int) = (J : Int) := by omega
          have hLi : (1 : Int) + (t : Int) = (L : Int) := by omega
          have hJm : J < N := by have := HSN.out; omega
          have hL5 : L < 5 := by omega
          have hJw : wrap64 (J : Int) = (J : Int) := by have := HNN.out; unfold wrap64; omega
          rw [hJ] at hc hf HSET
          rw [hL] at hcm
          clear hJ hL
          go_wp2_with fail
          go_region
          have hr2 : RkD w base g N cap (covTo xs s (t + 1) (covB false) M) z (wr.setCell ⟨g, J, none⟩ (.int .u8 (v8 (y ^^^ zz)))).drew := by
            refine ⟨?_, ?_, ?_⟩
            · have := own_setB (j := J) HT.out.own (y ^^^ zz)
              rw [HSET.out] at this
              exact this.drew
            · exact (HT.out.bel.setCell (p := ⟨g, J, none⟩) HGB.out.1 _).drew
            · exact (HT.out.zok.other13 HZG.out _).drew13
          have HR2 := veil hr2
          clear hr2 hc hf hcm hx
          go_wp2_with fail
          go_roundw
          case rel => exact ⟨t + 1, by omega, by go_num, HR2.out⟩
          case measure => simp [intOf]; omega
        · obtain rfl : t = n := by omega
          clear hlt ht hct
          go_wp2_with fail
          go_end0
          exact ⟨rfl, HT.out.own, HT.out.bel⟩
    · have hc0 : W.cell? ⟨g, 0, none⟩ = some (.int .u8 (v8 x0)) := by rw [← HX0.out]; exact own_cellB D0.out.own (j := 0) (by rw [HXL.out]; have := HSN.out; omega)
      have hf0 : W.frozen? ⟨g, 0, none⟩ = false := own_frozenB D0.out.own
      have hm0 : W.cell? ⟨z.g, z.off, none⟩ = some (.int .u8 (v8 m0)) := by
        have := D0.out.zok.cell 0 (by rw [HZL.out]; decide)
        rw [HZB.out, HM0.out] at this
        exact this
      have hand : bits .and .u8 (v8 m0) 15 = v8 (m0 &&& covB true) := by
        rw [← b8a]
        rfl
      have hxr := b8x x0 (m0 &&& covB true)
      go_wp2_with fail
      go_region
      have D1 : Hid (RkD w base g N cap (covTo xs s 0 (covB true) M) z (W.setCell ⟨g, 0, none⟩ (.int .u8 (v8 (x0 ^^^ (m0 &&& covB true))))).drew) := by
        refine ⟨?_, ?_, ?_⟩
        · have := own_setB (j := 0) D0.out.own (x0 ^^^ (m0 &&& covB true))
          rw [← covTo_zero, HX0.out, HM0.out]
          exact this.drew
        · exact (D0.out.bel.setCell (p := ⟨g, 0, none⟩) HGB.out.1 _).drew
        · exact (D0.out.zok.other13 HZG.out _).drew13
      clear hc0 hf0 hm0 hand hxr D0
      generalize (W.setCell ⟨g, 0, none⟩ (.int .u8 (v8 (x0 ^^^ (m0 &&& covB true))))).drew = W1 at *
      go_wp2_with fail
      go_loopw [12] (fun i wr => ∃ t : Nat, t ≤ n ∧ i = .int .i64 (t : Int) ∧ RkD w base g N cap (covTo xs s t (covB true) M) z wr) (fun i _ => n - (intOf i).toNat)
      case atStart => exact ⟨0, Nat.zero_le _, rfl, D1.out⟩
      case round =>
        obtain ⟨t, ht, rfl, hct⟩ := hrel
        have HT := veil hct
        have hn4 := HN.out
        by_cases hlt : t < n
        · have hc := own_cellB hct.own (j := s + t) (by rw [covTo_length, HXL.out]; have := HSN.out; omega)
          have hf := own_frozenB (j := s + t) hct.own
          have hcm := hct.zok.cell (1 + t) (by rw [HZL.out]; omega)
          rw [HZB.out] at hcm
          have hx := b8x (gb (covTo xs s t (covB true) M) (s + t)) (gb M (1 + t))
          have hset := covTo_succ xs s t (covB true) M HS.out (by rw [HXL.out]; have := HSN.out; omega)
          have HSET := veil hset
          clear hct hset
          obtain ⟨y, hy⟩ : ∃ y, gb (covTo xs s t (covB true) M) (s + t) = y := ⟨_, rfl⟩
          obtain ⟨zz, hz⟩ : ∃ z, gb M (1 + t) = z := ⟨_, rfl⟩
          rw [hy] at hc hx HSET
          rw [hz] at hcm hx HSET
          clear hy hz
          obtain ⟨J, hJ⟩ : ∃ J, s + t = J := ⟨_, rfl⟩
          obtain ⟨L, hL⟩ : ∃ L, 1 + t = L := ⟨_, rfl⟩
          have hJi : (s : Int) + (t : Int) = (J : Int) := by omega
          have hLi : (1 : Int) + (t : Int) = (L : Int) := by omega
          have hJm : J < N := by have := HSN.out; omega
          have hL5 : L < 5 := by omega
          have hJw : wrap64 (J : Int) = (J : Int) := by have := HNN.out; unfold wrap64; omega
          rw [hJ] at hc hf HSET
          rw [hL] at hcm
          clear hJ hL
          go_wp2_with fail
          go_region
          have hr2 : RkD w base g N cap (covTo xs s (t + 1) (covB true) M) z (wr.setCell ⟨g, J, none⟩ (.int .u8 (v8 (y ^^^ zz)))).drew := by
            refine ⟨?_, ?_, ?_⟩
            · have := own_setB (j := J) HT.out.own (y ^^^ zz)
              rw [HSET.out] at this
              exact this.drew
            · exact (HT.out.bel.setCell (p := ⟨g, J, none⟩) HGB.out.1 _).drew
            · exact (HT.out.zok.other13 HZG.out _).drew13
          have HR2 := veil hr2
          clear hr2 hc hf hcm hx
          go_wp2_with fail
          go_roundw
          case rel => exact ⟨t + 1, by omega, by go_num, HR2.out⟩
          case measure => simp [intOf]; omega
        · obtain rfl : t = n := by omega
          clear hlt ht hct
          go_wp2_with fail
          go_end0
          exact ⟨rfl, HT.out.own, HT.out.bel⟩
end Go.Proofs.YtbheoldakmcppaaGreatDoor

/-! What the document's Seal refuses with ErrArg. Written by mkrefsb.py. -/
namespace Go.Proofs.YtbheoldakmcppaaGreatDoor
open Go Go.RowKit

set_option maxRecDepth 20000 in
set_option maxHeartbeats 2000000 in
theorem rseal_bad (h : HD) (n : Int) (p : SL) (k : KS) (w : World) (hg : Glob w) (hh : h.Ok w) (hp : p.Ok w) (hk : k.Ok w) (hn1 : -9223372036854775808 ≤ n) (hn2 : n ≤ 9223372036854775807) (hbad : goodP h.ph n p.b k.key.b k.iv.b k.mask.b = false) :
    Calls Tryz.prog 8 #[.agg h.cells, .int .i64 n, .slice p.a p.len p.cap, .agg k.cells] w fun e w' => e = .returned (.tuple #[.slice none 0 0, .int .i64 1]) ∧ Below w.heap.size w w' := by
  have S0 := veil (SealW.start h k w hh hk hg)
  have HPB := veil hp.hb
  unfold goodP at hbad
  rw [hp.hb] at hbad
  have MC := veil (fun W hW => refMay_any h W hW)
  have KC := veil (fun W hW => refKeys_any k W hW)
  have HW : Hid ((w.alloc (.cells h.cells 25)).alloc (.cells k.cells 27) = sw h k w) := rfl
  obtain ⟨M, hM⟩ : ∃ M, mayP h.ph = M := ⟨_, rfl⟩
  obtain ⟨K, hK⟩ : ∃ K, keysP k.key.b k.iv.b k.mask.b = K := ⟨_, rfl⟩
  rw [hM] at MC hbad
  rw [hK] at KC hbad
  clear hM hK hg hh hp hk
  cases M
  · clear hbad
    go_enter Tryz.func8, Tryz.ntmps8
    go_wp2_with (first
      | (with_reducible (show wpList _ _ _ (⟨some 17, Op.load 25 _, _, _, _, _⟩ :: _) _ _)
         rw [HW.out]
         refine wpList_load_row rfl 25 _ rfl w.heap.size rfl 25 h.cells (0, 0) _ S0.out.rh Tryz.underlying25 rfl (by rfl) ?_))
    refine (MC.out _ S0.out.hh).mono ?_
    rintro e1 w1 ⟨rfl, hb1⟩
    have S1 := veil (S0.out.below hb1)
    clear hb1
    go_wp2_with fail
    go_ret2
    exact ⟨rfl, S1.out.bel⟩
  · by_cases hn : 1 ≤ n ∧ n ≤ 4
    · obtain ⟨hna, hnb⟩ := hn
      rw [decide_eq_true hna, decide_eq_true hnb] at hbad
      by_cases hs : (1 : Nat) ≤ p.len ∧ 4 - n ≤ (p.len : Int)
      · rw [decide_eq_true hs.1, decide_eq_true hs.2] at hbad
        obtain rfl : K = false := by cases K <;> simp_all
        obtain ⟨hs1, hs2⟩ := hs
        have hz0 : ((p.len : Int) == 0) = false := by simp; omega
        clear hbad
        go_enter Tryz.func8, Tryz.ntmps8
        go_wp2_with (first
          | (with_reducible (show wpList _ _ _ (⟨some 17, Op.load 25 _, _, _, _, _⟩ :: _) _ _)
             rw [HW.out]
             refine wpList_load_row rfl 25 _ rfl w.heap.size rfl 25 h.cells (0, 0) _ S0.out.rh Tryz.underlying25 rfl (by rfl) ?_))
        refine (MC.out _ S0.out.hh).mono ?_
        rintro e1 w1 ⟨rfl, hb1⟩
        have S1 := veil (S0.out.below hb1)
        clear hb1
        have k0 := KS.c0 S1.out.rk
        have k1 := KS.c1 S1.out.rk
        have k2 := KS.c2 S1.out.rk
        go_wp2_with fail
        all_goals
          clear k0 k1 k2
          refine (KC.out _ S1.out.hk).mono ?_
          rintro e3 w3 ⟨rfl, hb3⟩
          have S3 := veil (S1.out.below hb3)
          clear hb3
          go_wp2_with fail
          go_ret2
          exact ⟨rfl, S3.out.bel⟩
      · clear hbad
        by_cases hz : p.len = 0
        · have hz0 : ((p.len : Int) == 0) = true := by simp; omega
          clear hs
          go_enter Tryz.func8, Tryz.ntmps8
          go_wp2_with (first
            | (with_reducible (show wpList _ _ _ (⟨some 17, Op.load 25 _, _, _, _, _⟩ :: _) _ _)
               rw [HW.out]
               refine wpList_load_row rfl 25 _ rfl w.heap.size rfl 25 h.cells (0, 0) _ S0.out.rh Tryz.underlying25 rfl (by rfl) ?_))
          refine (MC.out _ S0.out.hh).mono ?_
          rintro e1 w1 ⟨rfl, hb1⟩
          have S1 := veil (S0.out.below hb1)
          clear hb1
          go_wp2_with fail
          all_goals
            go_ret2
            exact ⟨rfl, S1.out.bel⟩
        · have hz0 : ((p.len : Int) == 0) = false := by simp; omega
          have hs' : (p.len : Int) < 4 - n := by omega
          clear hs
          go_enter Tryz.func8, Tryz.ntmps8
          go_wp2_with (first
            | (with_reducible (show wpList _ _ _ (⟨some 17, Op.load 25 _, _, _, _, _⟩ :: _) _ _)
               rw [HW.out]
               refine wpList_load_row rfl 25 _ rfl w.heap.size rfl 25 h.cells (0, 0) _ S0.out.rh Tryz.underlying25 rfl (by rfl) ?_))
          refine (MC.out _ S0.out.hh).mono ?_
          rintro e1 w1 ⟨rfl, hb1⟩
          have S1 := veil (S0.out.below hb1)
          clear hb1
          go_wp2_with fail
          all_goals
            go_ret2
            exact ⟨rfl, S1.out.bel⟩
    · clear hbad
      by_cases hn0 : n < 1
      · clear hn
        go_enter Tryz.func8, Tryz.ntmps8
        go_wp2_with (first
          | (with_reducible (show wpList _ _ _ (⟨some 17, Op.load 25 _, _, _, _, _⟩ :: _) _ _)
             rw [HW.out]
             refine wpList_load_row rfl 25 _ rfl w.heap.size rfl 25 h.cells (0, 0) _ S0.out.rh Tryz.underlying25 rfl (by rfl) ?_))
        refine (MC.out _ S0.out.hh).mono ?_
        rintro e1 w1 ⟨rfl, hb1⟩
        have S1 := veil (S0.out.below hb1)
        clear hb1
        go_wp2_with fail
        all_goals
          go_ret2
          exact ⟨rfl, S1.out.bel⟩
      · have hn5 : 4 < n := by omega
        clear hn
        go_enter Tryz.func8, Tryz.ntmps8
        go_wp2_with (first
          | (with_reducible (show wpList _ _ _ (⟨some 17, Op.load 25 _, _, _, _, _⟩ :: _) _ _)
             rw [HW.out]
             refine wpList_load_row rfl 25 _ rfl w.heap.size rfl 25 h.cells (0, 0) _ S0.out.rh Tryz.underlying25 rfl (by rfl) ?_))
        refine (MC.out _ S0.out.hh).mono ?_
        rintro e1 w1 ⟨rfl, hb1⟩
        have S1 := veil (S0.out.below hb1)
        clear hb1
        go_wp2_with fail
        all_goals
          go_ret2
          exact ⟨rfl, S1.out.bel⟩
end Go.Proofs.YtbheoldakmcppaaGreatDoor

/-! What the document's Seal answers. Written by mkrefsg.py. -/
namespace Go.Proofs.YtbheoldakmcppaaGreatDoor
open Go Go.RowKit

set_option maxRecDepth 20000 in
set_option maxHeartbeats 4000000 in
theorem rseal_good (h : HD) (n : Nat) (p : SL) (k : KS) (w : World) (hg : Glob w) (hh : h.Ok w) (hp : p.Ok w) (hk : k.Ok w) (hpl : p.len ≤ 140737488351232) (hgood : goodP h.ph n p.b k.key.b k.iv.b k.mask.b = true) :
    Calls Tryz.prog 8 #[.agg h.cells, .int .i64 (n : Int), .slice p.a p.len p.cap, .agg k.cells] w fun e w' => ∃ v, e = .returned (.tuple #[v, .int .i64 (packE h.ph n p.b k.key.b k.iv.b k.mask.b)]) ∧ w'.ownsRow w.heap.size 5 1 v (packO h.ph n p.b k.key.b k.iv.b k.mask.b).length (vb (packO h.ph n p.b k.key.b k.iv.b k.mask.b)) ∧ Below w.heap.size w w' := by
  obtain ⟨i0, hi, hz0, hz1, hz2⟩ := info_parts (P := Tryz.prog) (e := 5) (z := .int .u8 0) (size := 1) (bytes := 1) (by kernel_rfl)
  have S0 := veil (SealW.start h k w hh hk hg)
  have HPB := veil hp.hb
  have HW : Hid ((w.alloc (.cells h.cells 25)).alloc (.cells k.cells 27) = sw h k w) := rfl
  have hg2 := hgood
  unfold goodP at hg2
  simp only [Bool.and_eq_true, decide_eq_true_eq] at hg2
  obtain ⟨⟨⟨hM, hna, hnb⟩, hp1, hp4⟩, hK⟩ := hg2
  rw [hp.hb] at hp1 hp4
  have hM2 := hM
  unfold mayP HD.ph at hM2
  simp only [Bool.and_eq_true, decide_eq_true_eq] at hM2
  obtain ⟨⟨⟨ht, hf⟩, hx⟩, hlp⟩ := hM2
  have hlong : h.long = true → h.phase = false := by
    intro hl
    rw [hl, if_pos rfl] at hlp
    simpa using hlp
  rw [hh.tu.hb] at ht
  rw [hh.fr.hb] at hf
  have hK2 := hK
  unfold keysP at hK2
  simp only [Bool.and_eq_true, decide_eq_true_eq] at hK2
  obtain ⟨⟨hk1, hk2⟩, hk3⟩ := hK2
  rw [hk.key.hb] at hk1
  rw [hk.iv.hb] at hk2
  rw [hk.mask.hb] at hk3
  have hn1 : 1 ≤ n := by omega
  have hn4 : n ≤ 4 := by omega
  have mc := fun W hW => refMay_any h W hW
  have kc := fun W hW => refKeys_any k W hW
  rw [hM] at mc
  rw [hK] at kc
  have MC := veil mc
  have KC := veil kc
  have HE := veil (show packE h.ph n p.b k.key.b k.iv.b k.mask.b = if (headL h.ph n (n + p.b.length + 16)).length + (p.b.length + 16) ≤ 1200 then 0 else 3 by unfold packE; rw [hgood, if_pos rfl, Int.toNat_natCast])
  obtain ⟨R, hR⟩ : ∃ R, n + p.b.length + 16 = R := ⟨_, rfl⟩
  have hRi : (n : Int) + (p.len : Int) + 16 = (R : Int) := by have := hp.hb; omega
  have LC := veil (fun W hW (hRR : R / 256 < 64) => refHead_any h n R W hW hn1 hn4 ht hf hRR hlong)
  obtain ⟨s, hs⟩ : ∃ s, (preL h.ph n R).length = s := ⟨_, rfl⟩
  have hpre := preL_length h.ph n R
  have hph : h.ph.tu.length = h.tu.len ∧ h.ph.fr.length = h.fr.len := ⟨hh.tu.hb, hh.fr.hb⟩
  have hs1 : 1 ≤ s := by rw [← hs, hpre]; split <;> omega
  have hs60 : s ≤ 60 := by
    rw [← hs, hpre, hph.1, hph.2]
    split <;> omega
  have HLN := veil (show (headL h.ph n R).length = s + n by rw [headL_length, hs])
  have HP0 := veil hp
  have HXN := veil hx
  have HK1 := veil hk1
  have HK2 := veil hk2
  have HK3 := veil hk3
  have HN1 := veil hn1
  have HN4 := veil hn4
  have HS1 := veil hs1
  have HS := veil hs
  have HR := veil hR
  have HPL := veil hpl
  have HRI := veil hRi
  rw [hR, HLN.out, hp.hb] at HE
  have hz0 : ((p.len : Int) == 0) = false := by simp; omega
  have hd1 : ¬ ((p.len : Int) < 4 - (n : Int)) := by omega
  have hnd1 : ¬ ((n : Int) < 1) := by omega
  have hnd2 : ¬ (4 < (n : Int)) := by omega
  have HP4 := veil hp4
  have HP1 := veil hp1
  clear hg hh hp hk hgood hM hK ht hf hx hk1 hk2 hk3 mc kc hpre hph hs1 hs hR hpl hlp hlong hp4 hp1
  go_enter Tryz.func8, Tryz.ntmps8
  go_wp2_with (first
    | (with_reducible (show wpList _ _ _ (⟨some 17, Op.load 25 _, _, _, _, _⟩ :: _) _ _)
       rw [HW.out]
       refine wpList_load_row rfl 25 _ rfl w.heap.size rfl 25 h.cells (0, 0) _ S0.out.rh Tryz.underlying25 rfl (by rfl) ?_))
  refine (MC.out _ S0.out.hh).mono ?_
  rintro e1 w1 ⟨rfl, hb1⟩
  have S1 := veil (S0.out.below hb1)
  clear hb1 MC S0 HW
  have k0 := KS.c0 S1.out.rk
  have k1 := KS.c1 S1.out.rk
  have k2 := KS.c2 S1.out.rk
  go_wp2_with fail
  clear k0 k1 k2 hd1 hnd1 hnd2 hz0
  refine (KC.out _ S1.out.hk).mono ?_
  rintro e3 w3 ⟨rfl, hb3⟩
  have S3 := veil (S1.out.below hb3)
  have hpl2 := HPL.out
  clear hb3 KC S1
  by_cases hbig : 1200 < p.len
  · have hbi : (1200 : Int) < (p.len : Int) := by omega
    go_wp2_with fail
    go_ret2
    have hE := HE.out
    rw [if_neg (by omega)] at hE
    have hO : packO h.ph n p.b k.key.b k.iv.b k.mask.b = [] := by unfold packO; rw [hE]; rfl
    rw [hE, hO]
    exact ⟨_, rfl, World.ownsRow_nil _ _ _ _, S3.out.bel⟩
  · have hbi : (p.len : Int) ≤ 1200 := by omega
    have LC2 := veil (fun W hW => LC.out W hW (by have := HRI.out; omega))
    clear LC
    go_wp2_with (first
      | (with_reducible (show wpList _ _ _ (⟨some 48, Op.load 25 _, _, _, _, _⟩ :: _) _ _)
         refine wpList_load_row rfl 25 _ rfl w.heap.size rfl 25 h.cells (0, 0) _ S3.out.rh Tryz.underlying25 rfl (by rfl) ?_))
    refine (LC2.out _ S3.out.hh).mono ?_
    rintro e4 w4 ⟨v4, rfl, own4, hb4⟩
    rw [HS.out] at own4
    obtain ⟨g4, c4, rfl, hc4⟩ := own_someB own4 (by have := HS1.out; omega)
    have D4 := veil hb4
    have O4 := veil own4
    clear own4 hb4 LC2 hc4
    by_cases hlim : s + n + (p.len + 16) ≤ 1200
    · have hlt : (s : Int) + (n : Int) + (p.len : Int) + 16 ≤ 1200 := by omega
      go_wp2_with fail
      go_loopw [10, 12] (fun b i wr => ∃ j : Nat, j ≤ n ∧ i = .int .i64 ((n : Int) - 1 - (j : Int)) ∧ wr.ownsRow w3.heap.size 5 1 b (s + j) (vb (preL h.ph n R ++ (lowL h.num n).take j)) ∧ Below w3.heap.size w3 wr) (fun _ i _ => (intOf i + 1).toNat)
      case atStart => exact ⟨0, Nat.zero_le _, by simp, by rw [List.take_zero, List.append_nil]; exact O4.out, D4.out⟩
      case round =>
        obtain ⟨j, hj, rfl, ho, hbel⟩ := hrel
        have OJ := veil ho
        have DJ := veil hbel
        have SJ := veil (S3.out.below hbel)
        have ZJ := veil hbel.size
        clear ho hbel
        have hn4 := HN4.out
        by_cases hlt2 : j < n
        · obtain ⟨I, hI⟩ : ∃ I, n - 1 - j = I := ⟨_, rfl⟩
          have hIi : (n : Int) - 1 - (j : Int) = (I : Int) := by omega
          rw [hIi]
          obtain ⟨T8, hT8⟩ : ∃ T8 : Nat, 8 * I = T8 := ⟨_, rfl⟩
          have hmul : (8 : Int) * (I : Int) = (T8 : Int) := by omega
          have hT64 : T8 < 64 := by omega
          have hshr := nb8_shr h.num I
          rw [hT8] at hshr
          have h3 := HD.c3 SJ.out.rh
          have hI3 : I ≤ 3 := by omega
          have HI := veil hI
          clear hT8 hI
          go_wp2_with (first
            | (with_reducible (show wpList _ _ _ (⟨some 80, Op.call _, _, _, _, _⟩ :: _) _ _)
               have D5 := veil (DJ.out.alloc ZJ.out (.cells #[.int .u8 (v8 (nb8 h.num I))] 5))
               have O5 := veil (OJ.out.alloc (.cells #[.int .u8 (v8 (nb8 h.num I))] 5))
               have Z5 := veil D5.out.size
               refine append_sl rfl _ _ 22 rfl w3.heap.size i0 Tryz.underlying22 hi hz0 hz1 hz2 _ (s + j) _ rfl O5.out (rowN wr.heap.size 1 [nb8 h.num I]) (rowN_ok (Row.new _ _ _) rfl) rfl (by show s + j + 1 ≤ 8388608; omega) Z5.out ?_
               intro y6 w6 own6 grow6
               have D6 := veil (D5.out.grown grow6 Z5.out (fun q e => (O5.out.lt q e).1))
               have O6 : Hid (w6.ownsRow w3.heap.size 5 1 y6 (s + (j + 1)) (vb (preL h.ph n R ++ (lowL h.num n).take (j + 1)))) := by
                 rw [lowL_snoc h.num n j hlt2, HI.out, ← List.append_assoc]
                 exact own6
               clear own6 grow6 D5 O5 Z5 h3))
          go_roundw
          case rel => exact ⟨j + 1, by omega, by congr 1; omega, O6.out, D6.out⟩
          case measure => simp [intOf]
        · obtain rfl : j = n := by omega
          have hIi : (j : Int) - 1 - (j : Int) = -1 := by omega
          rw [hIi]
          have oh := OJ.out
          rw [List.take_of_length_le (by rw [lowL_length]; exact Nat.le_refl _), show preL h.ph j R ++ lowL h.num j = headL h.ph j R from rfl] at oh
          obtain ⟨g, c, rfl, hc⟩ := own_someB oh (by have := HS1.out; omega)
          have OH := veil oh
          have k1 := KS.c1 SJ.out.rk
          have h3 := HD.c3 SJ.out.rh
          clear OJ hlt2 hj hc oh
          go_wp2_with fail
          clear k1 h3
          refine (refNonce_any k.iv h.num wr SJ.out.hk.iv HK2.out HXN.out).mono ?_
          rintro e5 w5 ⟨z5, rfl, hz5, hzb5, hb5⟩
          have D5 := veil (DJ.out.trans (hb5.mono ZJ.out))
          have S5 := veil (SJ.out.below hb5)
          have O5 := veil (own_below OH.out hb5)
          have QN := veil hz5
          have QB := veil hzb5
          have k0 := KS.c0 S5.out.rk
          clear hz5 hzb5 hb5 OH DJ SJ ZJ
          go_wp2_with fail
          clear k0
          refine (refSeal_any k.key z5 p ⟨some ⟨g, 0, none⟩, s + j, c, g, 0, headL h.ph j R⟩ w5 S5.out.hk.key QN.out (HP0.out.below S5.out.bel) (own_okB O5.out)).mono ?_
          rintro e6 w6 ⟨q6, rfl, hq6, hqb6, hb6⟩
          obtain ⟨hsE, hsO⟩ := seal_fine (k := k.key.b) (n := z5.b) (p := p.b) (b := headL h.ph j R) ⟨by rw [S5.out.hk.key.hb]; exact HK1.out, by rw [QB.out]; exact nonceL_length _ _⟩ ⟨by rw [HPB.out]; omega, by rw [HLN.out]; omega⟩
          simp only at hqb6 ⊢
          rw [hsO, QB.out] at hqb6
          rw [hsE]
          have hql : q6.len = p.len + 16 := by rw [← hq6.hb, hqb6, sealL_length, HPB.out]
          have D6 := veil (D5.out.trans (hb6.mono D5.out.size))
          have O6 := veil (own_below O5.out hb6)
          have Q6 := veil hq6
          have Z6 := veil D6.out.size
          have HQL := veil hql
          have HQB := veil hqb6
          clear hb6 hq6 hqb6 hsE hsO D5 S5 O5 QN hql
          go_wp2_with (first
            | (with_reducible (show wpList _ _ _ (⟨some 100, Op.call _, _, _, _, _⟩ :: _) _ _)
               refine append_sl rfl _ _ 22 rfl w3.heap.size i0 Tryz.underlying22 hi hz0 hz1 hz2 _ (s + j) _ rfl O6.out q6 Q6.out rfl (by rw [HQL.out]; omega) Z6.out ?_
               intro v9 w9 own9 grow9
               have D9 := veil (D6.out.grown grow9 Z6.out (fun q e => (O6.out.lt q e).1))
               rw [HQL.out, HQB.out] at own9
               have O9 := veil own9
               have S9 := veil (S3.out.below D9.out)
               have k0 := KS.c0 S9.out.rk
               have k1 := KS.c1 S9.out.rk
               have k2 := KS.c2 S9.out.rk
               have h0 := HD.c0 S9.out.rh
               clear own9 grow9 D6 O6 Q6 Z6))
          clear k0 k1 k2 h0
          obtain ⟨N, hN⟩ : ∃ N, s + j + (p.len + 16) = N := ⟨_, rfl⟩
          obtain ⟨X, hX⟩ : ∃ X, headL h.ph j R ++ sealL k.key.b (nonceL k.iv.b h.num) p.b (headL h.ph j R) = X := ⟨_, rfl⟩
          rw [hN, hX] at O9
          obtain ⟨g9, c9, rfl, hc9⟩ := own_someB O9.out (by omega)
          have HXL := veil (show X.length = N by
            have := O9.out.1
            unfold vb at this
            simpa using this)
          refine (refCover_any w3.heap.size g9 N c9 s j X k h.long w9 O9.out S9.out.hk HK3.out D9.out.size (by have := HP4.out; have := HP1.out; omega) HS1.out HN4.out (by omega)).mono ?_
          rintro e11 w11 ⟨rfl, hown, hbel⟩
          have OF := veil hown
          have BF := veil hbel
          have HX := veil hX
          clear hown hbel hX
          go_wp2_with fail
          go_ret2
          have hE := HE.out
          rw [if_pos hlim] at hE
          have hbare : bareL h.ph j p.b k.key.b k.iv.b = X := by
            unfold bareL
            rw [HR.out]
            exact HX.out
          have hO : packO h.ph j p.b k.key.b k.iv.b k.mask.b = covTo X s j (covB h.long) (maskL k.mask.b (sampL X s)) := by
            unfold packO
            rw [if_pos hE, Int.toNat_natCast]
            unfold packL
            rw [HR.out, hbare, HS.out]
            rfl
          have hOl : (packO h.ph j p.b k.key.b k.iv.b k.mask.b).length = N := by rw [hO, covTo_length, HXL.out]
          rw [hE, hOl, hO]
          exact ⟨_, rfl, own_low OF.out S3.out.bel.size, S3.out.bel.trans ((D9.out.trans BF.out).mono S3.out.bel.size)⟩
    · have hlt : (1200 : Int) < (s : Int) + (n : Int) + (p.len : Int) + 16 := by omega
      go_wp2_with fail
      go_ret2
      have hE := HE.out
      rw [if_neg hlim] at hE
      have hO : packO h.ph n p.b k.key.b k.iv.b k.mask.b = [] := by unfold packO; rw [hE]; rfl
      rw [hE, hO]
      exact ⟨_, rfl, World.ownsRow_nil _ _ _ _, (S3.out.below D4.out).bel⟩

/-- The document's Seal, at any packet. -/
theorem refPack_any (h : HD) (n : Int) (p : SL) (k : KS) (w : World) (hg : Glob w) (hh : h.Ok w) (hp : p.Ok w) (hk : k.Ok w) (hpl : p.len ≤ 140737488351232) (hn1 : -9223372036854775808 ≤ n) (hn2 : n ≤ 9223372036854775807) :
    Calls Tryz.prog 8 #[.agg h.cells, .int .i64 n, .slice p.a p.len p.cap, .agg k.cells] w fun e w' => ∃ v, e = .returned (.tuple #[v, .int .i64 (packE h.ph n p.b k.key.b k.iv.b k.mask.b)]) ∧ w'.ownsRow w.heap.size 5 1 v (packO h.ph n p.b k.key.b k.iv.b k.mask.b).length (vb (packO h.ph n p.b k.key.b k.iv.b k.mask.b)) ∧ Below w.heap.size w w' := by
  by_cases hgood : goodP h.ph n p.b k.key.b k.iv.b k.mask.b = true
  · have hg2 := hgood
    unfold goodP at hg2
    simp only [Bool.and_eq_true, decide_eq_true_eq] at hg2
    obtain ⟨m, rfl⟩ : ∃ m : Nat, n = m := ⟨n.toNat, by omega⟩
    exact rseal_good h m p k w hg hh hp hk hpl hgood
  · have hb : goodP h.ph n p.b k.key.b k.iv.b k.mask.b = false := by simpa using hgood
    have hE : packE h.ph n p.b k.key.b k.iv.b k.mask.b = 1 := by unfold packE; rw [hb]; rfl
    have hO : packO h.ph n p.b k.key.b k.iv.b k.mask.b = [] := by unfold packO; rw [hE]; rfl
    rw [hE, hO]
    refine (rseal_bad h n p k w hg hh hp hk hn1 hn2 hb).mono ?_
    rintro e w' ⟨rfl, hb'⟩
    exact ⟨_, rfl, World.ownsRow_nil _ _ _ _, hb'⟩
end Go.Proofs.YtbheoldakmcppaaGreatDoor
