/-
  Out of PkMask, AeRun, PkCover.
-/
import Derived.Test.YtbheoldakmcppaaGreatDoorGs22
import Derived.Test.YtbheoldakmcppaaGreatDoorGs5
import Derived.Test.YtbheoldakmcppaaGreatDoorGs11
import Derived.Test.YtbheoldakmcppaaGreatDoorGs28

/-! What packet.maskOf answers. Written by mkmask13.py. -/
namespace Go.Proofs.YtbheoldakmcppaaGreatDoor
open Go Go.RowKit

section
variable {k : KS} {w : World} {G : Nat} {t : TypeId} (r : Row w G t k.cells)
include r
theorem KS.c0 : w.cell? ⟨G, 0, none⟩ = some (.slice k.key.a k.key.len k.key.cap) := r.cell 0
theorem KS.c1 : w.cell? ⟨G, 1, none⟩ = some (.slice k.iv.a k.iv.len k.iv.cap) := r.cell 1
theorem KS.c2 : w.cell? ⟨G, 2, none⟩ = some (.slice k.mask.a k.mask.len k.mask.cap) := r.cell 2
end

/-- The sample, told from the number's first place on. -/
def samp4 (b : List By) : List By := (b.take 20).drop 4
def depK : Nat → List Nat
  | 1 => [0]
  | 3 => [2]
  | 4 => [1, 3]
  | 5 => [4]
  | 6 => [4]
  | 7 => [5]
  | 8 => [6]
  | _ => []
def valK (k : KS) (q c : SL) (B : List By) (G S : Nat) : Nat → World → Value → Prop
  | 0, _, v => v = .pointer (some ⟨G, 2, none⟩)
  | 1, _, v => v = .slice k.mask.a k.mask.len k.mask.cap
  | 2, _, v => v = .slice q.a q.len q.cap
  | 3, _, v => v = .slice c.a c.len c.cap
  | 4, W, v => ∃ g, v = .tuple #[.slice (some ⟨g, 0, none⟩) 5 5, .int .i64 0] ∧ S ≤ g ∧ Row W g 187 (bs B)
  | 5, W, v => ∃ g, v = .slice (some ⟨g, 0, none⟩) 5 5 ∧ S ≤ g ∧ Row W g 187 (bs B)
  | 6, _, v => v = .int .i64 0
  | 7, W, v => ∃ g, v = .slice (some ⟨g, 0, none⟩) 5 5 ∧ S ≤ g ∧ Row W g 187 (bs B)
  | 8, _, v => v = .int .i64 0
  | _, _, _ => True
theorem valK_mono {k : KS} {q c : SL} {B : List By} {G S : Nat} : ∀ (j : Nat) (W W' : World) (v : Value), Below W.heap.size W W' → valK k q c B G S j W v → valK k q c B G S j W' v
  | 0, _, _, _, _, h => h
  | 1, _, _, _, _, h => h
  | 2, _, _, _, _, h => h
  | 3, _, _, _, _, h => h
  | 4, _, _, _, hb, ⟨g, h1, h2, h3⟩ => ⟨g, h1, h2, h3.below hb h3.lt⟩
  | 5, _, _, _, hb, ⟨g, h1, h2, h3⟩ => ⟨g, h1, h2, h3.below hb h3.lt⟩
  | 6, _, _, _, _, h => h
  | 7, _, _, _, hb, ⟨g, h1, h2, h3⟩ => ⟨g, h1, h2, h3.below hb h3.lt⟩
  | 8, _, _, _, _, h => h
  | _ + 9, _, _, _, _, _ => trivial

set_option maxRecDepth 20000 in
set_option maxHeartbeats 1000000 in
theorem maskOf_any (q : SL) (k : KS) (w : World) (hg : Glob w) (hq : q.Ok w) (hk : k.Ok w) (hl : 20 ≤ q.len) (hm : k.mask.len = 32) :
    Calls Tryz.prog 24 #[.slice q.a q.len q.cap, .agg k.cells] w fun e w' => ∃ g, e = .returned (.tuple #[.slice (some ⟨g, 0, none⟩) 5 5, .int .i64 0]) ∧ w.heap.size ≤ g ∧ Row w' g 187 (bs (blockL k.mask.b (countL (samp4 q.b)) ((samp4 q.b).drop 4))) ∧ Below w.heap.size w w' := by
  have b0 : Below w.heap.size w (w.alloc (.cells k.cells 27)) := (Below.refl _ w).alloc (Nat.le_refl _) _
  have r0 : Row (w.alloc (.cells k.cells 27)) w.heap.size 27 k.cells := Row.new _ _ _
  obtain ⟨c, hcut, ⟨hcl, hcb⟩, hcok, _⟩ := cut_both q w hq 4 20 (by decide) hl
  have B0 := veil b0
  have R0 := veil r0
  have HC := veil (hcok _ (hq.below b0))
  have HM := veil (hk.mask.below b0)
  have HG := veil (hg.below b0 (Nat.le_refl _))
  have HCL := veil (show c.len = 16 by omega)
  have hcb' : samp4 q.b = c.b := hcb.symm
  rw [hcb']
  have HCU := veil hcut
  have HML := veil hm
  obtain ⟨B, hB⟩ : ∃ B, blockL k.mask.b (countL c.b) (c.b.drop 4) = B := ⟨_, rfl⟩
  rw [hB]
  have HB := veil hB
  clear b0 r0 hcl hcb hcok hg hq hk hcut hcb' hB hm hl
  refine (callsIn_wide (n := 4)).1 ?_
  refine callsIn_of_wp Tryz.func24 rfl trivial ?_ rfl
  simp only [Tryz.ntmps24, List.size_toArray, List.length_cons, List.length_nil, Nat.reduceAdd, Nat.reduceSub, Array.replicate_succ, Array.replicate_zero, List.push_toArray, List.append_toArray, List.nil_append, List.cons_append]
  gi_wp2_with fail
  generalize w.alloc (.cells k.cells 27) = w0 at *
  refine wpIn_region_any (by kernel_rfl) ?_
  refine anyIn_genS (w0 := w0) (valK k q c B w.heap.size w.heap.size) valK_mono [6, 7, 8, 9, 10, 11, 12, 4, 5] depK (by kernel_rfl) rfl (by decide) ((Below.refl _ _).drew) ?step ?done
  case step =>
    intro x W i e hW hdi hdep
    match i, hdi, hdep with
    | 0, hdi, _ =>
      obtain rfl := Option.some.inj hdi
      exact OI_value rfl rfl (about_none (by intro c h; cases h)) (by intro c h; cases h) (.pointer (some ⟨w.heap.size, 2, none⟩)) W (by kernel_rfl) ⟨_, rfl, Below.refl _ _, rfl⟩
    | 1, hdi, hdep =>
      obtain rfl := Option.some.inj hdi
      rw [updV_self (show x 0 = _ from hdep 0 (by simp [depK]))]
      exact OI_value rfl rfl (about_none (by intro c h; cases h)) (by intro c h; cases h) (.slice k.mask.a k.mask.len k.mask.cap) W (run_cell 22 _ ⟨w.heap.size, 2, none⟩ _ _ rfl (by kernel_rfl) Tryz.underlying22 rfl W (KS.c2 (R0.out.below hW R0.out.lt))) ⟨_, rfl, Below.refl _ _, rfl⟩
    | 2, hdi, _ =>
      obtain rfl := Option.some.inj hdi
      exact OI_value rfl rfl (about_none (by intro c h; cases h)) (by intro c h; cases h) (.slice q.a q.len q.cap) W (by kernel_rfl) ⟨_, rfl, Below.refl _ _, rfl⟩
    | 3, hdi, hdep =>
      obtain rfl := Option.some.inj hdi
      rw [updV_self (show x 2 = _ from hdep 2 (by simp [depK]))]
      exact OI_value rfl rfl (about_none (by intro c h; cases h)) (by intro c h; cases h) (.slice c.a c.len c.cap) W (run_sliceOp _ _ _ _ _ rfl _ _ _ _ (by kernel_rfl) (by kernel_rfl) (by kernel_rfl) (by kernel_rfl) _ W (HCU.out W)) ⟨_, rfl, Below.refl _ _, rfl⟩
    | 4, hdi, hdep =>
      obtain rfl := Option.some.inj hdi
      rw [updV_self (show x 1 = _ from hdep 1 (by simp [depK])), updV_self (show updV x 1 _ 3 = _ from hdep 3 (by simp [depK]))]
      refine OI_call rfl rfl (by intro c h; cases h) 78 #[.slice k.mask.a k.mask.len k.mask.cap, .slice c.a c.len c.cap] (fun _ _ => trivial) (by kernel_rfl) (by decide) ?_
      refine (callsIn_wide.2 (mask_any k.mask c W (HG.out.below hW (Nat.le_refl _)) (HM.out.below hW) (HC.out.below hW) HML.out HCL.out)).mono ?_
      rintro e w' ⟨g, rfl, hgl, rg, hb'⟩
      rw [HB.out] at rg
      exact ⟨_, rfl, _, rfl, hb', ⟨g, rfl, Nat.le_trans (Nat.le_trans B0.out.size hW.size) hgl, rg⟩⟩
    | 5, hdi, hdep =>
      obtain rfl := Option.some.inj hdi
      obtain ⟨g, e4, h1, h2⟩ := hdep 4 (by simp [depK])
      rw [updV_self (show x 4 = _ from e4)]
      exact OI_value rfl rfl (about_none (by intro c h; cases h)) (by intro c h; cases h) (.slice (some ⟨g, 0, none⟩) 5 5) W (by kernel_rfl) ⟨_, rfl, Below.refl _ _, ⟨g, rfl, h1, h2⟩⟩
    | 6, hdi, hdep =>
      obtain rfl := Option.some.inj hdi
      obtain ⟨g, e4, h1, h2⟩ := hdep 4 (by simp [depK])
      rw [updV_self (show x 4 = _ from e4)]
      exact OI_value rfl rfl (about_none (by intro c h; cases h)) (by intro c h; cases h) (.int .i64 0) W (by kernel_rfl) ⟨_, rfl, Below.refl _ _, rfl⟩
    | 7, hdi, hdep =>
      obtain rfl := Option.some.inj hdi
      obtain ⟨g, e5, h1, h2⟩ := hdep 5 (by simp [depK])
      rw [updV_self (show x 5 = _ from e5)]
      exact OI_value rfl rfl (about_none (by intro c h; cases h)) (by intro c h; cases h) (.slice (some ⟨g, 0, none⟩) 5 5) W (by kernel_rfl) ⟨_, rfl, Below.refl _ _, ⟨g, rfl, h1, h2⟩⟩
    | 8, hdi, hdep =>
      obtain rfl := Option.some.inj hdi
      rw [updV_self (show x 6 = _ from hdep 6 (by simp [depK]))]
      exact OI_value rfl rfl (about_none (by intro c h; cases h)) (by intro c h; cases h) (.int .i64 0) W (by kernel_rfl) ⟨_, rfl, Below.refl _ _, rfl⟩
    | _ + 9, hdi, _ => simp at hdi
  case done =>
    intro x W hW hx
    obtain ⟨g, e7, h1, h2⟩ := hx 7 (by decide)
    have e8 : x 8 = .int .i64 0 := hx 8 (by decide)
    have b7 := B0.out.trans (hW.mono B0.out.size)
    simp only [putsV, Act.put, List.setIfInBounds_toArray, List.set_cons_succ, List.set_cons_zero, Nat.reduceAdd, e7, e8]
    generalize x 0 = z0, x 1 = z1, x 2 = z2, x 3 = z3, x 4 = z4, x 5 = z5, x 6 = z6
    clear hx e7 e8
    gi_wp2_with fail
    go_ret2
    exact ⟨g, rfl, h1, h2, b7⟩
end Go.Proofs.YtbheoldakmcppaaGreatDoor

/-! Single operations of walks by hand: no program in sight. -/
namespace Go.Proofs.YtbheoldakmcppaaGreatDoor
open Go Go.RowKit

section
variable {P : Program} {a : Act} {o : Oper}
theorem run_at6 (t e : TypeId) (x ix : Operand) (g off len cap j : Nat) (ho : o.op = .indexAddr t x ix) (hx : a.eval x = .slice (some ⟨g, off, none⟩) len cap) (hix : a.eval ix = .int .i64 (j : Int))
    (hu : P.underlying t = some (.slice e)) (hi : (P.info? e).map (·.size) = some 1) (hj : j < len) (W : World) : (execOp a.eval o).run P W = .ok (.value (.pointer (some ⟨g, off + j, none⟩))) W := by
  have hsz : (sizeOf e).run P W = .ok 1 W := by
    cases hq : P.info? e with
    | none => simp [hq] at hi
    | some i =>
      have : i.size = 1 := by simpa [hq] using hi
      simp [sizeOf, typeInfo, hq, this]
  unfold execOp
  simp [ho, hx, hix, Instr.indexAt, asIntOf, run_underlying hu, hj, hsz, Addr.add]
theorem run_xorB (t t' : TypeId) (x y : Operand) (b c : By) (ho : o.op = .binOp .xor t x y t') (hx : a.eval x = .int .u8 (v8 b)) (hy : a.eval y = .int .u8 (v8 c)) (W : World) :
    (execOp a.eval o).run P W = .ok (.value (.int .u8 (v8 (xb b c)))) W := by
  unfold execOp
  simp only [ho, hx, hy]
  go_simp
  rw [bxb]
theorem run_storeCell (ty : TypeId) (x y : Operand) (p : Addr) (k : IntKind) (z : Int) (old : Value) (ho : o.op = .store ty x y) (hx : a.eval x = .pointer (some p)) (hy : a.eval y = .int k z) (hi : (P.info? ty).map (·.size) = some 1) (w : World)
    (hc : w.cell? p = some old) (hf : w.frozen? p = false) : (execOp a.eval o).run P w = .ok .skip (w.setCell p (.int k z)) := by
  have hsz : (sizeOf ty).run P w = .ok 1 w := by
    cases hq : P.info? ty with
    | none => simp [hq] at hi
    | some i =>
      have : i.size = 1 := by simpa [hq] using hi
      simp [sizeOf, typeInfo, hq, this]
  unfold execOp
  simp only [ho, hx, hy, Instr.storeAt, Instr.sureAddr, storeVar, Sem.run_bind, Sem.run_pure, Result.andThen_ok, hsz]
  simp [Value.cells, storeCells, Addr.add_zero', run_store P w p (.int k z) _ rfl, hc, hf]
end
end Go.Proofs.YtbheoldakmcppaaGreatDoor

/-! What packet.cover does. Written by mkcover.py. -/
namespace Go.Proofs.YtbheoldakmcppaaGreatDoor
open Go Go.RowKit

section
variable {P : Program} {o : Oper} {a : Act}
theorem b8a (a b : By) : bits .and .u8 (v8 a) (v8 b) = v8 (a &&& b) := by
  rw [u8_and _ _ (v8_nn a) (by have := v8_le a; omega) (v8_nn b) (by have := v8_le b; omega)]
  unfold v8
  rw [BitVec.toNat_and]
  simp
theorem run_andB (t t' : TypeId) (x y : Operand) (b c : By) (ho : o.op = .binOp .and t x y t') (hx : a.eval x = .int .u8 (v8 b)) (hy : a.eval y = .int .u8 (v8 c)) (W : World) :
    (execOp a.eval o).run P W = .ok (.value (.int .u8 (v8 (b &&& c)))) W := by
  unfold execOp
  simp only [ho, hx, hy]
  go_simp
  rw [b8a]
end
def depC : Nat → List Nat
  | 1 => [0]
  | 2 => [1]
  | 4 => [3]
  | 5 => [4]
  | 7 => [6]
  | 8 => [7]
  | 9 => [8]
  | 10 => [9]
  | 11 => [5, 10]
  | 12 => [2, 11]
  | 13 => [0]
  | 14 => [0, 1, 2, 3, 4, 5, 6, 7, 8, 9, 10, 11, 12, 13]
  | _ => []
def valC (g gm m cap : Nat) (x0 m0 : By) : Nat → Value
  | 0 => .slice (some ⟨g, 0, none⟩) m cap
  | 1 => .pointer (some ⟨g, 0, none⟩)
  | 2 => .int .u8 (v8 x0)
  | 3 => .slice (some ⟨gm, 0, none⟩) 5 5
  | 4 => .pointer (some ⟨gm, 0, none⟩)
  | 5 => .int .u8 (v8 m0)
  | 6 => .slice (some ⟨g, 0, none⟩) m cap
  | 7 => .pointer (some ⟨g, 0, none⟩)
  | 8 => .int .u8 (v8 x0)
  | 9 => .agg (kindC (longB x0))
  | 10 => .int .u8 (v8 (covB (longB x0)))
  | 11 => .int .u8 (v8 (m0 &&& covB (longB x0)))
  | 12 => .int .u8 (v8 (x0 ^^^ (m0 &&& covB (longB x0))))
  | _ => .pointer (some ⟨g, 0, none⟩)
theorem covB_v8 (l : Bool) : v8 (covB l) = if l then 15 else 31 := by cases l <;> rfl
/-- A header is masked, in place. -/
structure CovD (w : World) (base g N cap gm : Nat) (xs MB : List By) (w' : World) : Prop where
  own : w'.ownsRow base 5 1 (.slice (some ⟨g, 0, none⟩) N cap) N (vb xs)
  bel : Below base w w'
  row : Row w' gm 187 (bs MB)

set_option maxRecDepth 20000 in
set_option maxHeartbeats 2000000 in
theorem cover_any (base g N cap m s n gm : Nat) (xs MB : List By) (w : World) (hown : w.ownsRow base 5 1 (.slice (some ⟨g, 0, none⟩) N cap) N (vb xs)) (hrow : Row w gm 187 (bs MB)) (hMB : MB.length = 64) (hne : gm ≠ g)
    (hbase : base ≤ w.heap.size) (hmN : m ≤ N) (hsn : s + n = m) (hs : 1 ≤ s) (hn1 : 1 ≤ n) (hn : n ≤ 4) (hN : N ≤ 1048576) :
    Calls Tryz.prog 25 #[.slice (some ⟨g, 0, none⟩) m cap, .int .i64 (s : Int), .slice (some ⟨gm, 0, none⟩) 5 5] w fun e w' => e = .returned (.tuple #[]) ∧ CovD w base g N cap gm (covTo xs s n (covB (longB (gb xs 0))) MB) MB w' := by
  have hxl : xs.length = N := by
    have := hown.1
    unfold vb at this
    simpa using this
  have hgb : base ≤ g ∧ g < w.heap.size := hown.lt g rfl
  have hcap : N ≤ cap := by
    rcases hown.2 with ⟨h3, _⟩ | ⟨g', c', cur, h3, _, _, h6, _⟩
    · cases h3
    · injection h3 with _ _ e3
      omega
  have hc0 := own_cellB hown (j := 0) (by omega)
  have hm0 := hrow.cellB (j := 0) (by omega)
  have HO := veil hown
  have HR := veil hrow
  have HXL := veil hxl
  have HML := veil hMB
  have HGB := veil hgb
  have HC0 := veil hc0
  have HM0 := veil hm0
  have HNE := veil hne
  have HBS := veil hbase
  have hm0' : 0 < m := by omega
  have hsm : s ≤ m := by omega
  have hmc : m ≤ cap := by omega
  have hcs : ¬ cap = s := by omega
  have hcs2 : ¬ s = cap := by omega
  have HSN := veil hsn
  have HMN := veil hmN
  have HS := veil hs
  have HN := veil hn
  have HNN := veil hN
  obtain ⟨x0, hx0⟩ : ∃ x, gb xs 0 = x := ⟨_, rfl⟩
  obtain ⟨m0, hm00⟩ : ∃ x, gb MB 0 = x := ⟨_, rfl⟩
  rw [hx0] at HC0 ⊢
  rw [hm00] at HM0
  have HX0 := veil hx0
  have HM00 := veil hm00
  clear hown hrow hxl hMB hgb hc0 hm0 hne hbase hsn hmN hs hn hn1 hN hx0 hm00 hcap
  refine (callsIn_wide (n := 4)).1 ?_
  refine callsIn_of_wp Tryz.func25 rfl trivial ?_ rfl
  simp only [Tryz.ntmps25, List.size_toArray, List.length_cons, List.length_nil, Nat.reduceAdd, Nat.reduceSub, Array.replicate_succ, Array.replicate_zero, List.push_toArray, List.append_toArray, List.nil_append, List.cons_append]
  gi_wp2_with fail
  refine wpIn_region_any (by kernel_rfl) ?_
  refine anyIn_storeS (w0 := w) (fun j _ v => v = valC g gm m cap x0 m0 j) (fun _ _ _ _ _ h => h) [7, 8, 9, 10, 11, 12, 13, 14, 15, 16, 17, 18, 19, 20] depC (by kernel_rfl) rfl (by decide) (by intro j hj; have : j < 14 := hj; simp [depC]; omega) ((Below.refl _ _).drew)
    (fun _ U => CovD w base g N cap gm (covTo xs s 0 (covB (longB x0)) MB) MB U) ?step ?last ?done
  case step =>
    intro x W i e hW hdi hdep
    match i, hdi, hdep with
    | 0, hdi, _ =>
      obtain rfl := Option.some.inj hdi
      exact OI_value rfl rfl (about_none (by intro c h; cases h)) (by intro c h; cases h) (.slice (some ⟨g, 0, none⟩) m cap) W (by kernel_rfl) ⟨_, rfl, Below.refl _ _, rfl⟩
    | 1, hdi, hdep =>
      obtain rfl := Option.some.inj hdi
      rw [updV_self (show x 0 = _ from hdep 0 (by simp [depC]))]
      exact OI_value rfl rfl (about_none (by intro c h; cases h)) (by intro c h; cases h) (.pointer (some ⟨g, 0, none⟩)) W (run_at6 22 5 _ _ g 0 m cap 0 rfl (by kernel_rfl) (by kernel_rfl) Tryz.underlying22 (by kernel_rfl) (by omega) W) ⟨_, rfl, Below.refl _ _, rfl⟩
    | 2, hdi, hdep =>
      obtain rfl := Option.some.inj hdi
      rw [updV_self (show x 1 = _ from hdep 1 (by simp [depC]))]
      exact OI_value rfl rfl (about_none (by intro c h; cases h)) (by intro c h; cases h) (.int .u8 (v8 x0)) W (run_cell 5 _ ⟨g, 0, none⟩ _ _ rfl (by kernel_rfl) Tryz.underlying5 rfl W ((hW.cell (p := ⟨g, 0, none⟩) HGB.out.2).trans HC0.out)) ⟨_, rfl, Below.refl _ _, rfl⟩
    | 3, hdi, _ =>
      obtain rfl := Option.some.inj hdi
      exact OI_value rfl rfl (about_none (by intro c h; cases h)) (by intro c h; cases h) (.slice (some ⟨gm, 0, none⟩) 5 5) W (by kernel_rfl) ⟨_, rfl, Below.refl _ _, rfl⟩
    | 4, hdi, hdep =>
      obtain rfl := Option.some.inj hdi
      rw [updV_self (show x 3 = _ from hdep 3 (by simp [depC]))]
      exact OI_value rfl rfl (about_none (by intro c h; cases h)) (by intro c h; cases h) (.pointer (some ⟨gm, 0, none⟩)) W (run_at6 22 5 _ _ gm 0 5 5 0 rfl (by kernel_rfl) (by kernel_rfl) Tryz.underlying22 (by kernel_rfl) (by omega) W) ⟨_, rfl, Below.refl _ _, rfl⟩
    | 5, hdi, hdep =>
      obtain rfl := Option.some.inj hdi
      rw [updV_self (show x 4 = _ from hdep 4 (by simp [depC]))]
      exact OI_value rfl rfl (about_none (by intro c h; cases h)) (by intro c h; cases h) (.int .u8 (v8 m0)) W (run_cell 5 _ ⟨gm, 0, none⟩ _ _ rfl (by kernel_rfl) Tryz.underlying5 rfl W ((hW.cell (p := ⟨gm, 0, none⟩) HR.out.lt).trans HM0.out)) ⟨_, rfl, Below.refl _ _, rfl⟩
    | 6, hdi, _ =>
      obtain rfl := Option.some.inj hdi
      exact OI_value rfl rfl (about_none (by intro c h; cases h)) (by intro c h; cases h) (.slice (some ⟨g, 0, none⟩) m cap) W (by kernel_rfl) ⟨_, rfl, Below.refl _ _, rfl⟩
    | 7, hdi, hdep =>
      obtain rfl := Option.some.inj hdi
      rw [updV_self (show x 6 = _ from hdep 6 (by simp [depC]))]
      exact OI_value rfl rfl (about_none (by intro c h; cases h)) (by intro c h; cases h) (.pointer (some ⟨g, 0, none⟩)) W (run_at6 22 5 _ _ g 0 m cap 0 rfl (by kernel_rfl) (by kernel_rfl) Tryz.underlying22 (by kernel_rfl) (by omega) W) ⟨_, rfl, Below.refl _ _, rfl⟩
    | 8, hdi, hdep =>
      obtain rfl := Option.some.inj hdi
      rw [updV_self (show x 7 = _ from hdep 7 (by simp [depC]))]
      exact OI_value rfl rfl (about_none (by intro c h; cases h)) (by intro c h; cases h) (.int .u8 (v8 x0)) W (run_cell 5 _ ⟨g, 0, none⟩ _ _ rfl (by kernel_rfl) Tryz.underlying5 rfl W ((hW.cell (p := ⟨g, 0, none⟩) HGB.out.2).trans HC0.out)) ⟨_, rfl, Below.refl _ _, rfl⟩
    | 9, hdi, hdep =>
      obtain rfl := Option.some.inj hdi
      rw [updV_self (show x 8 = _ from hdep 8 (by simp [depC]))]
      refine OI_call rfl rfl (by intro c h; cases h) 79 #[.int .u8 (v8 x0)] (fun _ _ => trivial) (by kernel_rfl) (by decide) ?_
      refine (callsIn_wide.2 (kindOf_any x0 W)).mono ?_
      rintro e w' ⟨rfl, hb'⟩
      exact ⟨_, rfl, _, rfl, hb', rfl⟩
    | 10, hdi, hdep =>
      obtain rfl := Option.some.inj hdi
      rw [updV_self (show x 9 = _ from hdep 9 (by simp [depC]))]
      exact OI_value rfl rfl (about_none (by intro c h; cases h)) (by intro c h; cases h) (.int .u8 (v8 (covB (longB x0)))) W (by rw [covB_v8]; kernel_rfl) ⟨_, rfl, Below.refl _ _, rfl⟩
    | 11, hdi, hdep =>
      obtain rfl := Option.some.inj hdi
      rw [updV_self (show x 5 = _ from hdep 5 (by simp [depC])), updV_self (show (updV x 5 _) 10 = _ from hdep 10 (by simp [depC]))]
      exact OI_value rfl rfl (about_none (by intro c h; cases h)) (by intro c h; cases h) (.int .u8 (v8 (m0 &&& covB (longB x0)))) W (run_andB _ _ _ _ m0 (covB (longB x0)) rfl (by kernel_rfl) (by kernel_rfl) W) ⟨_, rfl, Below.refl _ _, rfl⟩
    | 12, hdi, hdep =>
      obtain rfl := Option.some.inj hdi
      rw [updV_self (show x 2 = _ from hdep 2 (by simp [depC])), updV_self (show (updV x 2 _) 11 = _ from hdep 11 (by simp [depC]))]
      exact OI_value rfl rfl (about_none (by intro c h; cases h)) (by intro c h; cases h) (.int .u8 (v8 (x0 ^^^ (m0 &&& covB (longB x0))))) W (run_xorB _ _ _ _ x0 (m0 &&& covB (longB x0)) rfl (by kernel_rfl) (by kernel_rfl) W) ⟨_, rfl, Below.refl _ _, rfl⟩
    | 13, hdi, hdep =>
      obtain rfl := Option.some.inj hdi
      rw [updV_self (show x 0 = _ from hdep 0 (by simp [depC]))]
      exact OI_value rfl rfl (about_none (by intro c h; cases h)) (by intro c h; cases h) (.pointer (some ⟨g, 0, none⟩)) W (run_at6 22 5 _ _ g 0 m cap 0 rfl (by kernel_rfl) (by kernel_rfl) Tryz.underlying22 (by kernel_rfl) (by omega) W) ⟨_, rfl, Below.refl _ _, rfl⟩
    | _ + 14, hdi, _ => simp at hdi
  case last =>
    intro x U hU hx
    have e12 : x 12 = .int .u8 (v8 (x0 ^^^ (m0 &&& covB (longB x0)))) := hx 12 (by decide)
    have e13 : x 13 = .pointer (some ⟨g, 0, none⟩) := hx 13 (by decide)
    have hoU := own_below HO.out hU
    rw [updV_self e12, updV_self (show updV x 12 _ 13 = _ from e13)]
    refine OI_skip rfl rfl (about_none (by intro c h; cases h)) (by intro c h; cases h) (U.setCell ⟨g, 0, none⟩ (.int .u8 (v8 (x0 ^^^ (m0 &&& covB (longB x0)))))) (run_storeCell 5 _ _ ⟨g, 0, none⟩ .u8 _ _ rfl (by kernel_rfl) (by kernel_rfl) (by kernel_rfl) U ((hU.cell (p := ⟨g, 0, none⟩) HGB.out.2).trans HC0.out) (own_frozenB hoU)) ?_
    refine ⟨by kernel_rfl, ?_, ?_, ?_⟩
    · have := own_setB (j := 0) hoU (x0 ^^^ (m0 &&& covB (longB x0)))
      rw [← covTo_zero, HX0.out, HM00.out]
      exact this
    · exact (hU.mono HBS.out).setCell (p := ⟨g, 0, none⟩) HGB.out.1 _
    · exact (HR.out.below hU HR.out.lt).other HNE.out _
  case done =>
    intro x U hc
    have HC := veil hc
    simp only [putsV, Act.put, List.setIfInBounds_toArray, List.set_cons_succ, List.set_cons_zero, Nat.reduceAdd]
    generalize x 0 = z0, x 1 = z1, x 2 = z2, x 3 = z3, x 4 = z4, x 5 = z5, x 6 = z6, x 7 = z7, x 8 = z8, x 9 = z9, x 10 = z10, x 11 = z11, x 12 = z12, x 13 = z13
    have hsub : (m : Int) - (s : Int) = (n : Int) := by have := HSN.out; omega
    clear hc
    gi_wp2_with fail
    gi_loopw [25] (fun i wr => ∃ t : Nat, t ≤ n ∧ i = .int .i64 (t : Int) ∧ CovD w base g N cap gm (covTo xs s t (covB (longB x0)) MB) MB wr) (fun i _ => n - (intOf i).toNat)
    case atStart => exact ⟨0, Nat.zero_le _, rfl, HC.out⟩
    case round =>
      obtain ⟨t, ht, rfl, hct⟩ := hrel
      have HT := veil hct
      have hsn := HSN.out
      have hn4 := HN.out
      by_cases hlt : t < n
      · have hc := own_cellB hct.own (j := s + t) (by rw [covTo_length, HXL.out]; have := HMN.out; omega)
        have hf := own_frozenB (j := s + t) hct.own
        have hcm := hct.row.cellB (j := 1 + t) (by have := HML.out; omega)
        have hx := b8x (gb (covTo xs s t (covB (longB x0)) MB) (s + t)) (gb MB (1 + t))
        have hset := covTo_succ xs s t (covB (longB x0)) MB HS.out (by rw [HXL.out]; have := HMN.out; omega)
        have HSET := veil hset
        clear hct hset
        obtain ⟨y, hy⟩ : ∃ y, gb (covTo xs s t (covB (longB x0)) MB) (s + t) = y := ⟨_, rfl⟩
        obtain ⟨z, hz⟩ : ∃ z, gb MB (1 + t) = z := ⟨_, rfl⟩
        rw [hy] at hc hx HSET
        rw [hz] at hcm hx HSET
        clear hy hz
        obtain ⟨J, hJ⟩ : ∃ J, s + t = J := ⟨_, rfl⟩
        obtain ⟨L, hL⟩ : ∃ L, 1 + t = L := ⟨_, rfl⟩
        have hJi : (s : Int) + (t : Int) = (J : Int) := by omega
        have hLi : (1 : Int) + (t : Int) = (L : Int) := by omega
        have hJm : J < m := by omega
        have hL5 : L < 5 := by omega
        have hJw : wrap64 (J : Int) = (J : Int) := by have := HMN.out; have := HNN.out; unfold wrap64; omega
        rw [hJ] at hc hf HSET
        rw [hL] at hcm
        clear hJ hL
        gi_wp2_with fail
        gi_region
        have hr2 : CovD w base g N cap gm (covTo xs s (t + 1) (covB (longB x0)) MB) MB (wr.setCell ⟨g, J, none⟩ (.int .u8 (v8 (y ^^^ z)))).drew := by
          refine ⟨?_, ?_, ?_⟩
          · have := own_setB (j := J) HT.out.own (y ^^^ z)
            rw [HSET.out] at this
            exact this.drew
          · exact (HT.out.bel.setCell (p := ⟨g, J, none⟩) HGB.out.1 _).drew
          · exact (HT.out.row.other HNE.out _).drew
        have HR2 := veil hr2
        clear hr2 hc hf hcm hx
        gi_wp2_with fail
        go_roundw
        case rel => exact ⟨t + 1, by omega, by go_num, HR2.out⟩
        case measure => simp [intOf]; omega
      · obtain rfl : t = n := by omega
        clear hlt ht hct
        gi_wp2_with fail
        go_end0
        exact ⟨rfl, HT.out⟩
end Go.Proofs.YtbheoldakmcppaaGreatDoor
