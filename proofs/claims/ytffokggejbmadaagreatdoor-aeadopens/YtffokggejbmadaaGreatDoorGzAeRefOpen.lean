/-
  What the document's Open answers, at any bytes.
-/
import Derived.Test.YtffokggejbmadaaGreatDoorGzAeRefSeal
import Derived.Test.YtffokggejbmadaaGreatDoorGz8
import Derived.Test.YtffokggejbmadaaGreatDoorGzAeRun
namespace Go.Proofs.YtffokggejbmadaaGreatDoor
open Go Go.RowKit

section
variable {P : Program} {a : Act} {o : Oper}
theorem run_cut_hi6 (t e : TypeId) (x hi : Operand) (ad : Addr) (len cap n : Nat) (ho : o.op = .slice t x none (some hi) none) (hx : a.eval x = .slice (some ad) len cap) (hh : a.eval hi = .int .i64 (n : Int)) (hu : P.underlying t = some (.slice e)) (hi1 : (P.info? e).map (·.size) = some 1) (hn : n ≤ cap) (W : World) :
    (execOp a.eval o).run P W = .ok (.value (.slice (some ad) n cap)) W := by
  have hsz : (sizeOf e).run P W = .ok 1 W := by
    cases hq : P.info? e with
    | none => simp [hq] at hi1
    | some i =>
      have : i.size = 1 := by simpa [hq] using hi1
      simp [sizeOf, typeInfo, hq, this]
  unfold execOp
  simp [ho, hx, hh, Instr.sliceAt, Instr.slice, Instr.sliceBounds, Instr.sliceBound, asIntOf, run_underlying hu, hsz, hn, Addr.add_zero']
theorem run_addN (t t' : TypeId) (x y : Operand) (m r : Nat) (hm : m + r ≤ 140737488355328) (ho : o.op = .binOp .add t x y t') (hx : a.eval x = .int .i64 (m : Int)) (hy : a.eval y = .int .i64 (r : Int)) (W : World) :
    (execOp a.eval o).run P W = .ok (.value (.int .i64 ((m + r : Nat) : Int))) W := by
  have hw : IntKind.i64.wrap ((m : Int) + (r : Int)) = ((m + r : Nat) : Int) := by rw [IntKind.wrap_i64]; omega
  unfold execOp
  simp only [ho, hx, hy]
  go_simp
theorem run_neq8 (t t' : TypeId) (x y : Operand) (b c : By) (ho : o.op = .binOp .neq t x y t') (hx : a.eval x = .int .u8 (v8 b)) (hy : a.eval y = .int .u8 (v8 c)) (W : World) :
    (execOp a.eval o).run P W = .ok (.value (.bool (v8 b != v8 c))) W := by
  unfold execOp
  simp only [ho, hx, hy]
  go_simp
end
/-- What the region that makes the tag brings about. -/
def depR : Nat → List Nat
  | 4 => [2, 3]
  | 6 => [0, 1, 4, 5]
  | 8 => [0, 1, 2, 3, 4, 5, 6, 7]
  | _ => []
def valR (kb nb M : List By) (s : SL) (m : Nat) (bv : Value) (B0 : Nat) : Nat → World → Value → Prop
  | 0, _, v => v = .agg (bs kb)
  | 1, _, v => v = .agg (bs nb)
  | 2, _, v => v = .slice (some ⟨s.g, s.off, none⟩) s.len s.cap
  | 3, _, v => v = .int .i64 (m : Int)
  | 4, _, v => v = .slice (some ⟨s.g, s.off, none⟩) m s.cap
  | 5, _, v => v = bv
  | 6, _, v => v = .agg (bs M)
  | 7, W, v => ∃ g, v = .pointer (some ⟨g, 0, none⟩) ∧ B0 ≤ g ∧ Row W g 55 (bs z16)
  | _, _, _ => True
theorem valR_mono {kb nb M : List By} {s : SL} {m : Nat} {bv : Value} {B0 : Nat} : ∀ (j : Nat) (W W' : World) (v : Value), Below W.heap.size W W' → valR kb nb M s m bv B0 j W v → valR kb nb M s m bv B0 j W' v
  | 0, _, _, _, _, h => h
  | 1, _, _, _, _, h => h
  | 2, _, _, _, _, h => h
  | 3, _, _, _, _, h => h
  | 4, _, _, _, _, h => h
  | 5, _, _, _, _, h => h
  | 6, _, _, _, _, h => h
  | 7, _, _, _, hb, ⟨g, h1, h2, h3⟩ => ⟨g, h1, h2, h3.below hb h3.lt⟩
  | _ + 8, _, _, _, _, _ => trivial
/-- Of the region that looks at a byte. -/
def depL : Nat → List Nat
  | 1 => [0]
  | 2 => [1]
  | 6 => [4, 5]
  | 7 => [3, 6]
  | 8 => [7]
  | 9 => [2, 8]
  | _ => []
def valL (s : SL) (m i g : Nat) (x y : By) : Nat → Value
  | 0 => .int .i64 (i : Int)
  | 1 => .pointer (some ⟨g, i, none⟩)
  | 2 => .int .u8 (v8 x)
  | 3 => .slice (some ⟨s.g, s.off, none⟩) s.len s.cap
  | 4 => .int .i64 (m : Int)
  | 5 => .int .i64 (i : Int)
  | 6 => .int .i64 ((m + i : Nat) : Int)
  | 7 => .pointer (some ⟨s.g, s.off + (m + i), none⟩)
  | 8 => .int .u8 (v8 y)
  | _ => .bool (v8 x != v8 y)
/-- Of the region that takes the bytes against the stream. -/
def depX : Nat → List Nat
  | 4 => [2, 3]
  | 5 => [0, 1, 4]
  | 6 => [5]
  | 7 => [6]
  | 8 => [6]
  | 9 => [7]
  | 10 => [8]
  | _ => []
def valX (kb nb X : List By) (s : SL) (m : Nat) : Nat → World → Value → Prop
  | 0, _, v => v = .agg (bs kb)
  | 1, _, v => v = .agg (bs nb)
  | 2, _, v => v = .slice (some ⟨s.g, s.off, none⟩) s.len s.cap
  | 3, _, v => v = .int .i64 (m : Int)
  | 4, _, v => v = .slice (some ⟨s.g, s.off, none⟩) m s.cap
  | 5, W, v => ∃ q : SL, v = .tuple #[.slice q.a q.len q.cap, .int .i64 0] ∧ q.Ok W ∧ q.b = X
  | 6, W, v => ∃ q : SL, v = .tuple #[.slice q.a q.len q.cap, .int .i64 0] ∧ q.Ok W ∧ q.b = X
  | 7, W, v => ∃ q : SL, v = .slice q.a q.len q.cap ∧ q.Ok W ∧ q.b = X
  | 8, _, v => v = .int .i64 0
  | 9, W, v => ∃ q : SL, v = .slice q.a q.len q.cap ∧ q.Ok W ∧ q.b = X
  | 10, _, v => v = .int .i64 0
  | _, _, _ => True
theorem valX_mono {kb nb X : List By} {s : SL} {m : Nat} : ∀ (j : Nat) (W W' : World) (v : Value), Below W.heap.size W W' → valX kb nb X s m j W v → valX kb nb X s m j W' v
  | 0, _, _, _, _, h => h
  | 1, _, _, _, _, h => h
  | 2, _, _, _, _, h => h
  | 3, _, _, _, _, h => h
  | 4, _, _, _, _, h => h
  | 5, _, _, _, hb, ⟨q, h1, h2, h3⟩ => ⟨q, h1, h2.below hb, h3⟩
  | 6, _, _, _, hb, ⟨q, h1, h2, h3⟩ => ⟨q, h1, h2.below hb, h3⟩
  | 7, _, _, _, hb, ⟨q, h1, h2, h3⟩ => ⟨q, h1, h2.below hb, h3⟩
  | 8, _, _, _, _, h => h
  | 9, _, _, _, hb, ⟨q, h1, h2, h3⟩ => ⟨q, h1, h2.below hb, h3⟩
  | 10, _, _, _, _, h => h
  | _ + 11, _, _, _, _, _ => trivial

set_option maxRecDepth 20000 in
set_option maxHeartbeats 2000000 in
theorem refOpen_any (k n s b : SL) (w : World) (hk : k.Ok w) (hn : n.Ok w) (hp : s.Ok w) (hb : b.Ok w) (hsl : s.len ≤ 140737488355328) :
    Calls Tryz.prog 16 #[.slice k.a k.len k.cap, .slice n.a n.len n.cap, .slice s.a s.len s.cap, .slice b.a b.len b.cap] w fun e w' => ∃ q : SL, e = .returned (.tuple #[.slice q.a q.len q.cap, .int .i64 (openE k.b n.b s.b b.b)]) ∧ q.Ok w' ∧ q.b = openO k.b n.b s.b b.b ∧ Below w.heap.size w w' := by
  have HK := veil hk
  have HN := veil hn
  have HS := veil hp
  have HB := veil hb
  clear hk hn hp hb
  refine (callsIn_wide (n := 4)).1 ?_
  refine callsIn_of_wp Tryz.func16 rfl trivial ?_ rfl
  simp only [Tryz.ntmps16, List.size_toArray, List.length_cons, List.length_nil, Nat.reduceAdd, Nat.reduceSub, Array.replicate_succ, Array.replicate_zero, List.push_toArray, List.append_toArray, List.nil_append, List.cons_append]
  by_cases h1 : k.len = 32 ∧ n.len = 12
  · have hk32 : k.b.length = 32 := by rw [HK.out.hb, h1.1]
    have hn12 : n.b.length = 12 := by rw [HN.out.hb, h1.2]
    obtain ⟨h32, h12⟩ := h1
    have d1 : ((k.len : Int) != 32) = false := by rw [h32]; rfl
    have d2 : ((n.len : Int) != 12) = false := by rw [h12]; rfl
    by_cases h16 : s.len < 16
    · obtain ⟨hE, hO⟩ := open_short (k := k.b) (n := n.b) (s := s.b) (b := b.b) ⟨hk32, hn12⟩ (by rw [HS.out.hb]; exact h16)
      have HE := veil hE
      have HO := veil hO
      clear hE hO hsl
      have d0 : decide ((s.len : Int) < 16) = true := by simp; omega
      gi_wp2_with fail
      go_ret2
      rw [HE.out, HO.out]
      exact ⟨nilR, rfl, nilR_ok _, rfl, Below.refl _ _⟩
    have d0 : decide ((s.len : Int) < 16) = false := by simp; omega
    by_cases hbig : s.len ≤ 1048592 ∧ b.len ≤ 1048576
    · have d3 : decide ((1048592 : Int) < (s.len : Int)) = false := by simp; omega
      have d4 : decide ((1048576 : Int) < (b.len : Int)) = false := by simp; omega
      have hbig' : s.b.length ≤ 1048592 ∧ b.b.length ≤ 1048576 := by rw [HS.out.hb, HB.out.hb]; exact hbig
      have h16' : ¬ s.b.length < 16 := by rw [HS.out.hb]; exact h16
      have HBIG := veil hbig'
      have H16 := veil h16'
      have HPL := veil hbig
      clear hbig' h16'
      obtain ⟨m, hm⟩ : ∃ m, s.len = m + 16 := ⟨s.len - 16, by omega⟩
      have hsa : s.a = some ⟨s.g, s.off, none⟩ := HS.out.at_ (by omega)
      have hcap := HS.out.hcap
      have hmi : (s.len : Int) - 16 = (m : Int) := by omega
      have hml : m ≤ s.len := by omega
      have hw1 : IntKind.i64.wrap (m : Int) = (m : Int) := by rw [IntKind.wrap_i64]; omega
      have HM := veil hm
      have HSL := veil hsl
      rw [hsa]
      clear hbig hsl hm h16
      gi_wp2_with fail
      have hka := refkey32_any k w HK.out h32
      rw [h32] at hka
      refine ⟨trivial, (callsIn_wide.2 hka).mono ?_⟩
      rintro e1 w1 ⟨rfl, hb1⟩
      clear hka
      have hkz : (bs k.b).size = 32 := by rw [bs_size, hk32]
      have hnz : (bs n.b).size = 12 := by rw [bs_size, hn12]
      have b2 := hb1.alloc hb1.size (.cells (bs k.b) 49)
      have r2 : Row (w1.alloc (.cells (bs k.b) 49)) w1.heap.size 49 (bs k.b) := Row.new _ _ _
      have hs1 := hb1.size
      clear hb1
      gi_wp2_with (first
        | (with_reducible (show wpListIn _ _ _ _ _ (⟨_, Op.alloc 49, _, _, _, _⟩ :: _) _ _)
           refine alloc_rowIn rfl 49 rfl (bs z32b) (by kernel_rfl) ?_)
        | (with_reducible (show wpListIn _ _ _ _ _ (⟨_, Op.store 49 _ _, _, _, _, _⟩ :: _) _ _)
           refine store_newIn (w := w1) (by rfl) 49 _ _ (by rfl) w1.heap.size (bs k.b) (by rfl) (by rfl) 49 (bs z32b) (by rfl) 32 (by kernel_rfl) (by rfl) hkz (bs_one _) ?_))
      have hna := refnonce12_any n (w1.alloc (.cells (bs k.b) 49)) (HN.out.below b2) h12
      rw [h12] at hna
      refine ⟨trivial, (callsIn_wide.2 hna).mono ?_⟩
      rintro e3 w3 ⟨rfl, hb3⟩
      clear hna
      have b3 := b2.trans (hb3.mono b2.size)
      have r3 := r2.below hb3 r2.lt
      have b4 := b3.alloc b3.size (.cells (bs n.b) 50)
      have r4 := r3.alloc (.cells (bs n.b) 50)
      have q4 : Row (w3.alloc (.cells (bs n.b) 50)) w3.heap.size 50 (bs n.b) := Row.new _ _ _
      clear b2 r2 b3 r3 hb3
      gi_wp2_with (first
        | (with_reducible (show wpListIn _ _ _ _ _ (⟨_, Op.alloc 50, _, _, _, _⟩ :: _) _ _)
           refine alloc_rowIn rfl 50 rfl (bs z12) (by kernel_rfl) ?_)
        | (with_reducible (show wpListIn _ _ _ _ _ (⟨_, Op.store 50 _ _, _, _, _, _⟩ :: _) _ _)
           refine store_newIn (w := w3) (by rfl) 50 _ _ (by rfl) w3.heap.size (bs n.b) (by rfl) (by rfl) 50 (bs z12) (by rfl) 12 (by kernel_rfl) (by rfl) hnz (bs_one _) ?_))
      obtain ⟨w4, hw4⟩ : ∃ w4, w4 = w3.alloc (.cells (bs n.b) 50) := ⟨_, rfl⟩
      rw [← hw4] at b4 r4 q4
      have eT : s.b.drop m = tagO s.b := by unfold tagO; rw [HS.out.hb, HM.out]; congr 1
      have eH : s.b.take m = hidO s.b := by unfold hidO; rw [HS.out.hb, HM.out]; congr 1
      have HET := veil eT
      have HEH := veil eH
      have hml2 := markL_length k.b n.b (hidO s.b) b.b
      obtain ⟨M, hMM⟩ : ∃ M, M = markL k.b n.b (hidO s.b) b.b := ⟨_, rfl⟩
      rw [← hMM] at hml2
      have HMM := veil hMM
      have hmz : (bs M).size = 16 := by rw [bs_size, hml2]
      have hz16 : (bs z16).size = 16 := by rw [bs_size]; rfl
      have hO4 : (SL.mk (some ⟨s.g, s.off, none⟩) m s.cap s.g s.off (hidO s.b)).Ok w4 := by
        have := (HS.out.below b4).head m hml
        rw [hsa, HEH.out] at this
        exact this
      have HO4 := veil hO4
      have hmL : m ≤ 1048576 := by have := HPL.out.1; have := HM.out; omega
      have HMLT := veil hmL
      have hs4 := b4.size
      clear hMM hO4 eT eH hmL
      refine wpIn_region_any (by kernel_rfl) ?_
      refine anyIn_store (w0 := w4) (valR k.b n.b M s m (.slice b.a b.len b.cap) w4.heap.size) valR_mono [43, 44, 45, 46, 47, 48, 49, 13] depR (by kernel_rfl) rfl (by decide) (by intro j hj; have : j < 8 := hj; simp [depR]; omega) (by kernel_rfl) (by rw [hw4]; exact (Below.refl _ _).drew)
        (fun x U => Below w4.heap.size w4 U ∧ ∃ g, x 7 = .pointer (some ⟨g, 0, none⟩) ∧ w4.heap.size ≤ g ∧ Row U g 55 (bs M)) ?step ?last ?done
      case step =>
        intro x W i d hW hdi hdep
        match i, hdi, hdep with
        | 0, hdi, _ =>
          obtain rfl := Option.some.inj hdi
          exact OI_value rfl rfl (about_none (by intro c h; cases h)) (by intro c h; cases h) (.agg (bs k.b)) W (run_load_row 49 _ rfl w1.heap.size (by kernel_rfl) _ _ 32 5 Tryz.underlying49 (by kernel_rfl) hkz W (r4.below hW r4.lt)) ⟨_, rfl, Below.refl _ _, rfl⟩
        | 1, hdi, _ =>
          obtain rfl := Option.some.inj hdi
          exact OI_value rfl rfl (about_none (by intro c h; cases h)) (by intro c h; cases h) (.agg (bs n.b)) W (run_load_row 50 _ rfl w3.heap.size (by kernel_rfl) _ _ 12 5 Tryz.underlying50 (by kernel_rfl) hnz W (q4.below hW q4.lt)) ⟨_, rfl, Below.refl _ _, rfl⟩
        | 2, hdi, _ =>
          obtain rfl := Option.some.inj hdi
          exact OI_value rfl rfl (about_none (by intro c h; cases h)) (by intro c h; cases h) (.slice (some ⟨s.g, s.off, none⟩) s.len s.cap) W (by kernel_rfl) ⟨_, rfl, Below.refl _ _, rfl⟩
        | 3, hdi, _ =>
          obtain rfl := Option.some.inj hdi
          exact OI_value rfl rfl (about_none (by intro c h; cases h)) (by intro c h; cases h) (.int .i64 (m : Int)) W (by kernel_rfl) ⟨_, rfl, Below.refl _ _, rfl⟩
        | 4, hdi, hdep =>
          obtain rfl := Option.some.inj hdi
          rw [updV_self (show x 2 = _ from hdep 2 (by simp [depR])), updV_self (show updV x 2 _ 3 = _ from hdep 3 (by simp [depR]))]
          exact OI_value rfl rfl (about_none (by intro c h; cases h)) (by intro c h; cases h) _ W (run_cut_hi6 22 5 _ _ ⟨s.g, s.off, none⟩ s.len s.cap m rfl (by kernel_rfl) (by kernel_rfl) Tryz.underlying22 (by kernel_rfl) (by omega) W) ⟨_, rfl, Below.refl _ _, rfl⟩
        | 5, hdi, _ =>
          obtain rfl := Option.some.inj hdi
          exact OI_value rfl rfl (about_none (by intro c h; cases h)) (by intro c h; cases h) (.slice b.a b.len b.cap) W (by kernel_rfl) ⟨_, rfl, Below.refl _ _, rfl⟩
        | 6, hdi, hdep =>
          obtain rfl := Option.some.inj hdi
          rw [updV_self (show x 0 = _ from hdep 0 (by simp [depR])), updV_self (show updV x 0 _ 1 = _ from hdep 1 (by simp [depR])), updV_self (show updV (updV x 0 _) 1 _ 4 = _ from hdep 4 (by simp [depR])), updV_self (show updV (updV (updV x 0 _) 1 _) 4 _ 5 = _ from hdep 5 (by simp [depR]))]
          refine OI_call rfl rfl (by intro c h; cases h) 23 #[.agg (bs k.b), .agg (bs n.b), .slice (some ⟨s.g, s.off, none⟩) m s.cap, .slice b.a b.len b.cap] (fun _ _ => trivial) (by kernel_rfl) (by decide) ?_
          refine (callsIn_wide.2 (refSum_any k.b n.b hk32 hn12 ⟨some ⟨s.g, s.off, none⟩, m, s.cap, s.g, s.off, hidO s.b⟩ b W (HO4.out.below hW) ((HB.out.below b4).below hW) HMLT.out HPL.out.2)).mono ?_
          rintro e w' ⟨rfl, hb'⟩
          refine ⟨_, rfl, _, rfl, hb', ?_⟩
          show _ = _
          rw [HMM.out]
        | 7, hdi, _ =>
          obtain rfl := Option.some.inj hdi
          exact OI_value rfl rfl (about_none (by intro c h; cases h)) (by intro c h; cases h) (.pointer (some ⟨W.heap.size, 0, none⟩)) (W.alloc (.cells (bs z16) 55)) (exec_alloc_row 55 rfl (bs z16) (by kernel_rfl)) ⟨_, rfl, (Below.refl _ W).alloc (Nat.le_refl _) _, ⟨_, rfl, hW.size, Row.new _ _ _⟩⟩
        | _ + 8, hdi, _ => simp at hdi
      case last =>
        intro x U hU hx
        have e6 : x 6 = .agg (bs M) := hx 6 (by decide)
        obtain ⟨g, e7, hg, rg⟩ := hx 7 (by decide)
        rw [updV_self e6, updV_self (show updV x 6 _ 7 = _ from e7)]
        refine OI_skip rfl rfl (about_none (by intro c h; cases h)) (by intro c h; cases h) (U.setRow g (bs M)) (run_store_row 55 _ _ rfl g (bs M) (by kernel_rfl) (by kernel_rfl) _ _ rg 16 (by kernel_rfl) hz16 hmz (bs_one _)) ?_
        exact ⟨by kernel_rfl, bSetRow hU hg _, g, by kernel_rfl, hg, rg.put _⟩
      case done =>
        rintro x U ⟨hU, g, e7, hg, rg⟩
        simp only [putsV, Act.put, List.setIfInBounds_toArray, List.set_cons_succ, List.set_cons_zero, Nat.reduceAdd, e7]
        generalize x 0 = y0, x 1 = y1, x 2 = y2, x 3 = y3, x 4 = y4, x 5 = y5, x 6 = y6
        have b5 := b4.trans (hU.mono hs4)
        have r5 := r4.below hU r4.lt
        have q5 := q4.below hU q4.lt
        have hlr := r4.lt
        have hlq := q4.lt
        clear hU e7 hw4
        gi_wp2_with fail
        have HR5 := veil r5
        have HQ5 := veil q5
        have HRG := veil rg
        have HB5 := veil b5
        have hs5 := b5.size
        have hgt := rg.lt
        have hbr := HR5.out.lt
        have hbq := HQ5.out.lt
        clear r5 q5 rg b5
        gi_loopw [14] (fun iv wr => ∃ i : Nat, i ≤ 16 ∧ iv = .int .i64 i ∧ Hid (∀ j, j < i → gb M j = gb s.b (m + j)) ∧ Below U.heap.size U wr)
          (fun iv _ => 16 - (intOf iv).toNat)
        case atStart => exact ⟨0, by omega, rfl, (fun j hj => by omega), Below.refl _ _⟩
        case round =>
          obtain ⟨i, hi16, rfl, HD, hbel⟩ := hrel
          by_cases hlt : i < 16
          · have hdk : decide ((i : Int) < 16) = true := by simp; omega
            gi_wp2_with fail
            refine wpIn_region_any (by kernel_rfl) ?_
            refine anyIn_vals2 (w0 := wr) (valL s m i g (gb M i) (gb s.b (m + i))) [54, 55, 56, 57, 58, 59, 60, 61, 62, 63] depL (by kernel_rfl) rfl (by decide) ((Below.refl _ _).drew) ?step3 ?done3
            case step3 =>
              intro x W ii d hW hdi hdep
              have rW := (HRG.out.below hbel hgt).below hW (Nat.lt_of_lt_of_le hgt hbel.size)
              have okW := ((HS.out.below HB5.out).below hbel).below hW
              match ii, hdi, hdep with
              | 0, hdi, _ =>
                obtain rfl := Option.some.inj hdi
                exact OI_value rfl rfl (about_none (by intro c h; cases h)) (by intro c h; cases h) (.int .i64 (i : Int)) W (by kernel_rfl) ⟨rfl, Below.refl _ _⟩
              | 1, hdi, hdep =>
                obtain rfl := Option.some.inj hdi
                rw [updV_self (hdep 0 (by simp [depL]))]
                exact OI_value rfl rfl (about_none (by intro c h; cases h)) (by intro c h; cases h) _ W (run_addr 55 5 16 _ _ g i rfl (by kernel_rfl) (by kernel_rfl) Tryz.underlying55 (by kernel_rfl) hlt W) ⟨rfl, Below.refl _ _⟩
              | 2, hdi, hdep =>
                obtain rfl := Option.some.inj hdi
                rw [updV_self (hdep 1 (by simp [depL]))]
                exact OI_value rfl rfl (about_none (by intro c h; cases h)) (by intro c h; cases h) _ W (run_cell 5 _ ⟨g, i, none⟩ _ _ rfl (by kernel_rfl) Tryz.underlying5 rfl W (rW.cellB (j := i) (by rw [hml2]; exact hlt))) ⟨rfl, Below.refl _ _⟩
              | 3, hdi, _ =>
                obtain rfl := Option.some.inj hdi
                exact OI_value rfl rfl (about_none (by intro c h; cases h)) (by intro c h; cases h) (.slice (some ⟨s.g, s.off, none⟩) s.len s.cap) W (by kernel_rfl) ⟨rfl, Below.refl _ _⟩
              | 4, hdi, _ =>
                obtain rfl := Option.some.inj hdi
                exact OI_value rfl rfl (about_none (by intro c h; cases h)) (by intro c h; cases h) (.int .i64 (m : Int)) W (by kernel_rfl) ⟨rfl, Below.refl _ _⟩
              | 5, hdi, _ =>
                obtain rfl := Option.some.inj hdi
                exact OI_value rfl rfl (about_none (by intro c h; cases h)) (by intro c h; cases h) (.int .i64 (i : Int)) W (by kernel_rfl) ⟨rfl, Below.refl _ _⟩
              | 6, hdi, hdep =>
                obtain rfl := Option.some.inj hdi
                rw [updV_self (hdep 4 (by simp [depL])), updV_self (show updV x 4 _ 5 = _ from hdep 5 (by simp [depL]))]
                exact OI_value rfl rfl (about_none (by intro c h; cases h)) (by intro c h; cases h) _ W (run_addN _ _ _ _ m i (by have := HMLT.out; omega) rfl (by kernel_rfl) (by kernel_rfl) W) ⟨rfl, Below.refl _ _⟩
              | 7, hdi, hdep =>
                obtain rfl := Option.some.inj hdi
                rw [updV_self (hdep 3 (by simp [depL])), updV_self (show updV x 3 _ 6 = _ from hdep 6 (by simp [depL]))]
                exact OI_value rfl rfl (about_none (by intro c h; cases h)) (by intro c h; cases h) _ W (run_at6 22 5 _ _ s.g s.off s.len s.cap (m + i) rfl (by kernel_rfl) (by kernel_rfl) Tryz.underlying22 (by kernel_rfl) (by have := HM.out; omega) W) ⟨rfl, Below.refl _ _⟩
              | 8, hdi, hdep =>
                obtain rfl := Option.some.inj hdi
                rw [updV_self (hdep 7 (by simp [depL]))]
                exact OI_value rfl rfl (about_none (by intro c h; cases h)) (by intro c h; cases h) _ W (run_cell 5 _ ⟨s.g, s.off + (m + i), none⟩ _ _ rfl (by kernel_rfl) Tryz.underlying5 rfl W (okW.cell (m + i) (by have := HM.out; omega))) ⟨rfl, Below.refl _ _⟩
              | 9, hdi, hdep =>
                obtain rfl := Option.some.inj hdi
                rw [updV_self (hdep 2 (by simp [depL])), updV_self (show updV x 2 _ 8 = _ from hdep 8 (by simp [depL]))]
                exact OI_value rfl rfl (about_none (by intro c h; cases h)) (by intro c h; cases h) _ W (run_neq8 _ _ _ _ (gb M i) (gb s.b (m + i)) rfl (by kernel_rfl) (by kernel_rfl) W) ⟨rfl, Below.refl _ _⟩
              | _ + 10, hdi, _ => simp at hdi
            case done3 =>
              intro W hW
              have bW := hbel.trans (hW.mono hbel.size)
              simp only [putsV, valL, Act.put, List.setIfInBounds_toArray, List.set_cons_succ, List.set_cons_zero, Nat.reduceAdd]
              by_cases heq : gb M i = gb s.b (m + i)
              · have dn : (v8 (gb M i) != v8 (gb s.b (m + i))) = false := by rw [heq]; simp
                rw [dn]
                gi_wp2_with fail
                go_roundw
                case rel =>
                  refine ⟨i + 1, by omega, by go_num, ?_, bW⟩
                  intro j hj
                  by_cases e : j = i
                  · rw [e]; exact heq
                  · exact HD.out j (by omega)
                case measure => simp [intOf]; omega
              · have dn : (v8 (gb M i) != v8 (gb s.b (m + i))) = true := by
                  simp only [bne_iff_ne, ne_eq]
                  intro e
                  apply heq
                  apply BitVec.eq_of_toNat_eq
                  unfold v8 at e
                  omega
                obtain ⟨hE, hO⟩ := open_tag (k := k.b) (n := n.b) (s := s.b) (b := b.b) ⟨hk32, hn12⟩ H16.out HBIG.out (by
                  rw [← HET.out, ← HMM.out]
                  intro e
                  apply heq
                  rw [← e]
                  unfold gb
                  rw [List.getElem?_drop])
                have HE := veil hE
                have HO := veil hO
                have b9 := HB5.out.trans (bW.mono hs5)
                rw [dn]
                clear hE hO dn
                gi_wp2_with fail
                go_ret2
                rw [HE.out, HO.out]
                exact ⟨nilR, rfl, nilR_ok _, rfl, b9⟩
          · have hdk : decide ((i : Int) < 16) = false := by simp; omega
            obtain rfl : i = 16 := by omega
            obtain ⟨hE, hO⟩ := open_fine (k := k.b) (n := n.b) (s := s.b) (b := b.b) ⟨hk32, hn12⟩ H16.out HBIG.out (by
              rw [← HET.out, ← HMM.out]
              apply gb_ext
              · rw [List.length_drop, HS.out.hb, HM.out, hml2]; omega
              · intro j hj
                rw [List.length_drop, HS.out.hb, HM.out] at hj
                rw [HD.out j (by omega)]
                unfold gb
                rw [List.getElem?_drop])
            have HE := veil hE
            have HO := veil hO
            have r6 := HR5.out.below hbel hbr
            have q6 := HQ5.out.below hbel hbq
            have b6 := HB5.out.trans (hbel.mono hs5)
            have ok6 : (SL.mk (some ⟨s.g, s.off, none⟩) m s.cap s.g s.off (hidO s.b)).Ok wr := by
              have := (HS.out.below b6).head m hml
              rw [hsa, HEH.out] at this
              exact this
            have HOK6 := veil ok6
            have hs6 := b6.size
            clear hE hO ok6
            gi_wp2_with fail
            refine wpIn_region_any (by kernel_rfl) ?_
            refine anyIn_gen (w0 := wr) (valX k.b n.b (xorL k.b 1 n.b (hidO s.b)) s m) valX_mono [65, 66, 67, 68, 69, 70, 64, 71, 72, 15, 16] depX (by kernel_rfl) rfl (by decide) (by kernel_rfl) ((Below.refl _ _).drew) ?step4 ?done4
            case step4 =>
              intro x W ii d hW hdi hdep
              match ii, hdi, hdep with
              | 0, hdi, _ =>
                obtain rfl := Option.some.inj hdi
                exact OI_value rfl rfl (about_none (by intro c h; cases h)) (by intro c h; cases h) (.agg (bs k.b)) W (run_load_row 49 _ rfl w1.heap.size (by kernel_rfl) _ _ 32 5 Tryz.underlying49 (by kernel_rfl) hkz W (r6.below hW r6.lt)) ⟨_, rfl, Below.refl _ _, rfl⟩
              | 1, hdi, _ =>
                obtain rfl := Option.some.inj hdi
                exact OI_value rfl rfl (about_none (by intro c h; cases h)) (by intro c h; cases h) (.agg (bs n.b)) W (run_load_row 50 _ rfl w3.heap.size (by kernel_rfl) _ _ 12 5 Tryz.underlying50 (by kernel_rfl) hnz W (q6.below hW q6.lt)) ⟨_, rfl, Below.refl _ _, rfl⟩
              | 2, hdi, _ =>
                obtain rfl := Option.some.inj hdi
                exact OI_value rfl rfl (about_none (by intro c h; cases h)) (by intro c h; cases h) (.slice (some ⟨s.g, s.off, none⟩) s.len s.cap) W (by kernel_rfl) ⟨_, rfl, Below.refl _ _, rfl⟩
              | 3, hdi, _ =>
                obtain rfl := Option.some.inj hdi
                exact OI_value rfl rfl (about_none (by intro c h; cases h)) (by intro c h; cases h) (.int .i64 (m : Int)) W (by kernel_rfl) ⟨_, rfl, Below.refl _ _, rfl⟩
              | 4, hdi, hdep =>
                obtain rfl := Option.some.inj hdi
                rw [updV_self (show x 2 = _ from hdep 2 (by simp [depX])), updV_self (show updV x 2 _ 3 = _ from hdep 3 (by simp [depX]))]
                exact OI_value rfl rfl (about_none (by intro c h; cases h)) (by intro c h; cases h) _ W (run_cut_hi6 22 5 _ _ ⟨s.g, s.off, none⟩ s.len s.cap m rfl (by kernel_rfl) (by kernel_rfl) Tryz.underlying22 (by kernel_rfl) (by omega) W) ⟨_, rfl, Below.refl _ _, rfl⟩
              | 5, hdi, hdep =>
                obtain rfl := Option.some.inj hdi
                rw [updV_self (show x 0 = _ from hdep 0 (by simp [depX])), updV_self (show updV x 0 _ 1 = _ from hdep 1 (by simp [depX])), updV_self (show updV (updV x 0 _) 1 _ 4 = _ from hdep 4 (by simp [depX]))]
                refine OI_call rfl rfl (by intro c h; cases h) 22 #[.agg (bs k.b), .int .u32 1, .agg (bs n.b), .slice (some ⟨s.g, s.off, none⟩) m s.cap] (fun _ _ => trivial) (by kernel_rfl) (by decide) ?_
                refine (callsIn_wide.2 (refXor_ok k.b 1 n.b hk32 hn12 ⟨some ⟨s.g, s.off, none⟩, m, s.cap, s.g, s.off, hidO s.b⟩ W (HOK6.out.below hW) (by unfold Great; rw [u_one]; have := HMLT.out; show ¬ (1048576 < m ∨ (4294967296 : Int) - 1 < (((m + 63) / 64 : Nat) : Int)); omega))).mono ?_
                rintro e w' ⟨v, rfl, hown, hb'⟩
                obtain ⟨q, hv, _, hqb, hqok⟩ := own_slR hown
                exact ⟨_, rfl, _, rfl, hb', ⟨q, by rw [hv], hqok, hqb⟩⟩
              | 6, hdi, hdep =>
                obtain rfl := Option.some.inj hdi
                obtain ⟨q, e5, h1, h2⟩ := hdep 5 (by simp [depX])
                rw [updV_self (show x 5 = _ from e5)]
                exact OI_value rfl rfl (about_none (by intro c h; cases h)) (by intro c h; cases h) _ W (by kernel_rfl) ⟨_, rfl, Below.refl _ _, ⟨q, rfl, h1, h2⟩⟩
              | 7, hdi, hdep =>
                obtain rfl := Option.some.inj hdi
                obtain ⟨q, e5, h1, h2⟩ := hdep 6 (by simp [depX])
                rw [updV_self (show x 6 = _ from e5)]
                exact OI_value rfl rfl (about_none (by intro c h; cases h)) (by intro c h; cases h) (.slice q.a q.len q.cap) W (by kernel_rfl) ⟨_, rfl, Below.refl _ _, ⟨q, rfl, h1, h2⟩⟩
              | 8, hdi, hdep =>
                obtain rfl := Option.some.inj hdi
                obtain ⟨q, e5, h1, h2⟩ := hdep 6 (by simp [depX])
                rw [updV_self (show x 6 = _ from e5)]
                exact OI_value rfl rfl (about_none (by intro c h; cases h)) (by intro c h; cases h) (.int .i64 0) W (by kernel_rfl) ⟨_, rfl, Below.refl _ _, rfl⟩
              | 9, hdi, hdep =>
                obtain rfl := Option.some.inj hdi
                obtain ⟨q, e5, h1, h2⟩ := hdep 7 (by simp [depX])
                rw [updV_self (show x 7 = _ from e5)]
                exact OI_value rfl rfl (about_none (by intro c h; cases h)) (by intro c h; cases h) (.slice q.a q.len q.cap) W (by kernel_rfl) ⟨_, rfl, Below.refl _ _, ⟨q, rfl, h1, h2⟩⟩
              | 10, hdi, hdep =>
                obtain rfl := Option.some.inj hdi
                rw [updV_self (show x 8 = _ from hdep 8 (by simp [depX]))]
                exact OI_value rfl rfl (about_none (by intro c h; cases h)) (by intro c h; cases h) (.int .i64 0) W (by kernel_rfl) ⟨_, rfl, Below.refl _ _, rfl⟩
              | _ + 11, hdi, _ => simp at hdi
            case done4 =>
              intro x W hW hx
              obtain ⟨q, e9, h1, h2⟩ := hx 9 (by decide)
              have b7 := b6.trans (hW.mono hs6)
              simp only [putsV, Act.put, List.setIfInBounds_toArray, List.set_cons_succ, List.set_cons_zero, Nat.reduceAdd, e9]
              generalize x 0 = z0, x 1 = z1, x 2 = z2, x 3 = z3, x 4 = z4, x 5 = z5, x 6 = z6, x 7 = z7, x 8 = z8, x 10 = z10
              clear hx e9
              gi_wp2_with fail
              go_ret2
              rw [HE.out, HO.out]
              exact ⟨q, rfl, h1, h2, b7⟩
    · obtain ⟨hE, hO⟩ := open_limit (k := k.b) (n := n.b) (s := s.b) (b := b.b) ⟨hk32, hn12⟩ (by rw [HS.out.hb]; exact h16) (by rw [HS.out.hb, HB.out.hb]; exact hbig)
      have HE := veil hE
      have HO := veil hO
      clear hE hO hsl
      by_cases h1 : s.len ≤ 1048592
      · have d3 : decide ((1048592 : Int) < (s.len : Int)) = false := by simp; omega
        have d4 : decide ((1048576 : Int) < (b.len : Int)) = true := by simp; omega
        gi_wp2_with fail
        go_ret2
        rw [HE.out, HO.out]
        exact ⟨nilR, rfl, nilR_ok _, rfl, Below.refl _ _⟩
      · have d3 : decide ((1048592 : Int) < (s.len : Int)) = true := by simp; omega
        gi_wp2_with fail
        go_ret2
        rw [HE.out, HO.out]
        exact ⟨nilR, rfl, nilR_ok _, rfl, Below.refl _ _⟩
  · obtain ⟨hE, hO⟩ := open_arg (k := k.b) (n := n.b) (s := s.b) (b := b.b) (by rw [HK.out.hb, HN.out.hb]; exact h1)
    have HE := veil hE
    have HO := veil hO
    clear hE hO hsl
    by_cases h2 : k.len = 32
    · have d1 : ((k.len : Int) != 32) = false := by rw [h2]; rfl
      have d2 : ((n.len : Int) != 12) = true := by simp; omega
      gi_wp2_with fail
      go_ret2
      rw [HE.out, HO.out]
      exact ⟨nilR, rfl, nilR_ok _, rfl, Below.refl _ _⟩
    · have d1 : ((k.len : Int) != 32) = true := by simp; omega
      gi_wp2_with fail
      go_ret2
      rw [HE.out, HO.out]
      exact ⟨nilR, rfl, nilR_ok _, rfl, Below.refl _ _⟩
end Go.Proofs.YtffokggejbmadaaGreatDoor
