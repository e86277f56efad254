/-
  Written by mklglose.py: what is lost now.
-/
import Derived.Test.YtohoieleakieeaaGreatDoorGlLgTake
import Derived.Test.YtohoieleakieeaaGreatDoorGl9
namespace Go.Proofs.YtohoieleakieeaaGreatDoor
open Go Go.RowKit Go.Shelf
attribute [local go_sem] Oper.semAt_some

def lostX (m : ML) (p : Lg.Pk) : Bool := decide (p.num < m.front) && lateX m p
def lostM (m : ML) : ML := { m with way := m.way.filter (fun p => !lostX m p), ask := Lg.asum (m.way.filter (fun p => !lostX m p)) }
def loseM (m : ML) : ML := if (m.way.filter (lostX m)).any (countsB m) then shrinkM (lostM m) else lostM m
def encPk (p : Lg.Pk) : Array Value := #[.agg (pkC p)]
def StepT (T : List Lg.Pk) (s : Nat) (x : Lg.Pk) (s' : Nat) : Prop := T[s]? = some x ∧ s' = s + 1
def EndT (g : Nat) (v : Value) (T : List Lg.Pk) (m1 : ML) (s : Nat) (W : World) : Prop := s = T.length ∧ ∃ v', LdOk W g v' m1 ∧ v'.ownBlock = v.ownBlock
/-- What is left at the end. -/
theorem lose_fin {w W W7 : World} {g D n : Nat} {v v' u : Value} {m1 : ML} {xs : List Value} (h : LdOk W g v' m1) (hv : ∀ k, v'.ownBlock = some k → k < w.heap.size) (hk : KeepL g v w W) (ho : W7.ownsRow W.heap.size 23 1 u n xs) (hb : Below W.heap.size W W7) (hg : g < w.heap.size) (hD : w.heap.size ≤ D) (hDW : D < W.heap.size) :
    (W7.putObj D (.deferred none)).ownsRow w.heap.size 23 1 u n xs ∧ LdOk (W7.putObj D (.deferred none)) g v' m1 ∧ KeepL g v w (W7.putObj D (.deferred none)) := by
  have hp : ∀ k, k ≠ D → (W7.putObj D (.deferred none)).heap[k]? = W7.heap[k]? := fun k q => World.putObj_heap_other q
  refine ⟨?_, ?_, ?_⟩
  · refine own_low2 (B := W.heap.size) ?_ hk.size
    obtain ⟨h1, h2⟩ := ho
    refine ⟨h1, ?_⟩
    rcases h2 with h2 | ⟨g', c, cur, h3, h4, h5, h6⟩
    · exact .inl h2
    · exact .inr ⟨g', c, cur, h3, h4, (hp g' (by omega)).trans h5, h6⟩
  · exact (h.below hb).same (hp g (by omega)) (fun k q => hp k (by have := hv k q; omega))
  · have hk2 : KeepL g v w W7 := hk.trans (KeepP.of_below hb)
    exact ⟨hk2.os, hk2.tape, hk2.output, by rw [World.putObj_size]; exact hk2.size, fun k hk3 hn => (hp k (by omega)).trans (hk2.block k hk3 hn)⟩
theorem EndT.keep {g : Nat} {v : Value} {T : List Lg.Pk} {m1 : ML} {s z : Nat} {A B : World} (h : EndT g v T m1 s A) (hg : g < z) (hv : ∀ k, v.ownBlock = some k → k < z) (k : KeepP (fun k => k = z + 1) A B) : EndT g v T m1 s B := by
  obtain ⟨h1, v', h2, h3⟩ := h
  exact ⟨h1, v', h2.same (k.block _ h2.lt (by omega)) (fun q hq => k.block q (h2.way.lt q hq) (by rw [h3] at hq; have := hv q hq; omega)), h3⟩
def depLo : Nat → List Nat
  | 0 => []
  | 1 => []
  | 2 => [1]
  | 3 => [2]
  | 4 => [3]
  | 5 => []
  | 6 => [0, 4, 5]
  | _ => []
def dclLo : Nat → List Nat
  | 2 => [1]
  | 3 => [1, 2]
  | 4 => [1, 2, 3]
  | 6 => [0, 1, 2, 3, 4, 5]
  | _ => []
def valLo (g : Nat) (m : ML) (fv : Value) : Nat → Value
  | 0 => .pointer (some ⟨g, 0, none⟩)
  | 1 => .pointer (some ⟨g, 0, none⟩)
  | 2 => .pointer (some ⟨g, 0, none⟩)
  | 3 => .pointer (some ⟨g, 5, none⟩)
  | 4 => .int .u64 (m.front : Int)
  | 5 => fv
  | _ => undef
def RLo (W0 W1 : World) (r : Value) : Nat → World → Value → Prop
  | 0, W, _ => W = W0
  | _, W, u => W = W1 ∧ u = r
theorem RLo.zero {W0 W1 : World} {r : Value} {k : Nat} {W : World} {u : Value} (h : RLo W0 W1 r k W u) (hk : k ≤ 0) : W = W0 := by
  obtain rfl : k = 0 := by omega
  exact h
set_option maxRecDepth 20000 in
set_option maxHeartbeats 2000000 in
theorem lose_any (g : Nat) (v : Value) (m : ML) (w : World) (h : LdOk w g v m) (hm : Fits m) :
    Calls Tryz.prog 33 #[.pointer (some ⟨g, 0, none⟩)] w fun e w' => ∃ u v', e = .returned u ∧ w'.ownsRow w.heap.size 23 1 u (m.way.filter (lostX m)).length (vnum ((m.way.filter (lostX m)).map (·.num))) ∧ LdOk w' g v' (loseM m) ∧ KeepL g v w w' ∧ v'.ownBlock = v.ownBlock := by
  have hg := h.lt
  have hvl := h.way.lt
  obtain ⟨w0, hw0⟩ : ∃ w0, w0 = w.alloc (.cells #[.pointer (some ⟨g, 0, none⟩)] 28) := ⟨_, rfl⟩
  have hb0 : Below w.heap.size w w0 := by rw [hw0]; exact (Below.refl _ w).alloc (Nat.le_refl _) _
  have hz0 : w0.heap.size = w.heap.size + 1 := by rw [hw0]; simp
  have rl0 : Row w0 w.heap.size 28 #[.pointer (some ⟨g, 0, none⟩)] := by rw [hw0]; exact Row.new _ _ _
  have h0 := h.below hb0
  have kl := rl0.cell 0
  have kl0 : w0.cell? ⟨w.heap.size, 0, none⟩ = some (.pointer (some ⟨g, 0, none⟩)) := kl
  obtain ⟨c0, c1, c2, c3, c4, c5, c6, c7, c8, c9, c10, c11, c12, c13, c14, f⟩ := h0.cells
  have PC := veil (patience_any m.lat m.smo m.var m.lea w0 hm.lat hm.smo)
  unfold tmC at PC
  have hpt : patN m.lat m.smo ≤ 2000000000000 := by have := hm.lat; have := hm.smo; unfold patN; omega
  obtain ⟨pt, hpe⟩ : ∃ pt, patN m.lat m.smo = pt := ⟨_, rfl⟩
  rw [hpe] at PC hpt
  have HPE := veil hpe
  have HPT := veil hpt
  have H0 := veil h0
  have HM := veil hm
  have HB0 := veil hb0
  have HZ0 := veil hz0
  have RL0 := veil rl0
  have HG := veil hg
  have HVL := veil hvl
  clear kl c0 c1 c2 c3 c4 c5 c10 c11 c12 c13 c14 f hpe hpt hm hb0 rl0 h hg hvl h0
  refine (callsIn_wide (n := 5)).1 ?_
  refine callsIn_of_wp_marks Tryz.func33 rfl trivial ?_ rfl
  simp only [Tryz.ntmps33, List.size_toArray, List.length_cons, List.length_nil, Nat.reduceAdd, Nat.reduceSub, Array.replicate_succ, Array.replicate_zero, List.push_toArray, List.append_toArray, List.nil_append, List.cons_append]
  subst hw0
  gi_wp2_with fail
  refine ⟨trivial, (callsIn_wide.2 PC.out).mono ?_⟩
  rintro e1 w1 ⟨rfl, hb1⟩
  rw [HZ0.out] at hb1
  have hs1 := hb1.size
  have b1 := HB0.out.trans (hb1.mono (by omega))
  have h1 := H0.out.below (hb1.mono (by rw [HZ0.out]; exact Nat.le_refl _))
  have r1 := RL0.out.below hb1 (by omega)
  clear hb1 kl0 c6 c7 c8 c9 hz0
  gi_wp2_with fail
  have r2 : Row (w1.alloc (.cells #[.int .u64 (pt : Int)] 23)) w1.heap.size 23 #[.int .u64 (pt : Int)] := Row.new _ _ _
  have b3 : Below w1.heap.size w1 ((w1.alloc (.cells #[.int .u64 (pt : Int)] 23)).alloc (.cells #[.slice none 0 0] 68)) := ((Below.refl _ w1).alloc (Nat.le_refl _) _).alloc (by simp) _
  have r3 : Row ((w1.alloc (.cells #[.int .u64 (pt : Int)] 23)).alloc (.cells #[.slice none 0 0] 68)) w1.heap.size 23 #[.int .u64 (pt : Int)] := r2.alloc _
  have r4 : Row ((w1.alloc (.cells #[.int .u64 (pt : Int)] 23)).alloc (.cells #[.slice none 0 0] 68)) (w1.heap.size + 1) 68 #[.slice none 0 0] := Row.new1 _ _ _ _
  have hz3 : ((w1.alloc (.cells #[.int .u64 (pt : Int)] 23)).alloc (.cells #[.slice none 0 0] 68)).heap.size = w1.heap.size + 2 := by simp
  have hz3' : (w1.alloc (.cells #[.int .u64 (pt : Int)] 23)).heap.size = w1.heap.size + 1 := by simp
  generalize (w1.alloc (.cells #[.int .u64 (pt : Int)] 23)).alloc (.cells #[.slice none 0 0] 68) = w3 at *
  have h3 := h1.below b3
  have rl3 := r1.below b3 r1.lt
  have b03 : Below w.heap.size w w3 := b1.trans (b3.mono b1.size)
  have q1 : w3.drew.cell? ⟨w.heap.size, 0, none⟩ = some (.pointer (some ⟨g, 0, none⟩)) := rl3.cell 0
  have q5 : w3.drew.cell? ⟨g, 5, none⟩ = some (.int .u64 (m.front : Int)) := h3.cells.c5
  have H3 := veil h3
  have RL3 := veil rl3
  have R3 := veil r3
  have R4 := veil r4
  have B03 := veil b03
  have HZ3 := veil hz3
  have HS1 := veil (show w.heap.size + 1 ≤ w1.heap.size by have := HZ0.out; omega)
  clear h1 r1 r2 b3 r3 r4 hz3 hz3' h3 rl3 b03 b1 hs1 H0 RL0 HB0 HZ0
  refine wpIn_region_any (by kernel_rfl) ?_
  refine anyIn_spine (valLo g m (.func (.func 93) #[] #[.pointer (some ⟨w.heap.size, 0, none⟩), .pointer (some ⟨w1.heap.size, 0, none⟩)])) (RLo w3.drew (outW w3.drew g m.front (.func (.func 93) #[] #[.pointer (some ⟨w.heap.size, 0, none⟩), .pointer (some ⟨w1.heap.size, 0, none⟩)])) (.func (.func 87) #[] #[.pointer (some ⟨w3.drew.heap.size, 0, none⟩), .pointer (some ⟨w3.drew.heap.size + 1, 0, none⟩), .pointer (some ⟨w3.drew.heap.size + 2, 0, none⟩)])) undef [6] [13, 14, 15, 16, 17, 18, 19] depLo dclLo (by kernel_rfl) (by decide) rfl (by decide) (by decide) ?ord (by decide) ?h0 ?fix ?cal ?don
  case ord =>
    intro k i j h1 h2
    match k, h1, h2 with
    | 0, _, h2 => simp at h2
    | _ + 1, h1, _ => simp at h1
  case fix =>
    intro x W4 m2 ii d u hR hdi hni hdep hlo hhi
    match ii, hdi, hni, hdep, hhi with
    | 0, hdi, _, _, hhi =>
      obtain rfl := Option.some.inj hdi
      exact OI_value rfl rfl (about_none (by intro c h; cases h)) (by intro c h; cases h) (.pointer (some ⟨g, 0, none⟩)) W4 (lgRun_cell 28 _ ⟨w.heap.size, 0, none⟩ _ _ rfl (by kernel_rfl) Tryz.underlying28 rfl _ (by rw [hR.zero (hhi 0 6 rfl (by decide))]; exact q1)) ⟨rfl, rfl⟩
    | 1, hdi, _, _, hhi =>
      obtain rfl := Option.some.inj hdi
      exact OI_value rfl rfl (about_none (by intro c h; cases h)) (by intro c h; cases h) (.pointer (some ⟨g, 0, none⟩)) W4 (lgRun_cell 28 _ ⟨w.heap.size, 0, none⟩ _ _ rfl (by kernel_rfl) Tryz.underlying28 rfl _ (by rw [hR.zero (hhi 0 6 rfl (by decide))]; exact q1)) ⟨rfl, rfl⟩
    | 2, hdi, _, hdep, _ =>
      obtain rfl := Option.some.inj hdi
      rw [updV_self (show x 1 = _ from hdep 1 (by simp [depLo]) (by decide))]
      exact OI_value rfl rfl (about_none (by intro c h; cases h)) (by intro c h; cases h) (.pointer (some ⟨g, 0, none⟩)) W4 (by kernel_rfl) ⟨rfl, rfl⟩
    | 3, hdi, _, hdep, _ =>
      obtain rfl := Option.some.inj hdi
      rw [updV_self (show x 2 = _ from hdep 2 (by simp [depLo]) (by decide))]
      exact OI_value rfl rfl (about_none (by intro c h; cases h)) (by intro c h; cases h) (.pointer (some ⟨g, 5, none⟩)) W4 (by kernel_rfl) ⟨rfl, rfl⟩
    | 4, hdi, _, hdep, hhi =>
      obtain rfl := Option.some.inj hdi
      rw [updV_self (show x 3 = _ from hdep 3 (by simp [depLo]) (by decide))]
      exact OI_value rfl rfl (about_none (by intro c h; cases h)) (by intro c h; cases h) (.int .u64 (m.front : Int)) W4 (lgRun_cell 23 _ ⟨g, 5, none⟩ _ _ rfl (by kernel_rfl) Tryz.underlying23 rfl _ (by rw [hR.zero (hhi 0 6 rfl (by decide))]; exact q5)) ⟨rfl, rfl⟩
    | 5, hdi, _, _, _ =>
      obtain rfl := Option.some.inj hdi
      exact OI_value rfl rfl (about_none (by intro c h; cases h)) (by intro c h; cases h) (.func (.func 93) #[] #[.pointer (some ⟨w.heap.size, 0, none⟩), .pointer (some ⟨w1.heap.size, 0, none⟩)]) W4 (by kernel_rfl) ⟨rfl, rfl⟩
    | 6, _, hni, _, _ => exact absurd (by decide) hni
    | _ + 7, hdi, _, _, _ => simp at hdi
  case cal =>
    intro x W4 k2 ii d u hR hk hdi hdep hu0 hup
    match k2, hk, hR, hu0, hup with
    | 0, hk, hR, hu0, hup =>
      obtain rfl := Option.some.inj hk
      obtain rfl := Option.some.inj hdi
      obtain rfl : W4 = w3.drew := hR
      rw [updV_self (show x 0 = _ from hdep 0 (by simp [depLo]) (by decide)), updV_self (show (updV x 0 _) 4 = _ from hdep 4 (by simp [depLo]) (by decide)), updV_self (show (updV (updV x 0 _) 4 _) 5 = _ from hdep 5 (by simp [depLo]) (by decide))]
      refine OI_call rfl rfl (by intro c h; cases h) 28 #[.pointer (some ⟨g, 0, none⟩), .int .u64 (m.front : Int), .func (.func 93) #[] #[.pointer (some ⟨w.heap.size, 0, none⟩), .pointer (some ⟨w1.heap.size, 0, none⟩)]] (fun _ _ => trivial) (by kernel_rfl) (by decide) ?_
      refine (callsIn_wide.2 (takeOut_in g m.front 93 _ _)).mono ?_
      rintro r9 w9 ⟨rfl, rfl⟩
      exact ⟨_, rfl, _, rfl, rfl, rfl⟩
    | _ + 1, hk, _, _, _ => simp at hk
  case h0 => exact rfl
  case don =>
    intro x W4 u hR _ hup
    obtain ⟨rfl, hu⟩ := hR
    have h6 : x 6 = _ := (hup 0 6 rfl rfl).trans hu
    simp only [putsV, Act.put, List.setIfInBounds_toArray, List.set_cons_succ, List.set_cons_zero, Nat.reduceAdd, h6]
    generalize x 0 = z0, x 1 = z1, x 2 = z2, x 3 = z3, x 4 = z4, x 5 = z5
    clear h6 hu hup
    gi_wp2_with fail
    have hzd : w3.drew.heap.size = w1.heap.size + 2 := HZ3.out
    have hbw := outW_below w3.drew g m.front (.func (.func 93) #[] #[.pointer (some ⟨w.heap.size, 0, none⟩), .pointer (some ⟨w1.heap.size, 0, none⟩)])
    have htk := outW_tk w3.drew g m.front (.func (.func 93) #[] #[.pointer (some ⟨w.heap.size, 0, none⟩), .pointer (some ⟨w1.heap.size, 0, none⟩)])
    have hz5 := outW_size w3.drew g m.front (.func (.func 93) #[] #[.pointer (some ⟨w.heap.size, 0, none⟩), .pointer (some ⟨w1.heap.size, 0, none⟩)])
    rw [hzd] at hbw htk hz5
    obtain ⟨w5, hw5⟩ : ∃ w5, outW w3.drew g m.front (.func (.func 93) #[] #[.pointer (some ⟨w.heap.size, 0, none⟩), .pointer (some ⟨w1.heap.size, 0, none⟩)]) = w5 := ⟨_, rfl⟩
    rw [hw5] at hbw htk hz5 ⊢
    rw [hzd]
    have hbw3 : Below w3.heap.size w3 w5 := ((Below.refl _ w3).drew).trans (hbw.mono (by rw [HZ3.out]; exact Nat.le_refl _))
    clear hw5
    have h5 := H3.out.below hbw3
    have rl5 := RL3.out.below hbw3 RL3.out.lt
    have r35 := R3.out.below hbw3 R3.out.lt
    have r45 := R4.out.below hbw3 R4.out.lt
    have b05 : Below w.heap.size w w5 := B03.out.trans (hbw3.mono B03.out.size)
    obtain ⟨T, hT⟩ : ∃ T, m.way.filter (lostX m) = T := ⟨_, rfl⟩
    have hTl : T.length ≤ 2000 := by rw [← hT]; exact Nat.le_trans (List.length_filter_le _ _) HM.out.len
    have hs1 := HS1.out
    have hgw := HG.out
    have hvw := HVL.out
    have hseq : TellsO Tryz.prog 87 #[.pointer (some ⟨w1.heap.size + 2, 0, none⟩), .pointer (some ⟨w1.heap.size + 2 + 1, 0, none⟩), .pointer (some ⟨w1.heap.size + 2 + 2, 0, none⟩)] encPk (fun k => k = w1.heap.size + 1) (fun k => k = g ∨ v.ownBlock = some k) (fun W => Row W w.heap.size 28 #[.pointer (some ⟨g, 0, none⟩)] ∧ Row W w1.heap.size 23 #[.int .u64 (pt : Int)]) (StepT T) (EndT g v T (lostM m)) 0 w5 := by
      intro n l J W hbW hJG hJ hY hJ0
      rw [← hT]
      have h5W := h5.below hbW
      refine takeLate_in n l w5.heap.size (w1.heap.size + 2) (w1.heap.size + 2 + 1) (w1.heap.size + 2 + 2) g m.front w.heap.size w1.heap.size v m (lateX m) (fun k => k = w1.heap.size + 1) (fun k => k = g ∨ v.ownBlock = some k) _ J W HM.out (by have := HM.out.front; omega) ⟨by omega, ⟨?_, ?_, ?_⟩, by omega⟩ hJG hJ ?_ (by rw [← hT] at hY; exact hY) hJ0 h5W (htk.same (hbW.block _ (by omega)) (hbW.block _ (by omega)) (hbW.block _ (by omega))) (.inl rfl) (fun k q => .inr q) hbW.size
      · rintro (q | q)
        · omega
        · have := hvw _ q; omega
      · rintro (q | q)
        · omega
        · have := hvw _ q; omega
      · rintro (q | q)
        · omega
        · have := hvw _ q; omega
      · rintro W9 Z a ⟨k1, k2⟩ hr p hp _
        have hx := late_any g w.heap.size w1.heap.size v { m with way := Z, ask := a } pt p W9 hr k1 k2 (by have := HM.out.num p hp; have := HM.out.next; omega) (by have := HM.out.time p hp; have := HM.out.now; omega) HPT.out
        have he : (decide (p.num + 3 ≤ m.front) || decide (p.time + pt ≤ m.now)) = lateX m p := by unfold lateX; rw [HPE.out]
        exact hx.mono (fun e w' q => ⟨by rw [q.1]; show Ending.returned (Value.bool (decide (p.num + 3 ≤ m.front) || decide (p.time + pt ≤ m.now))) = _; rw [he], q.2⟩)
    have h0I : GrI w5 w5.heap.size (w1.heap.size + 1) T (fun k => k = g ∨ v.ownBlock = some k) 0 (fun k => k = g ∨ v.ownBlock = some k) w5 := ⟨fun k q => .inl q, ⟨.slice none 0 0, r45, by rw [List.take_zero]; exact RowO.nil _ _ _, fun k q => by cases q⟩, fun _ _ _ _ => rfl, rfl, rfl, rfl, Nat.zero_le _, Nat.le_refl _⟩
    have hbx : w1.heap.size + 1 < w5.heap.size := by omega
    have hM0b : ¬ (w1.heap.size + 1 = g ∨ v.ownBlock = some (w1.heap.size + 1)) := by
      rintro (q | q)
      · omega
      · have := hvw _ q; omega
    have hgb : ∀ j M A, GrI w5 w5.heap.size (w1.heap.size + 1) T (fun k => k = g ∨ v.ownBlock = some k) j M A → Row A w.heap.size 28 #[.pointer (some ⟨g, 0, none⟩)] ∧ Row A w1.heap.size 23 #[.int .u64 (pt : Int)] := fun j M A hA => by
      constructor
      · refine (hA.old _ (by omega) ?_ (by omega)).trans rl5
        rintro (q | q)
        · omega
        · have := hvw _ q; omega
      · refine (hA.old _ (by omega) ?_ (by omega)).trans r35
        rintro (q | q)
        · omega
        · have := hvw _ q; omega
    have HSEQ := veil hseq
    have H0I := veil h0I
    have HBXl := veil hbx
    have HM0b := veil hM0b
    have HGb := veil hgb
    have HTl := veil hTl
    have HTe := veil hT
    have B05 := veil b05
    have HZ5 := veil hz5
    have HGW := veil hgw
    have HVW := veil hvw
    have HSS := veil hs1
    clear hseq h0I hbx hM0b hgb hTl hT b05 hz5 hgw hvw hs1 hbw htk hbw3 h5 rl5 r35 r45 hzd q1 q5 H3 RL3 R3 R4 B03 HG HVL HS1
    refine rangeFunc_tellsO (n := 5) (gf := 87) (lb := #[.pointer (some ⟨w1.heap.size + 2, 0, none⟩), .pointer (some ⟨w1.heap.size + 2 + 1, 0, none⟩), .pointer (some ⟨w1.heap.size + 2 + 2, 0, none⟩)]) rfl (enters_of Tryz.func87 (by kernel_rfl) rfl) (encs := encPk) (fun _ => rfl) (fun k => k = w1.heap.size + 1) (fun k => k = g ∨ v.ownBlock = some k) (fun k q => by have := HBXl.out; omega) (fun k q => by
        rcases q with q | q
        · have := HGW.out; have := HZ5.out; have := HSS.out; omega
        · have := HVW.out _ q; have := HZ5.out; have := HSS.out; omega) HSEQ.out
      (fun s A B q k => q.keep (by have := HGW.out; have := HZ5.out; have := HSS.out; omega) (fun k q => by have := HVW.out _ q; have := HZ5.out; have := HSS.out; omega) k)
      (GrI w5 w5.heap.size (w1.heap.size + 1) T (fun k => k = g ∨ v.ownBlock = some k)) HGb.out (fun s M A B q k => q.keep HBXl.out k) (fun s M A B q k => q.keepM HBXl.out HM0b.out k) H0I.out
      (fun x b => { tmps := #[.pointer (some ⟨g, 0, none⟩), .pointer (some ⟨w.heap.size, 0, none⟩), .slice none 0 0, .pointer (some ⟨w1.heap.size, 0, none⟩), .func (.func 93) #[] #[.pointer (some ⟨w.heap.size, 0, none⟩), .pointer (some ⟨w1.heap.size, 0, none⟩)], .pointer (some ⟨w1.heap.size + 1, 0, none⟩), .pointer (some ⟨b, 0, none⟩), .pointer (some ⟨g, 0, none⟩), .pointer (some ⟨g, 0, none⟩), .pointer (some ⟨g, 6, none⟩), .agg #[.int .u64 (m.lat : Int), .int .u64 (m.smo : Int), .int .u64 (m.var : Int), .int .u64 (m.lea : Int)], .int .u64 (pt : Int), .func (.func 93) #[] #[.pointer (some ⟨w.heap.size, 0, none⟩), .pointer (some ⟨w1.heap.size, 0, none⟩)], z0, z1, z2, z3, z4, z5, .func (.func 87) #[] #[.pointer (some ⟨w1.heap.size + 2, 0, none⟩), .pointer (some ⟨w1.heap.size + 2 + 1, 0, none⟩), .pointer (some ⟨w1.heap.size + 2 + 2, 0, none⟩)], .agg (pkC x), undef, undef, undef, undef, undef, undef, undef, undef, undef, undef, undef, undef], defers := [] })
      (fun x b W => Row W b 78 #[.int .u64 (x.num : Int), .int .i64 (x.size : Int), .int .u64 (x.time : Int), .bool x.asks]) (fun _ _ _ _ q k => k.trans q) ?assign ?body ?done
    case assign =>
      intro l x W K hK
      unfold encPk pkC
      gi_wp2_with fail
      unfold pkC at hK
      exact hK _ ((Below.refl _ W).alloc (Nat.le_refl _) _) (Row.new _ _ _)
    case body =>
      rintro l j x j' M V W ⟨hx, rfl⟩ hI hk hR hsz hM
      obtain ⟨u, ua, un, uc, W2, a1, a2, a3, a4, a5, a6⟩ := hI.next HBXl.out HM0b.out hk hx HTl.out hsz (fun k q => (hM k q).2)
      have x0 : W.cell? ⟨V.heap.size, 0, none⟩ = some (.int .u64 (x.num : Int)) := hR.cell 0
      have x1 : W.cell? ⟨V.heap.size, 1, none⟩ = some (.int .i64 (x.size : Int)) := hR.cell 1
      have x2 : W.cell? ⟨V.heap.size, 2, none⟩ = some (.int .u64 (x.time : Int)) := hR.cell 2
      have x3 : W.cell? ⟨V.heap.size, 3, none⟩ = some (.bool x.asks) := hR.cell 3
      have A2 := veil a2
      have A5 := veil a5
      have A6 := veil a6
      clear a2 a5 a6 hI hk hR hM hx
      gi_wp2_with (with_reducible (show wpListIn _ _ _ _ _ (⟨some 24, Op.call _, _, _, _, _⟩ :: _) _ _)
                   refine wpI_append rfl _ _ _ rfl _ _ _ _ rfl rfl A2.out ?_)
      exact ⟨A5.out, A6.out⟩
    case done =>
      rintro D j M W hD ⟨hj, v', hL, hvv⟩ hI hK
      obtain ⟨u, hu1, hu2, hu3⟩ := hI.box
      obtain ⟨rlW, _⟩ := HGb.out j M W hI
      subst hj
      rw [List.take_length] at hu2
      obtain ⟨ua, uc, hus, _, _⟩ := hu2.shape
      subst hus
      have hDW : D < W.heap.size := (Array.getElem?_eq_some_iff.1 hK).1
      have cu : W.cell? ⟨w1.heap.size + 1, 0, none⟩ = some (.slice ua T.length uc) := hu1.cell 0
      have cl : W.cell? ⟨w.heap.size, 0, none⟩ = some (.pointer (some ⟨g, 0, none⟩)) := rlW.cell 0
      have CC := veil (contains_counts g (countsB m) _ T W hu2 (by have := HTl.out; omega) (fun W9 hb9 p _ => counts_any g v' (lostM m) p W9 (hL.row.below hb9 hL.lt)))
      have hKW : KeepL g v w W := ⟨hI.os.trans B05.out.os, hI.tape.trans B05.out.tape, hI.output.trans B05.out.output, Nat.le_trans B05.out.size hI.sz, fun k hk hn => (hI.old k (by have := B05.out.size; omega) hn (by have := HSS.out; omega)).trans (B05.out.block k hk)⟩
      have hvW : ∀ k, v'.ownBlock = some k → k < w.heap.size := fun k q => by rw [hvv] at q; exact HVW.out k q
      have hz5 := HZ5.out
      have hss := HSS.out
      have hgw := HGW.out
      have HNG := veil (show ∀ k, (Value.slice ua T.length uc).ownBlock = some k → k ≠ g from fun k q => by have := (hu3 k q).1; omega)
      have HU2 := veil hu2
      have HU1 := veil hu1
      have HRL := veil rlW
      have HLW := veil hL
      have HKW := veil hKW
      have HVV := veil hvv
      have HVw := veil hvW
      have HDK := veil hK
      have HDW := veil hDW
      have HD := veil hD
      clear hu2 hu1 hu3 rlW hL hKW hvv hvW hK hDW hD hI hz5 hss hgw HSEQ H0I HGb HM0b
      gi_wp2_with fail
      refine ⟨trivial, (callsIn_wide.2 CC.out).mono ?_⟩
      rintro e6 w6 ⟨rfl, hb6⟩
      have u6 := HU2.out.below hb6
      have cu6 : w6.cell? ⟨w1.heap.size + 1, 0, none⟩ = some (.slice ua T.length uc) := (HU1.out.below hb6 HU1.out.lt).cell 0
      have cl6 : w6.cell? ⟨w.heap.size, 0, none⟩ = some (.pointer (some ⟨g, 0, none⟩)) := (HRL.out.below hb6 HRL.out.lt).cell 0
      have L6 := HLW.out.below hb6
      have K6 : KeepL g v w w6 := HKW.out.trans (KeepP.of_below hb6)
      have D6 : w6.heap[D]? = some (.deferred (some [])) := (hb6.block _ HDW.out).trans HDK.out
      have z6 := hb6.size
      have hlm : T.any (countsB m) = (m.way.filter (lostX m)).any (countsB m) := by rw [HTe.out]
      cases hany : T.any (countsB m)
      · have HMM := veil (show loseM m = lostM m by unfold loseM; rw [← hlm, hany]; rfl)
        have NC := veil (numbers_any _ T w6 u6 (by have := HTl.out; omega))
        have HL6 := veil L6
        have HK6 := veil K6
        have HD6 := veil D6
        clear hb6 u6 L6 K6 D6 hlm hany cl cu CC
        gi_wp2_with fail
        refine ⟨trivial, (callsIn_wide.2 NC.out).mono ?_⟩
        rintro e7 w7 ⟨u7, rfl, ho7, hb7⟩
        have hD7 : w7.heap[D]? = some (.deferred (some [])) := (hb7.block _ (by have := HDW.out; omega)).trans HD6.out
        have HFIN := veil (lose_fin (W := w6) (D := D) HL6.out HVw.out HK6.out ho7 hb7 HGW.out (show w.heap.size ≤ D by have := HD.out; have := HZ5.out; have := HSS.out; omega) (by have := HDW.out; omega))
        have HD7 := veil hD7
        clear ho7 hb7 hD7 cu6 cl6
        gi_wp2_with fail
        refine ⟨by simp, .inl ⟨_, _, rfl, run_takeDeferred HD7.out, ?_⟩⟩
        refine ⟨_, results_tmp rfl _ _ _, _, v', rfl, ?_⟩
        rw [HTe.out, HMM.out]
        exact ⟨HFIN.out.1, HFIN.out.2.1, HFIN.out.2.2, HVV.out⟩
      · have HMM := veil (show loseM m = shrinkM (lostM m) by unfold loseM; rw [← hlm, hany]; rfl)
        have SC := veil (shrink_any g v' (lostM m) w6 L6.row (by have := HM.out.winU; show m.win ≤ 3000000; omega))
        have HU6 := veil u6
        have HL6 := veil L6
        have HK6 := veil K6
        have HD6 := veil D6
        have HU16 := veil (HU1.out.below hb6 HU1.out.lt)
        clear hb6 u6 L6 K6 D6 hlm hany cl cu CC
        gi_wp2_with fail
        refine ⟨trivial, (callsIn_wide.2 SC.out).mono ?_⟩
        rintro e7 w7 ⟨⟨u7, rfl⟩, r7, k7⟩
        have L7 : LdOk w7 g v' (shrinkM (lostM m)) := ⟨r7, HL6.out.way.same (fun q hq => k7.block q (HL6.out.way.lt q hq) (fun e => HL6.out.apart (by rw [← e]; exact hq)))⟩
        have u7' := HU6.out.same (w' := w7) (fun q hq => k7.block q (HU6.out.lt q hq) (HNG.out q hq))
        have cu7 : w7.cell? ⟨w1.heap.size + 1, 0, none⟩ = some (.slice ua T.length uc) := (k7.row HU16.out (by have := HGW.out; have := HSS.out; omega)).cell 0
        have K7 : KeepL g v w w7 := HK6.out.trans (k7.mono (fun k q => .inl q))
        have D7 : w7.heap[D]? = some (.deferred (some [])) := (k7.block _ (by have := HDW.out; omega) (by have := HD.out; have := HZ5.out; have := HSS.out; have := HGW.out; omega)).trans HD6.out
        have z7 := k7.size
        have NC := veil (numbers_any _ T w7 u7' (by have := HTl.out; omega))
        have HL7 := veil L7
        have HK7 := veil K7
        have HD7 := veil D7
        clear r7 k7 L7 u7' K7 D7 cu6 cl6
        gi_wp2_with fail
        refine ⟨trivial, (callsIn_wide.2 NC.out).mono ?_⟩
        rintro e8 w8 ⟨u8, rfl, ho8, hb8⟩
        have hD8 : w8.heap[D]? = some (.deferred (some [])) := (hb8.block _ (by have := HDW.out; omega)).trans HD7.out
        have HFIN := veil (lose_fin (W := w7) (D := D) HL7.out HVw.out HK7.out ho8 hb8 HGW.out (show w.heap.size ≤ D by have := HD.out; have := HZ5.out; have := HSS.out; omega) (by have := HDW.out; omega))
        have HD8 := veil hD8
        clear ho8 hb8 hD8 cu7
        gi_wp2_with fail
        refine ⟨by simp, .inl ⟨_, _, rfl, run_takeDeferred HD8.out, ?_⟩⟩
        refine ⟨_, results_tmp rfl _ _ _, _, v', rfl, ?_⟩
        rw [HTe.out, HMM.out]
        exact ⟨HFIN.out.1, HFIN.out.2.1, HFIN.out.2.2, HVV.out⟩
end Go.Proofs.YtohoieleakieeaaGreatDoor
