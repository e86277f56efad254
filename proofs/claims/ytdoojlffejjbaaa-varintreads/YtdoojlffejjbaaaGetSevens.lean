/-
  What varint.getSevens answers.
-/
import Derived.Test.YtdoojlffejjbaaaComing
namespace Go.Proofs.Ytdoojlffejjbaaa
open Go.RowKit Go.Shelf
attribute [local go_sem] Oper.semAt_some

theorem shl7 (p : Int) (i : Nat) (h : i < 10) : Op.shift .shl .u64 p .i64 (7 * (i : Int)) = pure (.int .u64 (IntKind.u64.wrap (p * 2 ^ (7 * i)))) := by
  rw [shift_shl_u64 (x := p) (yk := .i64) (y := 7 * (i : Int)) (by omega) (by omega), show (7 * (i : Int)).toNat = 7 * i by omega]
theorem shr7 (p : Int) (i : Nat) (h : i < 10) : Op.shift .shr .u64 p .i64 (7 * (i : Int)) = pure (.int .u64 (p / 2 ^ (7 * i))) := by
  rw [shift_shr_u64 (x := p) (yk := .i64) (y := 7 * (i : Int)) (by omega) (by omega), show (7 * (i : Int)).toNat = 7 * i by omega]
theorem wrap7 (i : Nat) (h : i < 10) : IntKind.i64.wrap (7 * (i : Int)) = 7 * (i : Int) := by rw [IntKind.wrap_i64]; omega

/-- What is joined, one by one. -/
def orN (l : List (Nat × Int)) : Int := l.foldl (fun n x => bits .or .u64 n (IntKind.u64.wrap (byOf x % 128 * 2 ^ (7 * ixOf x)))) 0
theorem orN_snoc (l : List (Nat × Int)) (x : Nat × Int) : orN (l ++ [x]) = bits .or .u64 (orN l) (IntKind.u64.wrap (byOf x % 128 * 2 ^ (7 * ixOf x))) := by simp [orN]

/-- What is answered where the last byte came. -/
def SevOut (l : List (Nat × Int)) (x : Nat × Int) (r0 r1 r2 : Int) : Prop :=
  (4611686018427387903 / 2 ^ (7 * ixOf x) < byOf x % 128 ∧ r0 = 0 ∧ r1 = 0 ∧ r2 = 3) ∨ (byOf x % 128 ≤ 4611686018427387903 / 2 ^ (7 * ixOf x) ∧ r0 = orN (l ++ [x]) ∧ r1 = (ixOf x : Int) + 1 ∧ r2 = 0)

theorem boxed_drew {W : World} {B : Nat} {t : TypeId} {v : Value} (h : Boxed W B t v) : Boxed W.drew B t v := h

theorem gs_more {W w : World} {S : Nat} {v3 v0 v1 v2 : Value} (u : Value) (b3 : Boxed W (S + 1 + 1 + 1) 25 v3) (b0 : Boxed W S 25 v0) (b1 : Boxed W (S + 1) 3 v1) (b2 : Boxed W (S + 1 + 1) 26 v2) (hB : Below S w W) :
    KeepsOthers W (W.setCell ⟨S + 1 + 1 + 1, 0, none⟩ u).drew ∧ Below S W (W.setCell ⟨S + 1 + 1 + 1, 0, none⟩ u).drew ∧ Boxed (W.setCell ⟨S + 1 + 1 + 1, 0, none⟩ u).drew (S + 1 + 1 + 1) 25 u ∧ Boxed (W.setCell ⟨S + 1 + 1 + 1, 0, none⟩ u).drew S 25 v0 ∧ Boxed (W.setCell ⟨S + 1 + 1 + 1, 0, none⟩ u).drew (S + 1) 3 v1 ∧ Boxed (W.setCell ⟨S + 1 + 1 + 1, 0, none⟩ u).drew (S + 1 + 1) 26 v2 ∧ Below S w (W.setCell ⟨S + 1 + 1 + 1, 0, none⟩ u).drew :=
  ⟨(KeepsOthers.setCell _ _ _).trans (KeepsOthers.drew _), ((Below.refl S W).setCell (p := ⟨S + 1 + 1 + 1, 0, none⟩) (by show S ≤ S + 1 + 1 + 1; omega) _).drew, boxed_drew (b3.set u), boxed_drew (b0.other (by omega) u), boxed_drew (b1.other (by omega) u), boxed_drew (b2.other (by omega) u), (hB.setCell (p := ⟨S + 1 + 1 + 1, 0, none⟩) (by show S ≤ S + 1 + 1 + 1; omega) _).drew⟩

theorem gs_ret {W w : World} {S : Nat} {v0 v1 v2 : Value} (u r0 r1 r2 : Value) (b0 : Boxed W S 25 v0) (b1 : Boxed W (S + 1) 3 v1) (b2 : Boxed W (S + 1 + 1) 26 v2) (hB : Below S w W) {W' : World} (hW : W' = ((((W.setCell ⟨S + 1 + 1 + 1, 0, none⟩ u).setCell ⟨S, 0, none⟩ r0).setCell ⟨S + 1, 0, none⟩ r1).setCell ⟨S + 1 + 1, 0, none⟩ r2).drew) :
    KeepsOthers W W' ∧ Boxed W' S 25 r0 ∧ Boxed W' (S + 1) 3 r1 ∧ Boxed W' (S + 1 + 1) 26 r2 ∧ Below S w W' := by
  subst hW
  refine ⟨((((KeepsOthers.setCell _ _ _).trans (KeepsOthers.setCell _ _ _)).trans (KeepsOthers.setCell _ _ _)).trans (KeepsOthers.setCell _ _ _)).trans (KeepsOthers.drew _), boxed_drew ((((b0.other (by omega) u).set r0).other (by omega) r1).other (by omega) r2), boxed_drew ((((b1.other (by omega) u).other (by omega) r0).set r1).other (by omega) r2), boxed_drew ((((b2.other (by omega) u).other (by omega) r0).other (by omega) r1).set r2), ?_⟩
  exact ((((hB.setCell (p := ⟨S + 1 + 1 + 1, 0, none⟩) (by show S ≤ S + 1 + 1 + 1; omega) _).setCell (p := ⟨S, 0, none⟩) (Nat.le_refl _) _).setCell (p := ⟨S + 1, 0, none⟩) (by show S ≤ S + 1; omega) _).setCell (p := ⟨S + 1 + 1, 0, none⟩) (by show S ≤ S + 1 + 1; omega) _).drew

theorem gs_end {W w : World} {S : Nat} {v0 v1 v2 : Value} (r0 r1 r2 : Value) (b0 : Boxed W S 25 v0) (b1 : Boxed W (S + 1) 3 v1) (b2 : Boxed W (S + 1 + 1) 26 v2) (hB : Below S w W) {W' : World} (hW : W' = ((W.setCell ⟨S, 0, none⟩ r0).setCell ⟨S + 1, 0, none⟩ r1).setCell ⟨S + 1 + 1, 0, none⟩ r2) :
    KeepsOthers W W' ∧ Boxed W' S 25 r0 ∧ Boxed W' (S + 1) 3 r1 ∧ Boxed W' (S + 1 + 1) 26 r2 ∧ Below S w W' := by
  subst hW
  refine ⟨((KeepsOthers.setCell _ _ _).trans (KeepsOthers.setCell _ _ _)).trans (KeepsOthers.setCell _ _ _), (((b0.set r0).other (by omega) r1).other (by omega) r2), (((b1.other (by omega) r0).set r1).other (by omega) r2), (((b2.other (by omega) r0).other (by omega) r1).set r2), ?_⟩
  exact ((hB.setCell (p := ⟨S, 0, none⟩) (Nat.le_refl _) _).setCell (p := ⟨S + 1, 0, none⟩) (by show S ≤ S + 1; omega) _).setCell (p := ⟨S + 1 + 1, 0, none⟩) (by show S ≤ S + 1 + 1; omega) _

/-- What getSevens answers. -/
def SevRes (zs : List Int) (r0 r1 r2 : Int) : Prop :=
  (∃ ini last, ini ++ [last] = upto zs (ini.length + 1) ∧ ini.length < zs.length ∧ ini.length < 10 ∧ (∀ y ∈ ini, 128 ≤ byOf y) ∧ byOf last < 128 ∧ SevOut ini last r0 r1 r2) ∨
  ((∀ y ∈ upto zs zs.length, 128 ≤ byOf y) ∧ zs.length < 10 ∧ r0 = 0 ∧ r1 = 0 ∧ r2 = 4) ∨
  ((∀ y ∈ upto zs 10, 128 ≤ byOf y) ∧ 10 ≤ zs.length ∧ r0 = 0 ∧ r1 = 0 ∧ r2 = 5)

set_option maxRecDepth 100000 in
set_option maxHeartbeats 2000000 in
theorem getSevens_any (b off len cap : Nat) (zs : List Int) (w : World) (hz : zs.length = len) (hl : len ≤ 1073741824) (hbn : b < w.heap.size) (hb : ∀ j : Nat, 0 ≤ zs[j]?.getD 0 ∧ zs[j]?.getD 0 ≤ 255)
    (hc : ∀ j : Nat, j < len → w.cell? ⟨b, off + j, none⟩ = some (.int .u8 (zs[j]?.getD 0))) :
    Calls Try.prog 11 #[.slice (some ⟨b, off, none⟩) len cap] w fun e W' => ∃ r0 r1 r2, e = .returned (.tuple #[.int .u64 r0, .int .i64 r1, .int .i64 r2]) ∧ SevRes zs r0 r1 r2 ∧ Below w.heap.size w W' := by
  refine (callsIn_wide (n := 4)).1 ?_
  refine callsIn_of_wp_marks Try.func11 rfl trivial ?_ rfl
  simp only [Try.ntmps11, List.size_toArray, List.length_cons, List.length_nil, Nat.reduceAdd, Nat.reduceSub, Array.replicate_succ, Array.replicate_zero, List.push_toArray, List.append_toArray, List.nil_append, List.cons_append]
  gi_wp2_with fail
  refine ⟨trivial, (coming_in _ _ trivial rfl _ _ _ _).mono ?_⟩
  rintro e1 w1 ⟨rfl, rfl⟩
  gi_wp2
  have bR := Boxed.new w 25 (.int .u64 0)
  have bL := Boxed.new (w.alloc (.cells #[.int .u64 0] 25)) 3 (.int .i64 0)
  have bE := Boxed.new ((w.alloc (.cells #[.int .u64 0] 25)).alloc (.cells #[.int .i64 0] 3)) 26 (.int .i64 0)
  have bX := Boxed.new (((w.alloc (.cells #[.int .u64 0] 25)).alloc (.cells #[.int .i64 0] 3)).alloc (.cells #[.int .i64 0] 26)) 25 (.int .u64 0)
  have bN := Boxed.new ((((w.alloc (.cells #[.int .u64 0] 25)).alloc (.cells #[.int .i64 0] 3)).alloc (.cells #[.int .i64 0] 26)).alloc (.cells #[.int .u64 0] 25)) 22 (.slice (some ⟨b, off, none⟩) len cap)
  simp only [World.size_alloc] at bL bE bX bN
  have hB0 : Below w.heap.size w (((((w.alloc (.cells #[.int .u64 0] 25)).alloc (.cells #[.int .i64 0] 3)).alloc (.cells #[.int .i64 0] 26)).alloc (.cells #[.int .u64 0] 25)).alloc (.cells #[.slice (some ⟨b, off, none⟩) len cap] 22)) := (((((Below.refl _ w).alloc (Nat.le_refl _) _).alloc (by simp) _).alloc (by simp; omega) _).alloc (by simp; omega) _).alloc (by simp; omega) _
  have hc2 : ∀ j : Nat, j < len → (((((w.alloc (.cells #[.int .u64 0] 25)).alloc (.cells #[.int .i64 0] 3)).alloc (.cells #[.int .i64 0] 26)).alloc (.cells #[.int .u64 0] 25)).alloc (.cells #[.slice (some ⟨b, off, none⟩) len cap] 22)).cell? ⟨b, off + j, none⟩ = some (.int .u8 (zs[j]?.getD 0)) := fun j hj => (hB0.cell (p := ⟨b, off + j, none⟩) hbn).trans (hc j hj)
  have HC : Hid (∀ j : Nat, j < len → w.cell? ⟨b, off + j, none⟩ = some (.int .u8 (zs[j]?.getD 0))) := hc
  have HZ : Hid (zs.length = len) := hz
  clear hc
  refine wpIn_rangeFunc_ownG rfl (by decide) (gf := 14) (lb := #[.pointer (some ⟨w.heap.size + 1 + 1 + 1 + 1, 0, none⟩)]) rfl trivial (enters_of Try.func14 (by kernel_rfl) rfl)
    (coming_stops Fence.wide (4 - 1) trivial rfl (by decide) (w.heap.size + 1 + 1 + 1 + 1) w.heap.size b off len cap zs hz hl hbn hb _ (by simp) (by simp; omega) bN.cell hc2) belowK_t (belowK_b (by simp; omega)) (Below.refl _ _) (fun _ => rfl)
    (fun pre W => ((∀ y ∈ pre, 128 ≤ byOf y) ∧ Boxed W (w.heap.size + 1 + 1 + 1) 25 (.int .u64 (orN pre)) ∧ Boxed W w.heap.size 25 (.int .u64 0) ∧ Boxed W (w.heap.size + 1) 3 (.int .i64 0) ∧ Boxed W (w.heap.size + 1 + 1) 26 (.int .i64 0)) ∧ Below w.heap.size w W)
    (fun c pre W => (c = .ret ∧ ∃ ini last r0 r1 r2, pre = ini ++ [last] ∧ (∀ y ∈ ini, 128 ≤ byOf y) ∧ byOf last < 128 ∧ SevOut ini last r0 r1 r2 ∧ Boxed W w.heap.size 25 (.int .u64 r0) ∧ Boxed W (w.heap.size + 1) 3 (.int .i64 r1) ∧ Boxed W (w.heap.size + 1 + 1) 26 (.int .i64 r2)) ∧ Below w.heap.size w W)
    (OwnFrom.and (Own.from (fun s A B row hs hg hr => ⟨hs.1, boxed_own _ _ (fun s => .int .u64 (orN s)) s A B row hs.2.1 hg hr, boxed_own _ _ (fun _ => .int .u64 0) s A B row hs.2.2.1 hg hr, boxed_own _ _ (fun _ => .int .i64 0) s A B row hs.2.2.2.1 hg hr, boxed_own _ _ (fun _ => .int .i64 0) s A B row hs.2.2.2.2 hg hr⟩) _) (ownFrom_below (Nat.le_refl _) (by simp; omega)))
    (fun c => OwnFrom.and (Own.from (fun s A B row hs hg hr => by
      obtain ⟨hcc, ini, last, r0, r1, r2, e1, e2, e3, e4, e5, e6, e7⟩ := hs
      exact ⟨hcc, ini, last, r0, r1, r2, e1, e2, e3, e4, boxed_own _ _ (fun _ => .int .u64 r0) s A B row e5 hg hr, boxed_own _ _ (fun _ => .int .i64 r1) s A B row e6 hg hr, boxed_own _ _ (fun _ => .int .i64 r2) s A B row e7 hg hr⟩) _) (ownFrom_below (Nat.le_refl _) (by simp; omega)))
    ⟨⟨by simp, bX.alloc _, (((bR.alloc _).alloc _).alloc _).alloc _, ((bL.alloc _).alloc _).alloc _, (bE.alloc _).alloc _⟩, hB0⟩
    (fun x => { tmps := #[.slice (some ⟨b, off, none⟩) len cap, undef, .pointer (some ⟨w.heap.size, 0, none⟩), .pointer (some ⟨w.heap.size + 1, 0, none⟩), .pointer (some ⟨w.heap.size + 1 + 1, 0, none⟩), .pointer (some ⟨w.heap.size + 1 + 1 + 1, 0, none⟩), .int .i64 (ixOf x : Int), .int .u8 (byOf x), undef, .slice (some ⟨b, off, none⟩) len cap, .func (.func 14) #[] #[.pointer (some ⟨w.heap.size + 1 + 1 + 1 + 1, 0, none⟩)], .int .i64 (ixOf x : Int), .int .u8 (byOf x), undef, undef, undef, undef, undef, undef, undef, undef, undef, undef, undef, undef, undef, undef, undef, undef, undef, undef, undef, undef, undef, undef], defers := [] }) ?assign ?body ?done ?stop
  case assign =>
    intro l x W K hK
    unfold enc2
    gi_wp2
    exact hK
  case body =>
    rintro l pre x W ⟨⟨hp, b3, b0, b1, b2⟩, hB⟩ _
    clear bR bL bE bX bN hB0 hc2 hb
    have hmx : Try.prog.follows .mixedOrders = true := by kernel_rfl
    have hi := ixOf_lt x
    obtain ⟨hx0, hx1⟩ := byOf_bd x
    have hm := mask7f (byOf x) hx0 hx1
    have HO : Hid (orN (pre ++ [x]) = bits .or .u64 (orN pre) (IntKind.u64.wrap (byOf x % 128 * 2 ^ (7 * ixOf x)))) := orN_snoc pre x
    have HV : Hid (∀ r0 r1 r2, SevOut pre x r0 r1 r2 = ((4611686018427387903 / 2 ^ (7 * ixOf x) < byOf x % 128 ∧ r0 = 0 ∧ r1 = 0 ∧ r2 = 3) ∨ (byOf x % 128 ≤ 4611686018427387903 / 2 ^ (7 * ixOf x) ∧ r0 = orN (pre ++ [x]) ∧ r1 = (ixOf x : Int) + 1 ∧ r2 = 0))) := fun _ _ _ => rfl
    have HP : Hid (128 ≤ byOf x → ∀ y ∈ pre ++ [x], 128 ≤ byOf y) := fun h y hy => (List.mem_append.1 hy).elim (hp y) (fun e => by simp at e; subst e; exact h)
    have hs1 := shl7 (byOf x % 128) (ixOf x) hi
    have hs2 := shr7 4611686018427387903 (ixOf x) hi
    have hs3 := wrap7 (ixOf x) hi
    generalize ixOf x = i at *
    generalize hcx : byOf x = c at *
    have HX : Hid (byOf x = c) := hcx
    clear hcx
    have c3 := b3.cell
    have f3 := b3.frozen
    have c0 := b0.cell
    have f0 := b0.frozen
    have c1 := b1.cell
    have f1 := b1.frozen
    have c2 := b2.cell
    have f2 := b2.frozen
    by_cases hc : 128 ≤ c
    · gi_wp2
      gi_region_with_o (fail)
      all_goals clear c3 f3 c0 f0 c1 f1 c2 f2 hs1 hs2 hs3 hm hmx
      all_goals gi_wp2
      all_goals
        have R := gs_more (.int .u64 (bits .or .u64 (orN pre) (IntKind.u64.wrap (c % 128 * 2 ^ (7 * i))))) b3 b0 b1 b2 hB
        exact ⟨R.1.from _, R.2.1, ⟨HP.out hc, by rw [HO.out]; exact R.2.2.1, R.2.2.2.1, R.2.2.2.2.1, R.2.2.2.2.2.1⟩, R.2.2.2.2.2.2⟩
    · by_cases hl : 4611686018427387903 / 2 ^ (7 * i) < c % 128
      · gi_wp2
        gi_region_with_o (fail)
        all_goals gi_wp2
        all_goals
          have R := gs_ret (.int .u64 (bits .or .u64 (orN pre) (IntKind.u64.wrap (c % 128 * 2 ^ (7 * i))))) (.int .u64 0) (.int .i64 0) (.int .i64 3) b0 b1 b2 hB rfl
          exact ⟨R.1.from _, ⟨rfl, pre, x, 0, 0, 3, rfl, hp, by rw [HX.out]; omega, by rw [HV.out]; exact .inl ⟨hl, rfl, rfl, rfl⟩, R.2.1, R.2.2.1, R.2.2.2.1⟩, R.2.2.2.2⟩
      · gi_wp2
        gi_region_with_o (fail)
        all_goals gi_wp2
        all_goals
          have R := gs_ret (.int .u64 (bits .or .u64 (orN pre) (IntKind.u64.wrap (c % 128 * 2 ^ (7 * i))))) (.int .u64 (bits .or .u64 (orN pre) (IntKind.u64.wrap (c % 128 * 2 ^ (7 * i))))) (.int .i64 ((i : Int) + 1)) (.int .i64 0) b0 b1 b2 hB rfl
          exact ⟨R.1.from _, ⟨rfl, pre, x, _, _, _, rfl, hp, by rw [HX.out]; omega, by rw [HV.out]; exact .inr ⟨by omega, HO.out.symm, rfl, rfl⟩, R.2.1, R.2.2.1, R.2.2.2.1⟩, R.2.2.2.2⟩
  case done =>
    rintro D ys W hD ⟨K, rfl, hK1, hK2, hK3⟩ ⟨⟨hp, b3, b0, b1, b2⟩, hB⟩ hK
    have hno : K = zs.length ∨ K = 10 := by
      rcases hK3 with h | h | ⟨j, rfl, hj⟩
      · exact .inl h
      · exact .inr h
      · have := hp (j, zs[j]?.getD 0) (by rw [upto_succ]; simp)
        rw [byOf_mk _ _ (hb j).1 (hb j).2] at this
        omega
    have HP : Hid (∀ y ∈ upto zs K, 128 ≤ byOf y) := hp
    have c0 := b0.cell
    have f0 := b0.frozen
    have c1 := b1.cell
    have f1 := b1.frozen
    have c2 := b2.cell
    have f2 := b2.frozen
    clear hp hK3 bR bL bE bX bN hc2 hb
    by_cases hlen : len < 10
    · have hKl : K = zs.length := by have := HZ.out; omega
      gi_wp2
      have R := gs_end (.int .u64 0) (.int .i64 0) (.int .i64 4) b0 b1 b2 hB rfl
      have hK2' := R.1.same D _ hK rfl
      refine ⟨by simp, .inl ⟨_, _, rfl, run_takeDeferred hK2', ?_⟩⟩
      have hg := grownBy_putObj' (((W.setCell ⟨w.heap.size, 0, none⟩ (.int .u64 0)).setCell ⟨w.heap.size + 1, 0, none⟩ (.int .i64 0)).setCell ⟨w.heap.size + 1 + 1, 0, none⟩ (.int .i64 4)) D (.deferred none)
      have d0 := cell_kept R.2.1.cell hg (fun r e => by cases e; exact ⟨_, hK2', rfl⟩)
      have d1 := cell_kept R.2.2.1.cell hg (fun r e => by cases e; exact ⟨_, hK2', rfl⟩)
      have d2 := cell_kept R.2.2.2.1.cell hg (fun r e => by cases e; exact ⟨_, hK2', rfl⟩)
      refine ⟨.tuple #[.int .u64 0, .int .i64 0, .int .i64 4], ?_, 0, 0, 4, rfl, .inr (.inl ⟨by rw [← hKl]; exact HP.out, by rw [HZ.out]; omega, rfl, rfl, rfl⟩), R.2.2.2.2.trans (belowK_b (w := w) (Nat.le_refl _) _ D _ _ (by simp at hD; omega) hK2' rfl rfl)⟩
      simp [results, Try.f11, go_sem, d0, d1, d2]
    · have hKl : K = 10 := by have := HZ.out; omega
      gi_wp2
      have R := gs_end (.int .u64 0) (.int .i64 0) (.int .i64 5) b0 b1 b2 hB rfl
      have hK2' := R.1.same D _ hK rfl
      refine ⟨by simp, .inl ⟨_, _, rfl, run_takeDeferred hK2', ?_⟩⟩
      have hg := grownBy_putObj' (((W.setCell ⟨w.heap.size, 0, none⟩ (.int .u64 0)).setCell ⟨w.heap.size + 1, 0, none⟩ (.int .i64 0)).setCell ⟨w.heap.size + 1 + 1, 0, none⟩ (.int .i64 5)) D (.deferred none)
      have d0 := cell_kept R.2.1.cell hg (fun r e => by cases e; exact ⟨_, hK2', rfl⟩)
      have d1 := cell_kept R.2.2.1.cell hg (fun r e => by cases e; exact ⟨_, hK2', rfl⟩)
      have d2 := cell_kept R.2.2.2.1.cell hg (fun r e => by cases e; exact ⟨_, hK2', rfl⟩)
      refine ⟨.tuple #[.int .u64 0, .int .i64 0, .int .i64 5], ?_, 0, 0, 5, rfl, .inr (.inr ⟨by rw [← hKl]; exact HP.out, by rw [HZ.out]; omega, rfl, rfl, rfl⟩), R.2.2.2.2.trans (belowK_b (w := w) (Nat.le_refl _) _ D _ _ (by simp at hD; omega) hK2' rfl rfl)⟩
      simp [results, Try.f11, go_sem, d0, d1, d2]
  case stop =>
    rintro D c pre W hD ⟨k, hk1, hk2, rfl⟩ ⟨⟨rfl, ini, last, r0, r1, r2, e1, e2, e3, e4, b0, b1, b2⟩, hB⟩ hK
    gi_wp2
    refine ⟨by simp, .inl ⟨_, _, rfl, run_takeDeferred hK, ?_⟩⟩
    have hg := grownBy_putObj' W D (.deferred none)
    have c0 := cell_kept b0.cell hg (fun r e => by cases e; exact ⟨_, hK, rfl⟩)
    have c1 := cell_kept b1.cell hg (fun r e => by cases e; exact ⟨_, hK, rfl⟩)
    have c2 := cell_kept b2.cell hg (fun r e => by cases e; exact ⟨_, hK, rfl⟩)
    have hlen : ini.length + 1 = k := by have := congrArg List.length e1; rw [upto_length] at this; simp at this; omega
    refine ⟨.tuple #[.int .u64 r0, .int .i64 r1, .int .i64 r2], ?_, r0, r1, r2, rfl, .inl ⟨ini, last, by rw [hlen]; exact e1.symm, by rw [HZ.out]; omega, by omega, e2, e3, e4⟩, hB.trans (belowK_b (w := w) (Nat.le_refl _) W D _ _ (by simp at hD; omega) hK rfl rfl)⟩
    simp [results, Try.f11, go_sem, c0, c1, c2]
end Go.Proofs.Ytdoojlffejjbaaa
