/-
  What hold makes of what is held.
-/
import Derived.Test.YtnlckmopgkabpaaGs11
namespace Go.Proofs.Ytnlckmopgkabpaa
open Go Go.RowKit Go.Maps Go.Shelf

theorem sl_apart {w : World} {s : SL} {m N : Nat} {f : Nat → Option By} (hs : s.Ok w) (hm : MapOk w m f N) (h0 : 0 < s.len) : s.g ≠ m := by
  intro e
  have hc := hs.cell 0 h0
  obtain ⟨D, ⟨es, clock, h2, _, _, _⟩, _, _⟩ := hm
  rw [← e] at h2
  simp [World.cell?, h2] at hc

def valH (g m p k : Nat) (s : SL) (y : By) (j : Nat) (v : Value) : Prop := v = match j with
  | 0 => .pointer (some ⟨g, 0, none⟩)
  | 1 => .pointer (some ⟨g, 0, none⟩)
  | 2 => .pointer (some ⟨g, 1, none⟩)
  | 3 => .map (some m)
  | 4 => .int .u64 (k : Int)
  | 5 => .slice s.a s.len s.cap
  | 6 => .int .u64 (k : Int)
  | 7 => .int .u64 (p : Int)
  | 8 => .int .u64 ((k - p : Nat) : Int)
  | 9 => .pointer (some ⟨s.g, s.off + (k - p), none⟩)
  | _ => .int .u8 (v8 y)
def depH : Nat → List Nat
  | 1 => [0]
  | 2 => [1]
  | 3 => [2]
  | 8 => [6, 7]
  | 9 => [5, 8]
  | 10 => [9]
  | 11 => [0, 1, 2, 3, 4, 5, 6, 7, 8, 9, 10]
  | _ => []

theorem run_maxU {P : Program} (t t' ty : TypeId) (x y : Nat) (W : World) : (Builtin.max_ #[t, t'] ty #[.int .u64 (x : Int), .int .u64 (y : Int)]).run P W = .ok (.int .u64 ((max x y : Nat) : Int)) W := by
  by_cases h : x ≤ y
  · rw [Nat.max_eq_right h]
    by_cases h' : x = y
    · subst h'; simp [Builtin.max_, Builtin.max2]
    · have h2 : (x : Int) < (y : Int) := by omega
      simp [Builtin.max_, Builtin.max2, h2]
  · have h2 : ¬ (x : Int) < (y : Int) := by omega
    rw [Nat.max_eq_left (show y ≤ x by omega)]
    simp [Builtin.max_, Builtin.max2, h2]

set_option maxRecDepth 20000 in
set_option maxHeartbeats 2000000 in
theorem hold_in (n : Nat) (S : PS) (g m p : Nat) (s : SL) (w : World) (h : PcOk w g m S) (hs : s.Ok w) (hp : p + s.len ≤ 4611686018427387903) (hN : p + s.len ≤ S.read + S.room) :
    CallsIn Fence.wide n Try.prog 23 #[.pointer (some ⟨g, 0, none⟩), .int .u64 (p : Int), .slice s.a s.len s.cap] w fun e w' => e = .returned (.tuple #[]) ∧
      MapOk w' m (Pc.holdK S.f (max p S.read) (p + s.len) p s.b) (Pc.cnt (Pc.holdK S.f (max p S.read) (p + s.len) p s.b) S.read S.room) ∧ KeepP (fun k => k = m) w w' := by
  obtain ⟨c0, c1, c2, c3, c4⟩ := h.cells
  have hrd : S.read ≤ 4611686018427387903 := by have := h.fine.rc; have := h.fine.come; omega
  have HK := veil (show ∀ wr, KeepP (fun k => k = m) w wr → wr.cell? ⟨g, 1, none⟩ = some (.map (some m)) ∧ s.Ok wr from fun wr hk =>
    ⟨(World.cell?_of_block (a := ⟨g, 1, none⟩) (hk.block _ h.row.lt h.ne)).trans c1, hs.same (fun p0 => hk.block _ (hs.lt p0) (sl_apart hs h.map p0)) hk.size⟩)
  have HM := veil h.map
  have HGLT := veil h.row.lt
  have HF := veil h.fine
  have HP := veil hp
  have HN := veil hN
  have hmx : ∀ ty, (Builtin.max_ #[28, 28] ty #[.int .u64 (p : Int), .int .u64 (S.read : Int)]).run Try.prog w = .ok (.int .u64 ((max p S.read : Nat) : Int)) w := fun ty => run_maxU _ _ _ _ _ _
  have hl0 : p ≤ max p S.read := Nat.le_max_left _ _
  have hl1 : S.read ≤ max p S.read := Nat.le_max_right _ _
  have hl2 : max p S.read ≤ 4611686018427387903 := by omega
  have hw0 : IntKind.u64.wrap (s.len : Int) = (s.len : Int) := by rw [IntKind.wrap_u64]; omega
  obtain ⟨q, hq⟩ : ∃ q, q = p + s.len := ⟨_, rfl⟩
  have hw1 : IntKind.u64.wrap ((p : Int) + (s.len : Int)) = (q : Int) := by rw [IntKind.wrap_u64]; omega
  rw [← hq] at HP HN ⊢
  have HQ := veil hq
  generalize max p S.read = lo at *
  have HL := veil (show p ≤ lo ∧ S.read ≤ lo ∧ lo ≤ 4611686018427387903 from ⟨hl0, hl1, hl2⟩)
  have HHN := veil (Pc.held_le S)
  clear h hs hp hN c0 c3 c4 hq hl0 hl1 hl2
  refine callsIn_of_wp Try.func23 rfl trivial ?_ rfl
  simp only [Try.ntmps23, List.size_toArray, List.length_cons, List.length_nil, Nat.reduceAdd, Nat.reduceSub, Array.replicate_succ, Array.replicate_zero, List.push_toArray, List.append_toArray, List.nil_append, List.cons_append]
  gi_wp2_with fail
  clear hmx hw0 hw1 c1 c2 hrd
  gi_loopw [7] (fun kv wr => ∃ k : Nat, lo ≤ k ∧ (k ≤ q ∨ k = lo) ∧ kv = .int .u64 (k : Int) ∧ MapOk wr m (Pc.holdK S.f lo k p s.b) (Pc.cnt (Pc.holdK S.f lo k p s.b) S.read S.room) ∧ KeepP (fun k => k = m) w wr)
    (fun kv _ => q - (intOf kv).toNat)
  case atStart => exact ⟨lo, Nat.le_refl _, .inr rfl, rfl, by rw [Pc.hold_start _ _ _ (Nat.le_refl _)]; exact HM.out, KeepP.refl _ _⟩
  case round =>
    obtain ⟨k, hk1, hk2, rfl, hmap, hkp⟩ := hrel
    by_cases hlt : k < q
    · have hk3 : k < 18446744073709551616 := by have := HP.out; omega
      obtain ⟨c1, hsr⟩ := HK.out wr hkp
      have hlk := hmap.look hk3
      rw [Pc.hold_at] at hlk
      have hw2 : IntKind.u64.wrap ((k : Int) + 1) = ((k + 1 : Nat) : Int) := by rw [IntKind.wrap_u64]; have := HP.out; omega
      have HMA := veil hmap
      have HKP := veil hkp
      have HSR := veil hsr
      have HK1 := veil hk1
      have HLT := veil hlt
      clear hmap hkp hsr hk1 hk2
      cases hf : S.f k with
      | some y =>
        rw [hf] at hlk
        simp only [Option.isSome_some] at hlk
        have HE := veil (Pc.hold_here (f := S.f) (lo := lo) (p := p) (b := s.b) (show S.f k ≠ none by rw [hf]; simp))
        clear hf
        generalize ob (some y) = yv at *
        gi_wp2
        go_roundw
        case rel => exact ⟨k + 1, by have := HK1.out; omega, .inl HLT.out, by go_num, by rw [HE.out]; exact HMA.out, HKP.out⟩
        case measure => have := HLT.out; simp [intOf]; omega
      | none =>
        rw [hf] at hlk
        simp only [Option.isSome_none] at hlk
        have HFK := veil hf
        clear hf
        gi_wp2_with fail
        have hk1 := HK1.out
        have hpk : p ≤ k := by have := HL.out; omega
        have hkp1 : k - p < s.len := by have := HQ.out; omega
        have ha : s.a = some ⟨s.g, s.off, none⟩ := HSR.out.at_ (by omega)
        have hgm : s.g ≠ m := sl_apart HSR.out HMA.out (by omega)
        obtain ⟨y, hy⟩ : ∃ y, y = gb s.b (k - p) := ⟨_, rfl⟩
        have HY := veil hy
        have cb : wr.cell? ⟨s.g, s.off + (k - p), none⟩ = some (.int .u8 (v8 y)) := by rw [hy]; exact HSR.out.cell (k - p) hkp1
        have HCW := veil (show ∀ W', Below wr.heap.size wr W' → W'.cell? ⟨g, 1, none⟩ = some (.map (some m)) ∧ W'.cell? ⟨s.g, s.off + (k - p), none⟩ = some (.int .u8 (v8 y)) from fun W' hW' =>
          ⟨(hW'.cell (p := ⟨g, 1, none⟩) (by have := HGLT.out; have := HKP.out.size; show g < _; omega)).trans c1, (hW'.cell (p := ⟨s.g, s.off + (k - p), none⟩) (HSR.out.lt (by omega))).trans cb⟩)
        clear hy hlk c1 cb
        refine wpIn_region_any (by kernel_rfl) ?_
        refine anyIn_store2 (w0 := wr) (fun j _ v => valH g m p k s y j v) (fun _ _ _ _ _ h => h) [37, 38, 39, 40, 41, 42, 43, 44, 45, 46, 47] depH (by kernel_rfl) rfl (by decide) (by intro j hj; have : j < 11 := hj; simp [depH]; omega) ((Below.refl _ _).drew)
          (fun _ U => MapOk U m (Pc.holdK S.f lo (k + 1) p s.b) (Pc.cnt (Pc.holdK S.f lo (k + 1) p s.b) S.read S.room) ∧ KeepP (fun k => k = m) wr U) ?step ?last ?done
        case step =>
          intro x W' i d hW' hdi hdep
          obtain ⟨c1', cb'⟩ := HCW.out W' hW'
          match i, hdi, hdep with
          | 0, hdi, _ =>
            obtain rfl := Option.some.inj hdi
            exact OI_value rfl rfl (about_none (by intro c h; cases h)) (by intro c h; cases h) _ W' (show _ = Result.ok (Next.value (.pointer (some ⟨g, 0, none⟩))) W' by kernel_rfl) ⟨_, rfl, Below.refl _ _, rfl⟩
          | 1, hdi, hdep =>
            obtain rfl := Option.some.inj hdi
            rw [updV_self (show x 0 = _ from hdep 0 (by simp [depH]))]
            exact OI_value rfl rfl (about_none (by intro c h; cases h)) (by intro c h; cases h) _ W' (show _ = Result.ok (Next.value (.pointer (some ⟨g, 0, none⟩))) W' by kernel_rfl) ⟨_, rfl, Below.refl _ _, rfl⟩
          | 2, hdi, hdep =>
            obtain rfl := Option.some.inj hdi
            rw [updV_self (show x 1 = _ from hdep 1 (by simp [depH]))]
            exact OI_value rfl rfl (about_none (by intro c h; cases h)) (by intro c h; cases h) _ W' (show _ = Result.ok (Next.value (.pointer (some ⟨g, 1, none⟩))) W' by kernel_rfl) ⟨_, rfl, Below.refl _ _, rfl⟩
          | 3, hdi, hdep =>
            obtain rfl := Option.some.inj hdi
            rw [updV_self (show x 2 = _ from hdep 2 (by simp [depH]))]
            exact OI_value rfl rfl (about_none (by intro c h; cases h)) (by intro c h; cases h) _ W' (run_cellP 56 _ ⟨g, 1, none⟩ _ _ rfl (by kernel_rfl) Try.underlying56 rfl W' c1') ⟨_, rfl, Below.refl _ _, rfl⟩
          | 4, hdi, _ =>
            obtain rfl := Option.some.inj hdi
            exact OI_value rfl rfl (about_none (by intro c h; cases h)) (by intro c h; cases h) _ W' (show _ = Result.ok (Next.value (.int .u64 (k : Int))) W' by kernel_rfl) ⟨_, rfl, Below.refl _ _, rfl⟩
          | 5, hdi, _ =>
            obtain rfl := Option.some.inj hdi
            exact OI_value rfl rfl (about_none (by intro c h; cases h)) (by intro c h; cases h) _ W' (show _ = Result.ok (Next.value (.slice s.a s.len s.cap)) W' by kernel_rfl) ⟨_, rfl, Below.refl _ _, rfl⟩
          | 6, hdi, _ =>
            obtain rfl := Option.some.inj hdi
            exact OI_value rfl rfl (about_none (by intro c h; cases h)) (by intro c h; cases h) _ W' (show _ = Result.ok (Next.value (.int .u64 (k : Int))) W' by kernel_rfl) ⟨_, rfl, Below.refl _ _, rfl⟩
          | 7, hdi, _ =>
            obtain rfl := Option.some.inj hdi
            exact OI_value rfl rfl (about_none (by intro c h; cases h)) (by intro c h; cases h) _ W' (show _ = Result.ok (Next.value (.int .u64 (p : Int))) W' by kernel_rfl) ⟨_, rfl, Below.refl _ _, rfl⟩
          | 8, hdi, hdep =>
            obtain rfl := Option.some.inj hdi
            rw [updV_self (show x 6 = _ from hdep 6 (by simp [depH])), updV_self (show updV x 6 _ 7 = _ from hdep 7 (by simp [depH]))]
            exact OI_value rfl rfl (about_none (by intro c h; cases h)) (by intro c h; cases h) _ W' (run_subU _ _ _ _ k p (k - p) (by omega) hk3 rfl (by kernel_rfl) (by kernel_rfl) W') ⟨_, rfl, Below.refl _ _, rfl⟩
          | 9, hdi, hdep =>
            obtain rfl := Option.some.inj hdi
            rw [updV_self (show x 5 = _ from hdep 5 (by simp [depH])), updV_self (show updV x 5 _ 8 = _ from hdep 8 (by simp [depH]))]
            exact OI_value rfl rfl (about_none (by intro c h; cases h)) (by intro c h; cases h) _ W' (run_atU1 22 5 _ _ s.g s.off s.len s.cap (k - p) rfl (show _ = Value.slice (some ⟨s.g, s.off, none⟩) s.len s.cap by rw [← ha]; kernel_rfl) (by kernel_rfl) Try.underlying22 (by kernel_rfl) hkp1 W') ⟨_, rfl, Below.refl _ _, rfl⟩
          | 10, hdi, hdep =>
            obtain rfl := Option.some.inj hdi
            rw [updV_self (show x 9 = _ from hdep 9 (by simp [depH]))]
            exact OI_value rfl rfl (about_none (by intro c h; cases h)) (by intro c h; cases h) _ W' (run_cellP 5 _ ⟨s.g, s.off + (k - p), none⟩ _ _ rfl (by kernel_rfl) Try.underlying5 rfl W' cb') ⟨_, rfl, Below.refl _ _, rfl⟩
          | i + 11, hdi, _ => simp at hdi
        case last =>
          intro x U hU hx
          have e3 : x 3 = .map (some m) := hx 3 (by decide)
          have e4 : x 4 = .int .u64 (k : Int) := hx 4 (by decide)
          have e10 : x 10 = .int .u8 (v8 y) := hx 10 (by decide)
          rw [updV_self e3, updV_self (show updV x 3 _ 4 = _ from e4), updV_self (show updV (updV x 3 _) 4 _ 10 = _ from e10)]
          have hMU : MapOk U m (Pc.holdK S.f lo k p s.b) (Pc.cnt (Pc.holdK S.f lo k p s.b) S.read S.room) := HMA.out.same (hU.block _ HMA.out.lt)
          obtain ⟨U', hrun, hM', hg'⟩ := hMU.store (f' := Pc.holdK S.f lo (k + 1) p s.b) (b := y) hk3 (by have := Pc.cnt_le (Pc.holdK S.f lo k p s.b) S.read S.room; have := HF.out.room; unfold maxLen; omega) (by rw [Pc.hold_at]; exact HFK.out) (by rw [HY.out]; exact Pc.hold_next HFK.out hk1) (fun z hz => Pc.hold_other hz)
          refine OI_skip rfl rfl (about_none (by intro c h; cases h)) (by intro c h; cases h) U' (run_update 56 _ _ _ _ _ _ rfl (by kernel_rfl) (by kernel_rfl) (by kernel_rfl) U U' hrun) ?_
          refine ⟨by kernel_rfl, ?_, (KeepP.of_below hU).trans (KeepP.grown (st := fun k => k = m) rfl hg')⟩
          rw [Pc.cnt_set (f := Pc.holdK S.f lo k p s.b) (x := k) (by rw [Pc.hold_at]; exact HFK.out) (by rw [Pc.hold_next HFK.out hk1]; rfl) (fun z hz => Pc.hold_other hz) (by have := HL.out; omega) (by have := HN.out; omega)]
          exact hM'
        case done =>
          rintro x U ⟨hM', hK'⟩
          have HM' := veil hM'
          have HK' := veil (HKP.out.trans hK')
          clear hM' hK'
          simp only [putsV, Act.put, List.setIfInBounds_toArray, List.set_cons_succ, List.set_cons_zero, Nat.reduceAdd]
          gi_wp2
          go_roundw
          case rel => exact ⟨k + 1, by omega, .inl HLT.out, by go_num, HM'.out, HK'.out⟩
          case measure => have := HLT.out; simp [intOf]; omega
    · have HMA := veil hmap
      have HKP := veil hkp
      have HE := veil (show Pc.holdK S.f lo k p s.b = Pc.holdK S.f lo q p s.b by
        rcases hk2 with e | e
        · obtain rfl : k = q := by omega
          rfl
        · subst e
          rw [Pc.hold_start _ _ _ (Nat.le_refl _), Pc.hold_start _ _ _ (by omega)])
      clear hmap hkp hk1 hk2
      gi_wp2
      go_end0
      exact ⟨rfl, by rw [← HE.out]; exact HMA.out, HKP.out⟩
end Go.Proofs.Ytnlckmopgkabpaa
