/-
  Out of FrSpine3, SnOf.
-/
import Derived.Test.YtehadfidenejdaaGreatDoorGp2
import Derived.Test.YtehadfidenejdaaGreatDoorGp19

/-! As FrSpine's, and what is not of the spine may turn the world too, so that the spine's relation holds. Written out of FrSpine.lean. -/
namespace Go.Proofs.YtehadfidenejdaaGreatDoor
open Go Go.RowKit

section
variable {F : Fence} {n : Nat} {P : Program} {ops : Array Oper} {Q : Exit → Act → World → Prop} {md : Region.Mode}
theorem anyIn_spine3 {a0 : Act} {W0 : World} (V : Nat → Value) (K : Nat → Value → Prop) (R : Nat → World → Value → Prop) (v0 : Value) (ch ds : List Nat) (dep dcl : Nat → List Nat) (hd : edgesB md ops dep = true) (hcl0 : ((List.range ops.size).all fun j => (dcl j).all fun i => (dep j).contains i || (dep j).any fun q => (dcl q).contains i) = true) (hlen : ds.length = ops.size) (hnd : ds.Nodup) (hchn : ch.Nodup)
    (hord : ∀ k i j, ch[k]? = some j → ch[k + 1]? = some i → j ∈ dep i)
    (hin : ∀ j ∈ ch, j < ops.size)
    (h0 : R 0 W0 v0)
    (hfix : ∀ (x : Nat → Value) (W : World) (m i d : Nat) (u : Value), R m W u → ds[i]? = some d → i ∉ ch → (∀ j ∈ dep i, j ∉ ch → x j = V j) → (∀ k j, ch[k]? = some j → j ∈ dep i → k < m) → (∀ k j, ch[k]? = some j → i ∈ dcl j → m ≤ k) → wpOpIn F n P ops Q i (fun a' W' => a' = (putsV a0 ds 0 x).put (some d) (V i) ∧ R m W' u) (putsV a0 ds 0 x) W)
    (hcal : ∀ (x : Nat → Value) (W : World) (k i d : Nat) (u : Value), R k W u → ch[k]? = some i → ds[i]? = some d → (∀ j ∈ dep i, j ∉ ch → x j = V j) → (k = 0 → u = v0) → (∀ p j, k = p + 1 → ch[p]? = some j → x j = u) → (∀ p j, ch[p]? = some j → p < k → K p (x j)) → wpOpIn F n P ops Q i (fun a' W' => ∃ v', a' = (putsV a0 ds 0 x).put (some d) v' ∧ R (k + 1) W' v' ∧ K k v') (putsV a0 ds 0 x) W)
    (hdone : ∀ (x : Nat → Value) (W : World) (u : Value), R ch.length W u → (∀ j, j < ops.size → j ∉ ch → x j = V j) → (∀ p j, ch.length = p + 1 → ch[p]? = some j → x j = u) → (∀ k j, ch[k]? = some j → K k (x j)) → Q .normal (putsV a0 ds 0 x) W) : wpAnyIn F n P md ops Q ops.size (Array.replicate ops.size false) a0 W0 := by
  refine anyIn_inv2 (Inv := fun l a W => ∃ (x : Nat → Value) (m : Nat) (u : Value), a = putsV a0 ds 0 x ∧ R m W u ∧ (∀ j, On l j → j ∉ ch → x j = V j) ∧ (∀ j, On l j → ∀ i ∈ dep j, On l i) ∧ (∀ k j, ch[k]? = some j → (On l j ↔ k < m)) ∧ m ≤ ch.length ∧ (m = 0 → u = v0) ∧ (∀ p j, m = p + 1 → ch[p]? = some j → x j = u) ∧ (∀ k j, ch[k]? = some j → k < m → K k (x j))) dep ops.size rfl hd ?_ ?_ _ _ _ _ (by simp) (by simp) ?_
  · rintro l a W i hl ⟨x, m, u, rfl, h1, h2, h4, h5, h6, h8, h9, h10⟩ hi hno hdep
    have hi' : i < ds.length := by omega
    have hdi : ds[i]? = some ds[i] := List.getElem?_eq_getElem hi'
    have hfx : ∀ j ∈ dep i, j ∉ ch → x j = V j := fun j hj hc => h2 j (hdep j hj) hc
    have hlt : ∀ j, On l j → j < ops.size := by
      intro j hj
      unfold On at hj
      rcases Nat.lt_or_ge j l.size with h | h
      · omega
      · rw [Array.getD_eq_getD_getElem?, Array.getElem?_eq_none h] at hj
        cases hj
    have hback : ∀ j q, j < ops.size → q ∈ dep j → q < j := by
      intro j q hj hq
      have hall2 := List.all_eq_true.1 hd j (by rw [List.mem_range]; exact hj)
      rw [Array.getElem?_eq_getElem hj] at hall2
      simp only [Bool.and_eq_true] at hall2
      obtain ⟨e, he, he2⟩ := List.any_eq_true.1 (List.all_eq_true.1 hall2.1 q hq)
      simp only [Bool.and_eq_true, decide_eq_true_eq] at he2
      have h7 := List.all_eq_true.1 hall2.2 e he
      rw [he2.2] at h7
      simp only [Bool.not_true, Bool.false_or, decide_eq_true_eq] at h7
      omega
    have hclo : ∀ j, On l j → ∀ q ∈ dcl j, On l q := by
      intro j
      induction j using Nat.strongRecOn with
      | _ j ih =>
        intro hj q hq
        have h0 := List.all_eq_true.1 (List.all_eq_true.1 hcl0 j (by rw [List.mem_range]; exact hlt j hj)) q hq
        rw [Bool.or_eq_true] at h0
        rcases h0 with h0 | h0
        · exact h4 j hj q (by simpa using h0)
        · obtain ⟨p, hp, hp2⟩ := List.any_eq_true.1 h0
          exact ih p (hback j p (hlt j hj) hp) (h4 j hj p hp) q (by simpa using hp2)
    have hon : ∀ j, On (l.setIfInBounds i true) j ↔ j = i ∨ On l j := by
      intro j
      constructor
      · intro h
        by_cases e : j = i
        · exact .inl e
        · exact .inr (h.of_set (Ne.symm e))
      · rintro (rfl | h)
        · exact On.self (by omega)
        · exact h.set
    have hcl : ∀ j, On (l.setIfInBounds i true) j → ∀ i' ∈ dep j, On (l.setIfInBounds i true) i' := by
      intro j hj q hq
      rcases (hon j).1 hj with rfl | hj
      · exact (hdep q hq).set
      · exact (h4 j hj q hq).set
    by_cases hc : i ∈ ch
    · obtain ⟨k, hk, hki⟩ := List.getElem_of_mem hc
      have hk' : ch[k]? = some i := by rw [List.getElem?_eq_getElem hk, hki]
      have hmk : m ≤ k := Nat.le_of_not_lt fun h => hno ((h5 k i hk').2 h)
      have hm : m = k := by
        cases k with
        | zero => omega
        | succ p =>
          have hp : ch[p]? = some ch[p] := List.getElem?_eq_getElem (by omega)
          have := (h5 p _ hp).1 (hdep _ (hord p i _ hp hk'))
          omega
      subst hm
      refine wpOpIn_mono ?_ (hcal x W m i ds[i] u h1 hk' hdi hfx h8 h9 h10)
      rintro a' W' ⟨v', rfl, hR, hK⟩
      refine ⟨updV x i v', m + 1, v', ?_, hR, ?_, hcl, ?_, by omega, fun e => by omega, ?_, ?_⟩
      · rw [puts_put ds a0 0 i _ x _ hnd hdi, Nat.zero_add]
      · intro j hj hjc
        have hne : j ≠ i := fun e => hjc (e ▸ hc)
        unfold updV
        rw [if_neg hne]
        exact h2 j (((hon j).1 hj).resolve_left hne) hjc
      · intro k j hkj
        rw [hon j, h5 k j hkj]
        constructor
        · rintro (rfl | h)
          · by_cases hkm : k < m
            · omega
            · by_cases hkm2 : m < k
              · obtain ⟨p1, p2⟩ := List.getElem?_eq_some_iff.1 hkj
                obtain ⟨q1, q2⟩ := List.getElem?_eq_some_iff.1 hk'
                exact absurd (q2.trans p2.symm) (List.pairwise_iff_getElem.1 hchn m k q1 p1 hkm2)
              · omega
          · omega
        · intro h
          by_cases hkm : k = m
          · subst hkm
            rw [hkj] at hk'
            exact .inl (Option.some.inj hk')
          · exact .inr (by omega)
      · intro p j hp hpj
        obtain rfl : m = p := by omega
        rw [hk'] at hpj
        obtain rfl := Option.some.inj hpj
        unfold updV
        rw [if_pos rfl]
      · intro k j hkj hkm
        by_cases e : k = m
        · subst e
          rw [hk'] at hkj
          obtain rfl := Option.some.inj hkj
          unfold updV
          rw [if_pos rfl]
          exact hK
        · have hne : j ≠ i := fun e2 => by
            subst e2
            obtain ⟨p1, p2⟩ := List.getElem?_eq_some_iff.1 hkj
            obtain ⟨q1, q2⟩ := List.getElem?_eq_some_iff.1 hk'
            exact absurd (p2.trans q2.symm) (List.pairwise_iff_getElem.1 hchn k m p1 q1 (by omega))
          unfold updV
          rw [if_neg hne]
          exact h10 k j hkj (by omega)
    · refine wpOpIn_mono ?_ (hfix x W m i ds[i] u h1 hdi hc hfx (fun k j hkj hj => (h5 k j hkj).1 (hdep j hj)) (fun k j hkj hij => Nat.le_of_not_lt fun h => hno (hclo j ((h5 k j hkj).2 h) i hij)))
      rintro a' W' ⟨rfl, h1'⟩
      refine ⟨updV x i (V i), m, u, ?_, h1', ?_, hcl, ?_, h6, h8, ?_, ?_⟩
      · rw [puts_put ds a0 0 i _ x _ hnd hdi, Nat.zero_add]
      · intro j hj hjc
        unfold updV
        split
        · rename_i e; rw [e]
        · rename_i e; exact h2 j (((hon j).1 hj).resolve_left e) hjc
      · intro k j hkj
        have hne : j ≠ i := fun e => hc (e ▸ List.mem_of_getElem? hkj)
        rw [hon j, ← h5 k j hkj]
        exact ⟨fun h => h.resolve_left hne, .inr⟩
      · intro p j hp hpj
        have hne : j ≠ i := fun e => hc (e ▸ List.mem_of_getElem? hpj)
        unfold updV
        rw [if_neg hne]
        exact h9 p j hp hpj
      · intro k j hkj hkm
        have hne : j ≠ i := fun e => hc (e ▸ List.mem_of_getElem? hkj)
        unfold updV
        rw [if_neg hne]
        exact h10 k j hkj hkm
  · rintro l a W ⟨x, m, u, rfl, h1, h2, h4, h5, h6, h8, h9, h10⟩ hon
    have hm : m = ch.length := by
      rcases Nat.eq_or_lt_of_le h6 with e | e
      · exact e
      · have hp : ch[m]? = some ch[m] := List.getElem?_eq_getElem e
        have := (h5 m _ hp).1 (hon _ (hin _ (List.getElem_mem e)))
        omega
    subst hm
    exact hdone x W u h1 (fun j hj hjc => h2 j (hon j hj) hjc) h9 (fun k j hkj => h10 k j hkj (List.getElem?_eq_some_iff.1 hkj).1)
  · exact ⟨_, 0, v0, (puts_start a0 ds 0).symm, h0, fun j hj => absurd hj (On.none _ _), fun j hj => absurd hj (On.none _ _), fun k j _ => ⟨fun h => absurd h (On.none _ _), fun h => absurd h (Nat.not_lt_zero _)⟩, Nat.zero_le _, fun _ => rfl, (fun p j h => by omega), fun k j _ h => absurd h (Nat.not_lt_zero _)⟩
end
end Go.Proofs.YtehadfidenejdaaGreatDoor

/-! Written by mksnof.py: what a frame tells of a sender: frames that are not of its stream. -/
namespace Go.Proofs.YtehadfidenejdaaGreatDoor
open Go Go.RowKit

namespace Sr
open Sd
/-- Is it a frame of this sender's stream, ahead of its bytes. -/
def headB (s : Snd) (f : FrM) : Bool := f.kind == 7 && f.stream == s.id && f.limit == 0 && f.code == 0 && f.ranges.len == 0
theorem of_start {w : World} (F : Array Value) : Below w.heap.size w ((w.alloc (.cells F 28)).alloc (.cells #[.int .u64 0, .int .u64 0] 77)) ∧ Row ((w.alloc (.cells F 28)).alloc (.cells #[.int .u64 0, .int .u64 0] 77)) w.heap.size 28 F ∧ Row ((w.alloc (.cells F 28)).alloc (.cells #[.int .u64 0, .int .u64 0] 77)) (w.heap.size + 1) 77 #[.int .u64 0, .int .u64 0] := by
  refine ⟨((Below.refl _ w).alloc (Nat.le_refl _) _).alloc (by show w.heap.size ≤ (w.alloc _).heap.size; simp) _, (Row.new w _ _).alloc _, ?_⟩
  have h := Row.new (w.alloc (.cells F 28)) 77 #[.int .u64 0, .int .u64 0]
  rw [World.size_alloc] at h
  exact h
set_option maxHeartbeats 2000000 in
set_option maxRecDepth 20000 in
theorem of_no {w : World} {g : Nat} {wr cm ls : Value} {s : Snd} {C L : List Rn} (h : SnOk w g wr cm ls s C L) (f : FrM) (hno : headB s f = false) :
    Calls Tryz.prog 93 #[.pointer (some ⟨g, 0, none⟩), .agg f.cells] w fun e w' => e = .returned (.tuple #[rcA (0, 0), .bool false]) ∧ Below w.heap.size w w' := by
  obtain ⟨hb0, q1, q2⟩ := of_start (w := w) f.cells
  have c1 := (h.below hb0).row.cell 1
  unfold snC at c1
  unfold headB at hno
  obtain ⟨kd, st, of_, li, co, fi, ⟨da, dl, dc, dg, do_, db⟩, ⟨ra, rl, rc, rg, ro, rb⟩⟩ := f
  unfold FrM.cells at *
  simp only at *
  obtain ⟨id, hid⟩ : ∃ id, s.id = id := ⟨_, rfl⟩
  rw [hid] at c1 hno
  have HB := veil hb0
  have Q1 := veil q1
  have Q2 := veil q2
  clear h hb0 q1 q2 hid
  go_enter Tryz.func93, Tryz.ntmps93
  go_wp2_with fail
  generalize ((w.alloc (.cells #[.int .u8 (kd : Int), .int .u64 (st : Int), .int .u64 (of_ : Int), .int .u64 (li : Int), .int .u64 (co : Int), .bool fi, .slice da dl dc, .slice ra rl rc] 28)).alloc (.cells #[.int .u64 0, .int .u64 0] 77)) = w0 at *
  have k0 := Q1.out.cell 0
  have k1 := Q1.out.cell 1
  have k3 := Q1.out.cell 3
  have k4 := Q1.out.cell 4
  have k7 := Q1.out.cell 7
  have r0 := Q2.out.cell 0
  have r1 := Q2.out.cell 1
  have f0 := Q2.out.frozen 0
  have f1 := Q2.out.frozen 1
  by_cases c0 : kd = 7
  rotate_left
  · have n0 : ((kd : Int) != 7) = true := by rw [bne_iff_ne]; omega
    clear hno c0
    go_quiet (fail)
    go_wp2_with fail
    have Q3 := Q2.out.below (below_drewN (Below.refl _ w0) nq) Q2.out.lt
    refine bodyPost_ret (result_two rfl _ _ (w.heap.size + 1) 77 _ ((Q3.set 0 _).set 1 _) 2 _ _ rfl rfl Tryz.underlying77 (by kernel_rfl) rfl) rfl ⟨rfl, ?_⟩
    have hle : w.heap.size ≤ w.heap.size + 1 := Nat.le_succ _
    exact ((HB.out.trans ((below_drewN (Below.refl _ w0) nq).mono HB.out.size)).setCell (p := ⟨w.heap.size + 1, 0, none⟩) hle _).setCell (p := ⟨w.heap.size + 1, 1, none⟩) hle _
  have n0 : ((kd : Int) != 7) = false := by rw [bne_eq_false_iff_eq]; omega
  by_cases cST : st = id
  rotate_left
  · have n1 : ((st : Int) != (id : Int)) = true := by rw [bne_iff_ne]; omega
    clear hno cST
    go_quiet (fail)
    go_wp2_with fail
    have Q3 := Q2.out.below (below_drewN (Below.refl _ w0) nq) Q2.out.lt
    refine bodyPost_ret (result_two rfl _ _ (w.heap.size + 1) 77 _ ((Q3.set 0 _).set 1 _) 2 _ _ rfl rfl Tryz.underlying77 (by kernel_rfl) rfl) rfl ⟨rfl, ?_⟩
    have hle : w.heap.size ≤ w.heap.size + 1 := Nat.le_succ _
    exact ((HB.out.trans ((below_drewN (Below.refl _ w0) nq).mono HB.out.size)).setCell (p := ⟨w.heap.size + 1, 0, none⟩) hle _).setCell (p := ⟨w.heap.size + 1, 1, none⟩) hle _
  have n1 : ((st : Int) != (id : Int)) = false := by rw [bne_eq_false_iff_eq]; omega
  by_cases c2 : li = 0
  rotate_left
  · have n2 : ((li : Int) != 0) = true := by rw [bne_iff_ne]; omega
    clear hno c2
    go_quiet (fail)
    go_wp2_with fail
    have Q3 := Q2.out.below (below_drewN (Below.refl _ w0) nq) Q2.out.lt
    refine bodyPost_ret (result_two rfl _ _ (w.heap.size + 1) 77 _ ((Q3.set 0 _).set 1 _) 2 _ _ rfl rfl Tryz.underlying77 (by kernel_rfl) rfl) rfl ⟨rfl, ?_⟩
    have hle : w.heap.size ≤ w.heap.size + 1 := Nat.le_succ _
    exact ((HB.out.trans ((below_drewN (Below.refl _ w0) nq).mono HB.out.size)).setCell (p := ⟨w.heap.size + 1, 0, none⟩) hle _).setCell (p := ⟨w.heap.size + 1, 1, none⟩) hle _
  have n2 : ((li : Int) != 0) = false := by rw [bne_eq_false_iff_eq]; omega
  by_cases c3 : co = 0
  rotate_left
  · have n3 : ((co : Int) != 0) = true := by rw [bne_iff_ne]; omega
    clear hno c3
    go_quiet (fail)
    go_wp2_with fail
    have Q3 := Q2.out.below (below_drewN (Below.refl _ w0) nq) Q2.out.lt
    refine bodyPost_ret (result_two rfl _ _ (w.heap.size + 1) 77 _ ((Q3.set 0 _).set 1 _) 2 _ _ rfl rfl Tryz.underlying77 (by kernel_rfl) rfl) rfl ⟨rfl, ?_⟩
    have hle : w.heap.size ≤ w.heap.size + 1 := Nat.le_succ _
    exact ((HB.out.trans ((below_drewN (Below.refl _ w0) nq).mono HB.out.size)).setCell (p := ⟨w.heap.size + 1, 0, none⟩) hle _).setCell (p := ⟨w.heap.size + 1, 1, none⟩) hle _
  have n3 : ((co : Int) != 0) = false := by rw [bne_eq_false_iff_eq]; omega
  have c4 : rl ≠ 0 := by
    intro e
    rw [Bool.eq_false_iff] at hno
    apply hno
    simp [c0, cST, c2, c3, e]
  have n4 : (0 : Int) < (rl : Int) := by omega
  clear hno c0 cST c2 c3 c4
  go_quiet (fail)
  go_wp2_with fail
  have Q3 := Q2.out.below (below_drewN (Below.refl _ w0) nq) Q2.out.lt
  refine bodyPost_ret (result_two rfl _ _ (w.heap.size + 1) 77 _ ((Q3.set 0 _).set 1 _) 2 _ _ rfl rfl Tryz.underlying77 (by kernel_rfl) rfl) rfl ⟨rfl, ?_⟩
  have hle : w.heap.size ≤ w.heap.size + 1 := Nat.le_succ _
  exact ((HB.out.trans ((below_drewN (Below.refl _ w0) nq).mono HB.out.size)).setCell (p := ⟨w.heap.size + 1, 0, none⟩) hle _).setCell (p := ⟨w.heap.size + 1, 1, none⟩) hle _
end Sr
end Go.Proofs.YtehadfidenejdaaGreatDoor
