/-
  Out of SnEq, SnCalloc.
-/
import Derived.Test.YtnlckmopgkabpaaGsSnTake
import Derived.Laws.BytesArg
import Derived.Test.YtnlckmopgkabpaaGs4
import Derived.Test.YtnlckmopgkabpaaGs8

/-! bytes.Equal of slices in memory. -/
namespace Go.Proofs.Ytnlckmopgkabpaa
open Go Go.RowKit

namespace Sr
open Sd
/-- Bytes in a slice. -/
def BIn (w : World) (a : Option Addr) (n : Nat) (b : List By) : Prop := b.length = n ∧ (n ≠ 0 → ∃ g o, a = some ⟨g, o, none⟩ ∧ ∀ i, i < n → w.cell? ⟨g, o + i, none⟩ = some (.int .u8 (v8 (gb b i))))
theorem bIn_sl {w : World} {p : SL} (h : p.Ok w) : BIn w p.a p.len p.b := ⟨h.hb, fun hn => ⟨p.g, p.off, h.at_ (by omega), h.cell⟩⟩
theorem bIn_row {w : World} {a : Option Addr} {n c : Nat} {b : List By} (h : RowO w 5 1 (.slice a n c) n (vb b)) : BIn w a n b := by
  have hl : b.length = n := by have := h.1; simpa [vb] using this
  refine ⟨hl, fun hn => ?_⟩
  rcases h.2 with ⟨_, h0⟩ | ⟨g, o, cap, cur, h1, _⟩
  · exact absurd h0 hn
  · injection h1 with e1 _ _
    refine ⟨g, o, e1, fun i hi => ?_⟩
    obtain ⟨g', o', q1, q2⟩ := h.cells i (.int .u8 (v8 (gb b i))) (by
      unfold vb gb
      rw [List.getElem?_map, List.getElem?_eq_getElem (by omega)]
      rfl)
    rw [e1] at q1
    injection q1 with q1
    injection q1 with q1 q3
    subst q1 q3
    exact q2
theorem BIn.conv {w : World} {a : Option Addr} {n c : Nat} {b : List By} (h : BIn w a n b) (W : World) (hW : W.heap = w.heap) :
    (convert 22 9 (.slice a n c)).run Try.prog W = .ok (.string (strOfNums (b.map v8))) W := by
  obtain ⟨hl, h⟩ := h
  rcases Nat.eq_zero_or_pos n with e | e
  · subst e
    obtain rfl : b = [] := List.eq_nil_of_length_eq_zero hl
    rw [run_convert_bytes_string W 22 9 5 a 0 c Try.underlying22 Try.underlying5 Try.underlying9]
    cases a <;> simp [Conv.bytesToString, loadCells]
    all_goals rfl
  · obtain ⟨g, o, rfl, hc⟩ := h (by omega)
    refine run_convert_bytes_arg W 22 5 Try.underlying22 Try.underlying5 g o n c (b.map v8) (by simpa using hl) (fun i hi => ?_) 9 Try.underlying9
    rw [show W.cell? ⟨g, o + i, none⟩ = w.cell? ⟨g, o + i, none⟩ by unfold World.cell?; rw [hW], hc i hi]
    unfold gb
    rw [List.getD_eq_getElem?_getD, List.getElem?_map, List.getElem?_eq_getElem (by omega)]
    rfl
theorem str_inj {b c : List By} : strOfNums (b.map v8) = strOfNums (c.map v8) ↔ b = c := by
  constructor
  · intro h
    have h := congrArg (fun x : ByteArray => x.data.toList) h
    simp only [strOfNums_data, List.map_map] at h
    refine List.map_inj_right (f := (fun n : Int => UInt8.ofNat n.toNat) ∘ v8) ?_ |>.1 h
    intro x y hxy
    have hxy : UInt8.ofNat (v8 x).toNat = UInt8.ofNat (v8 y).toNat := hxy
    have := congrArg UInt8.toNat hxy
    simp only [v8, Int.toNat_natCast, UInt8.toNat_ofNat'] at this
    have hx := x.isLt
    have hy := y.isLt
    apply BitVec.eq_of_toNat_eq
    omega
  · rintro rfl; rfl
set_option maxHeartbeats 1000000 in
theorem equal_any {w : World} {a1 a2 : Option Addr} {n m c d : Nat} {b1 b2 : List By} (h1 : BIn w a1 n b1) (h2 : BIn w a2 m b2) :
    Calls Try.prog 48 #[.slice a1 n c, .slice a2 m d] w fun e w' => e = .returned (.bool (decide (b1 = b2))) ∧ w' = w := by
  have k1 := fun W hW => h1.conv (c := c) W hW
  have k2 := fun W hW => h2.conv (c := d) W hW
  have hd : ((strOfNums (b1.map v8)).toList == (strOfNums (b2.map v8)).toList) = decide (b1 = b2) := by
    rw [Bool.eq_iff_iff, beq_iff_eq, decide_eq_true_eq, ← str_inj, ByteArray.toList_eq, ByteArray.toList_eq]
    constructor
    · intro h
      exact ByteArray.ext (Array.toList_inj.1 h)
    · intro h
      rw [h]
  clear h1 h2
  generalize strOfNums (b1.map v8) = s1 at *
  generalize strOfNums (b2.map v8) = s2 at *
  generalize decide (b1 = b2) = D at *
  have K1 := k1 w rfl
  have K2 := k2 w rfl
  have HD := veil hd
  clear hd
  go_enter Try.func48, Try.ntmps48
  go_wp2_with fail
  go_ret
  exact ⟨by rw [← HD.out]; rfl, rfl⟩
theorem fresh_q {w : World} {g : Nat} {wr cm ls : Value} {s : Snd} {C L : List Rn} (h : SnOk w g wr cm ls s C L) : Calls Try.prog 16 #[.pointer (some ⟨g, 0, none⟩)] w fun e w' => e = .returned (.int .u64 (s.fresh : Int)) ∧ ∃ q, w' = w.drewN q := by
  have T1 := veil (there_yes h)
  have S1 := veil (fun q => size_any (h.below ((below_drewN (Below.refl _ w) q))))
  have c5 := h.row.cell 5
  have hl := h.rep.fine.len
  have hf := h.rep.fine.fr
  have hm : min (sn s : Int) (s.b.length : Int) = (s.fresh : Int) := by
    unfold sn
    split
    · omega
    · rename_i e; have := (h.rep.fine.ended e).2; omega
  clear h hl hf
  unfold snC at c5
  obtain ⟨n, hn⟩ : ∃ n, s.b.length = n := ⟨_, rfl⟩
  obtain ⟨m, hm2⟩ : ∃ m, sn s = m := ⟨_, rfl⟩
  obtain ⟨f, hf2⟩ : ∃ f, s.fresh = f := ⟨_, rfl⟩
  rw [hn] at S1 hm
  rw [hm2] at hm
  rw [hm2] at c5
  rw [hf2] at hm ⊢
  clear hn hm2 hf2
  go_enter Try.func16, Try.ntmps16
  go_wp2_with fail
  refine T1.out.mono ?_
  rintro e1 w1 ⟨rfl, rfl⟩
  go_wp2_with fail
  go_quiet (first | (go_at_call 33; exact Calls.quiet_of_same (S1.out _)))
  go_wp2_with fail
  go_ret
  exact ⟨rfl, _, rfl⟩
end Sr
end Go.Proofs.Ytnlckmopgkabpaa

/-! A region that draws its order: one call that turns the world, a new variable that is filled with what the call answered; all else reads. No program in sight. -/
namespace Go.Proofs.Ytnlckmopgkabpaa
open Go Go.RowKit

section
variable {F : Fence} {n : Nat} {P : Program} {ops : Array Oper} {Q : Exit → Act → World → Prop} {md : Region.Mode}
def ptrC (p : Nat) : Value := .pointer (some ⟨p, 0, none⟩)
theorem anyIn_calloc {a0 : Act} {W0 : World} (V : Nat → Value) (U : Value → Nat → Value) (aft : Nat → Bool) (ic ia is_ : Nat) (anc : List Nat) (T : TypeId) (zc : Array Value) (cs : Value → Array Value) (own : Nat → Prop) (C : Value → (Nat → Prop) → World → Prop)
    (ds : List Nat) (dep : Nat → List Nat) (hd : edgesB md ops dep = true) (hlen : ds.length = ops.size) (hnd : ds.Nodup)
    (hanc : anc.all (fun j => decide (j < ops.size) && ((dep ic).contains j || anc.any fun q => decide (j < q) && (dep q).contains j)) = true)
    (hic : ic < ops.size) (hia : ia < ops.size) (his : is_ < ops.size) (hcc : aft ic = true) (hca : aft ia = false) (hcs : aft is_ = false) (hias : ia ≠ is_)
    (haft : ((List.range ops.size).all fun j => !aft j || decide (j = ic) || (dep j).any fun q => aft q) = true)
    (hsa : ia ∈ dep is_) (hsc : ((dep is_).any fun q => aft q) = true)
    (hU : ∀ v, U v ic = v)
    (hown : ∀ k, own k → k < W0.heap.size)
    (hClt : ∀ v o W, C v o W → ∀ k, o k → k < W.heap.size)
    (hCkeep : ∀ v o W W' st, C v o W → KeepP st W W' → (∀ k, o k → ¬ st k) → (∀ k, st k → W0.heap.size ≤ k) → C v o W')
    (hW : Below W0.heap.size W0 W0)
    (hfix : ∀ (x : Nat → Value) (W : World) (i d : Nat), i ≠ ia → i ≠ is_ → aft i = false → ds[i]? = some d → (i ∈ anc → Below W0.heap.size W0 W) → (∀ j ∈ dep i, aft j = false → j ≠ ia → j ≠ is_ → x j = V j) → wpOpIn F n P ops Q i (fun a' W' => a' = (putsV a0 ds 0 x).put (some d) (V i) ∧ W' = W) (putsV a0 ds 0 x) W)
    (hcall : ∀ (x : Nat → Value) (W : World) (d : Nat), ds[ic]? = some d → Below W0.heap.size W0 W → (∀ j ∈ dep ic, aft j = false → j ≠ ia → j ≠ is_ → x j = V j) → wpOpIn F n P ops Q ic (fun a' W' => ∃ v o, a' = (putsV a0 ds 0 x).put (some d) v ∧ C v o W' ∧ KeepP own W W' ∧ (∀ k, o k → own k ∨ W.heap.size ≤ k)) (putsV a0 ds 0 x) W)
    (haftS : ∀ (x : Nat → Value) (W : World) (i d : Nat) (v : Value), aft i = true → i ≠ ic → ds[i]? = some d → (∃ o, C v o W) → (∀ j ∈ dep i, aft j = true → x j = U v j) → wpOpIn F n P ops Q i (fun a' W' => a' = (putsV a0 ds 0 x).put (some d) (U v i) ∧ W' = W) (putsV a0 ds 0 x) W)
    (hall : ∀ (x : Nat → Value) (W : World) (d : Nat), ds[ia]? = some d → wpOpIn F n P ops Q ia (fun a' W' => a' = (putsV a0 ds 0 x).put (some d) (ptrC W.heap.size) ∧ W' = W.alloc (.cells zc T)) (putsV a0 ds 0 x) W)
    (hsto : ∀ (x : Nat → Value) (W : World) (d p : Nat) (v : Value), ds[is_]? = some d → x ia = ptrC p → Row W p T zc → (∃ o, C v o W) → (∀ j ∈ dep is_, aft j = true → x j = U v j) → wpOpIn F n P ops Q is_ (fun a' W' => (∃ u, a' = (putsV a0 ds 0 x).put (some d) u) ∧ W' = W.setRow p (cs v)) (putsV a0 ds 0 x) W)
    (hrow : ∀ W p v o, C v o W → Row W p T zc → Row (W.setRow p (cs v)) p T (cs v) ∧ KeepP (fun k => k = p) W (W.setRow p (cs v)))
    (hdone : ∀ (x : Nat → Value) (W : World) (v : Value) (o : Nat → Prop) (p : Nat), C v o W → (∀ j, j < ops.size → aft j = false → j ≠ ia → j ≠ is_ → x j = V j) → (∀ j, j < ops.size → aft j = true → x j = U v j) → x ia = ptrC p → W0.heap.size ≤ p → ¬ o p → Row W p T (cs v) → Q .normal (putsV a0 ds 0 x) W) :
    wpAnyIn F n P md ops Q ops.size (Array.replicate ops.size false) a0 W0 := by
  have hancP : ∀ j ∈ anc, j < ops.size ∧ (j ∈ dep ic ∨ ∃ q ∈ anc, j < q ∧ j ∈ dep q) := by
    intro j hj
    have h := List.all_eq_true.1 hanc j hj
    rw [Bool.and_eq_true, decide_eq_true_eq, Bool.or_eq_true] at h
    refine ⟨h.1, h.2.imp (fun q => by simpa using q) (fun q => ?_)⟩
    obtain ⟨r, h1, h2⟩ := List.any_eq_true.1 q
    rw [Bool.and_eq_true, decide_eq_true_eq] at h2
    exact ⟨r, h1, h2.1, by simpa using h2.2⟩
  have haftP : ∀ j, j < ops.size → aft j = true → j = ic ∨ ∃ q ∈ dep j, aft q = true := by
    intro j hj h
    have h1 := List.all_eq_true.1 haft j (by rw [List.mem_range]; exact hj)
    rw [h] at h1
    simp only [Bool.not_true, Bool.false_or, Bool.or_eq_true, decide_eq_true_eq] at h1
    exact h1.imp_right (fun q => by obtain ⟨r, a, b⟩ := List.any_eq_true.1 q; exact ⟨r, a, b⟩)
  obtain ⟨qs, hqs1, hqs2⟩ := List.any_eq_true.1 hsc
  refine anyIn_inv2 (Inv := fun l a W => ∃ x : Nat → Value, a = putsV a0 ds 0 x ∧ (∀ j, On l j → aft j = false → j ≠ ia → j ≠ is_ → x j = V j) ∧ (∀ j, On l j → ∀ i ∈ dep j, On l i) ∧
    ((¬ On l ic ∧ Below W0.heap.size W0 W ∧ (∀ j, On l j → aft j = false) ∧ (On l ia → ∃ p, x ia = ptrC p ∧ W0.heap.size ≤ p ∧ Row W p T zc)) ∨
     (On l ic ∧ ∃ v o, (C v o W ∧ W0.heap.size ≤ W.heap.size) ∧ (∀ j, On l j → aft j = true → x j = U v j) ∧ (On l ia → ∃ p, x ia = ptrC p ∧ W0.heap.size ≤ p ∧ ¬ o p ∧ (On l is_ ∧ Row W p T (cs v) ∨ ¬ On l is_ ∧ Row W p T zc))))) dep ops.size rfl hd ?_ ?_ _ _ _ _ (by simp) (by simp) ?_
  · rintro l a W i hl ⟨x, rfl, h1, h4, h5⟩ hi hno hdep
    have hdi : ds[i]? = some ds[i] := List.getElem?_eq_getElem (by omega)
    have hon : ∀ j, On (l.setIfInBounds i true) j ↔ j = i ∨ On l j := by
      intro j
      constructor
      · intro h
        by_cases e : j = i
        · exact .inl e
        · exact .inr (h.of_set (Ne.symm e))
      · rintro (rfl | h)
        · exact On.self (by omega)
        · exact h.set
    have hcl : ∀ j, On (l.setIfInBounds i true) j → ∀ i' ∈ dep j, On (l.setIfInBounds i true) i' := by
      intro j hj q hq
      rcases (hon j).1 hj with rfl | hj
      · exact (hdep q hq).set
      · exact (h4 j hj q hq).set
    have hput : ∀ v, (putsV a0 ds 0 x).put (some ds[i]) v = putsV a0 ds 0 (updV x i v) := fun v => by rw [puts_put ds a0 0 i _ x _ hnd hdi, Nat.zero_add]
    have hself : ∀ v, updV x i v i = v := fun v => by unfold updV; rw [if_pos rfl]
    have hoth : ∀ v j, j ≠ i → updV x i v j = x j := fun v j e => by unfold updV; rw [if_neg e]
    have hnos : ¬ On l ia → ¬ On l is_ := fun h1 h2 => h1 (h4 _ h2 _ hsa)
    by_cases eA : i = ia
    · subst eA
      refine wpOpIn_mono ?_ (hall x W ds[i] hdi)
      rintro a' W' ⟨rfl, rfl⟩
      have hni : i ≠ ic := fun e => by rw [e, hcc] at hca; cases hca
      refine ⟨updV x i (ptrC W.heap.size), hput _, fun j hj ha n1 n2 => by rw [hoth _ _ n1]; exact h1 j (((hon j).1 hj).resolve_left n1) ha n1 n2, hcl, ?_⟩
      have hic' : On (l.setIfInBounds i true) ic ↔ On l ic := by rw [hon]; exact ⟨fun h => h.resolve_left (Ne.symm hni), .inr⟩
      have his' : ¬ On (l.setIfInBounds i true) is_ := fun h => hnos hno (((hon is_).1 h).resolve_left (Ne.symm hias))
      rcases h5 with ⟨g1, g2, g3, g4⟩ | ⟨g1, v, o, ⟨g2, gz⟩, g3, g4⟩
      · refine .inl ⟨fun h => g1 (hic'.1 h), g2.alloc g2.size _, fun j hj => ?_, fun _ => ⟨_, hself _, g2.size, Row.new _ _ _⟩⟩
        rcases (hon j).1 hj with rfl | hj
        · exact hca
        · exact g3 j hj
      · refine .inr ⟨hic'.2 g1, v, o, ⟨hCkeep v o W _ (fun _ => False) g2 (KeepP.of_below ((Below.refl _ W).alloc (Nat.le_refl _) _)) (fun _ _ q => q) (fun _ q => q.elim), Nat.le_trans gz ((Below.refl _ W).alloc (Nat.le_refl _) _).size⟩, fun j hj ha => ?_, fun _ => ⟨_, hself _, gz, fun q => Nat.lt_irrefl _ (hClt _ _ _ g2 _ q), .inr ⟨his', Row.new _ _ _⟩⟩⟩
        have hj' := ((hon j).1 hj).resolve_left (fun e => by rw [e, hca] at ha; cases ha)
        rw [hoth _ _ (fun e => by rw [e, hca] at ha; cases ha)]
        exact g3 j hj' ha
    by_cases eS : i = is_
    · subst eS
      have hni : i ≠ ic := fun e => by rw [e, hcc] at hcs; cases hcs
      rcases h5 with ⟨g1, g2, g3, g4⟩ | ⟨g1, v, o, ⟨g2, gz⟩, g3, g4⟩
      · have := g3 qs (hdep qs hqs1)
        rw [hqs2] at this
        cases this
      · obtain ⟨p, e1, e2, e3, e4⟩ := g4 (hdep ia hsa)
        have e5 : Row W p T zc := e4.elim (fun h => absurd h.1 hno) (fun h => h.2)
        refine wpOpIn_mono ?_ (hsto x W ds[i] p v hdi e1 e5 ⟨o, g2⟩ (fun j hj ha => g3 j (hdep j hj) ha))
        rintro a' W' ⟨⟨u, rfl⟩, rfl⟩
        obtain ⟨r1, r2⟩ := hrow W p v o g2 e5
        refine ⟨updV x i u, hput _, fun j hj ha n1 n2 => by rw [hoth _ _ n2]; exact h1 j (((hon j).1 hj).resolve_left n2) ha n1 n2, hcl, .inr ⟨g1.set, v, o, ⟨hCkeep v o W _ (fun k => k = p) g2 r2 (fun k hk e => e3 (e ▸ hk)) (fun k e => by rw [e]; exact e2), Nat.le_trans gz r2.size⟩, fun j hj ha => ?_, fun _ => ⟨p, by rw [hoth _ _ hias]; exact e1, e2, e3, .inl ⟨(hon i).2 (.inl rfl), r1⟩⟩⟩⟩
        have hj' := ((hon j).1 hj).resolve_left (fun e => by rw [e, hcs] at ha; cases ha)
        rw [hoth _ _ (fun e => by rw [e, hcs] at ha; cases ha)]
        exact g3 j hj' ha
    by_cases eC : i = ic
    · subst eC
      rcases h5 with ⟨g1, g2, g3, g4⟩ | ⟨g1, _⟩
      · refine wpOpIn_mono ?_ (hcall x W ds[i] hdi g2 (fun j hj ha n1 n2 => h1 j (hdep j hj) ha n1 n2))
        rintro a' W' ⟨v, o, rfl, c1, c2, c3⟩
        refine ⟨updV x i v, hput _, fun j hj ha n1 n2 => ?_, hcl, .inr ⟨On.self (by omega), v, o, ⟨c1, Nat.le_trans g2.size c2.size⟩, fun j hj ha => ?_, fun hA => ?_⟩⟩
        · have hne : j ≠ i := fun e => by rw [e, hcc] at ha; cases ha
          rw [hoth _ _ hne]
          exact h1 j (((hon j).1 hj).resolve_left hne) ha n1 n2
        · rcases (hon j).1 hj with rfl | hj
          · rw [hself, hU]
          · have := g3 j hj; rw [ha] at this; cases this
        · have hA' := ((hon ia).1 hA).resolve_left (Ne.symm eA)
          obtain ⟨p, e1, e2, e3⟩ := g4 hA'
          have hop : ¬ own p := fun q => by have := hown p q; omega
          refine ⟨p, by rw [hoth _ _ (Ne.symm eA)]; exact e1, e2, fun q => (c3 p q).elim hop (fun q => by have := e3.lt; omega), .inr ⟨fun h => ?_, (c2.block p e3.lt hop).trans e3⟩⟩
          have h6 := ((hon is_).1 h).resolve_left (Ne.symm eS)
          have h7 := g3 qs (h4 _ h6 qs hqs1)
          rw [hqs2] at h7
          cases h7
      · exact absurd g1 hno
    by_cases ha : aft i = true
    · obtain ⟨q, hq1, hq2⟩ := (haftP i hi ha).resolve_left eC
      rcases h5 with ⟨g1, g2, g3, g4⟩ | ⟨g1, v, o, ⟨g2, gz⟩, g3, g4⟩
      · have := g3 q (hdep q hq1)
        rw [hq2] at this
        cases this
      · refine wpOpIn_mono ?_ (haftS x W i ds[i] v ha eC hdi ⟨o, g2⟩ (fun j hj h => g3 j (hdep j hj) h))
        rintro a' W' ⟨rfl, rfl⟩
        refine ⟨updV x i (U v i), hput _, fun j hj h n1 n2 => ?_, hcl, .inr ⟨g1.set, v, o, ⟨g2, gz⟩, fun j hj h => ?_, fun hA => ?_⟩⟩
        · have hne : j ≠ i := fun e => by rw [e, ha] at h; cases h
          rw [hoth _ _ hne]
          exact h1 j (((hon j).1 hj).resolve_left hne) h n1 n2
        · rcases (hon j).1 hj with rfl | hj
          · exact hself _
          · have hne : j ≠ i := fun e => hno (e ▸ hj)
            rw [hoth _ _ hne]
            exact g3 j hj h
        · obtain ⟨p, e1, e2, e3, e4⟩ := g4 (((hon ia).1 hA).resolve_left (Ne.symm eA))
          exact ⟨p, by rw [hoth _ _ (Ne.symm eA)]; exact e1, e2, e3, e4.imp (fun h => ⟨h.1.set, h.2⟩) (fun h => ⟨fun h2 => h.1 (((hon is_).1 h2).resolve_left (Ne.symm eS)), h.2⟩)⟩
    · have ha : aft i = false := Bool.eq_false_iff.2 ha
      have hanc2 : i ∈ anc → Below W0.heap.size W0 W := by
        intro hin
        rcases h5 with ⟨g1, g2, _⟩ | ⟨g1, _⟩
        · exact g2
        · exfalso
          have key : ∀ (k j : Nat), ops.size - j ≤ k → j ∈ anc → On l j := by
            intro k
            induction k with
            | zero => intro j hk hj; have := (hancP j hj).1; omega
            | succ k ih =>
              intro j hk hj
              obtain ⟨p1, p2 | ⟨q, p2, p3, p4⟩⟩ := hancP j hj
              · exact h4 ic g1 j p2
              · exact h4 q (ih q (by omega) p2) j p4
          exact hno (key _ i (Nat.le_refl _) hin)
      refine wpOpIn_mono ?_ (hfix x W i ds[i] eA eS ha hdi hanc2 (fun j hj h n1 n2 => h1 j (hdep j hj) h n1 n2))
      rintro a' W' ⟨rfl, rfl⟩
      refine ⟨updV x i (V i), hput _, fun j hj h n1 n2 => ?_, hcl, ?_⟩
      · rcases (hon j).1 hj with rfl | hj
        · exact hself _
        · have hne : j ≠ i := fun e => hno (e ▸ hj)
          rw [hoth _ _ hne]
          exact h1 j hj h n1 n2
      · rcases h5 with ⟨g1, g2, g3, g4⟩ | ⟨g1, v, o, ⟨g2, gz⟩, g3, g4⟩
        · refine .inl ⟨fun h => g1 (((hon ic).1 h).resolve_left (Ne.symm eC)), g2, fun j hj => ?_, fun hA => ?_⟩
          · rcases (hon j).1 hj with rfl | hj
            · exact ha
            · exact g3 j hj
          · obtain ⟨p, e1, e2, e3⟩ := g4 (((hon ia).1 hA).resolve_left (Ne.symm eA))
            exact ⟨p, by rw [hoth _ _ (Ne.symm eA)]; exact e1, e2, e3⟩
        · refine .inr ⟨g1.set, v, o, ⟨g2, gz⟩, fun j hj h => ?_, fun hA => ?_⟩
          · have hne : j ≠ i := fun e => by rw [e, ha] at h; cases h
            rw [hoth _ _ hne]
            exact g3 j (((hon j).1 hj).resolve_left hne) h
          · obtain ⟨p, e1, e2, e3, e4⟩ := g4 (((hon ia).1 hA).resolve_left (Ne.symm eA))
            exact ⟨p, by rw [hoth _ _ (Ne.symm eA)]; exact e1, e2, e3, e4.imp (fun h => ⟨h.1.set, h.2⟩) (fun h => ⟨fun h2 => h.1 (((hon is_).1 h2).resolve_left (Ne.symm eS)), h.2⟩)⟩
  · rintro l a W ⟨x, rfl, h1, h4, h5⟩ hon
    rcases h5 with ⟨g1, _⟩ | ⟨g1, v, o, ⟨g2, gz⟩, g3, g4⟩
    · exact absurd (hon ic hic) g1
    · obtain ⟨p, e1, e2, e3, e4⟩ := g4 (hon ia hia)
      exact hdone x W v o p g2 (fun j hj ha n1 n2 => h1 j (hon j hj) ha n1 n2) (fun j hj ha => g3 j (hon j hj) ha) e1 e2 e3 (e4.elim (fun h => h.2) (fun h => absurd (hon is_ his) h.1))
  · exact ⟨_, (puts_start a0 ds 0).symm, fun j hj => absurd hj (On.none _ _), fun j hj => absurd hj (On.none _ _), .inl ⟨On.none _ _, hW, fun j hj => absurd hj (On.none _ _), fun hj => absurd hj (On.none _ _)⟩⟩
end
end Go.Proofs.Ytnlckmopgkabpaa
