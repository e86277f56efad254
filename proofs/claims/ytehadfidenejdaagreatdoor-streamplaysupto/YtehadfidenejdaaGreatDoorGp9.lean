/-
  Out of FlMem, LgRow, RgLoop, HfLoop, LgLoop, LgTool, LgCutO, SrRow, SrApp.
-/
import Derived.Test.YtehadfidenejdaaGreatDoorGp8
import Derived.Test.YtehadfidenejdaaGreatDoorGp1
import Derived.Maps.AppendAt
import Derived.ArgAppend
import Derived.Laws.OwnMore
import Derived.Deep.AppendLies
import Derived.Test.YtehadfidenejdaaGreatDoorGp2
import Derived.Great.BuildSlice
import Derived.Lib.AppendZerosOnto
import Derived.Lib.Overlaps

/-! A region that draws its order: reads, a call, one store, and what comes behind it. No program in sight. -/
namespace Go.Proofs.YtehadfidenejdaaGreatDoor
open Go Go.RowKit

section
variable {F : Fence} {n : Nat} {P : Program} {ops : Array Oper} {Q : Exit → Act → World → Prop} {md : Region.Mode}
theorem anyIn_mem {a0 : Act} {W0 : World} (G : Nat → Value → Prop) (I J : World → Prop) (st : Nat) (pre : Nat → Bool) (ds : List Nat) (dep : Nat → List Nat) (hd : edgesB md ops dep = true) (hlen : ds.length = ops.size) (hnd : ds.Nodup)
    (hst : st < ds.length) (hps : pre st = false) (hall : ∀ j, pre j = true → j ∈ dep st) (hI : I W0)
    (hstep : ∀ (x : Nat → Value) (W : World) (i d : Nat), pre i = true → I W → ds[i]? = some d → (∀ j ∈ dep i, G j (x j)) → wpOpIn F n P ops Q i (fun a' W' => ∃ v, a' = (putsV a0 ds 0 x).put (some d) v ∧ I W' ∧ G i v) (putsV a0 ds 0 x) W)
    (hstore : ∀ (x : Nat → Value) (W : World), I W → (∀ j, pre j = true → G j (x j)) → wpOpIn F n P ops Q st (fun a' W' => a' = putsV a0 ds 0 x ∧ J W') (putsV a0 ds 0 x) W)
    (hafter : ∀ (x : Nat → Value) (W : World) (i d : Nat), pre i = false → i ≠ st → ds[i]? = some d → (∀ j ∈ dep i, j ≠ st → G j (x j)) → wpOpIn F n P ops Q i (fun a' W' => ∃ v, a' = (putsV a0 ds 0 x).put (some d) v ∧ W' = W ∧ G i v) (putsV a0 ds 0 x) W)
    (hdone : ∀ x W, J W → (∀ j, j < ds.length → j ≠ st → G j (x j)) → Q .normal (putsV a0 ds 0 x) W) : wpAnyIn F n P md ops Q ops.size (Array.replicate ops.size false) a0 W0 := by
  refine anyIn_inv2 (Inv := fun l a W => ∃ x : Nat → Value, a = putsV a0 ds 0 x ∧ (∀ j, On l j → j ≠ st → G j (x j)) ∧ ((¬ On l st ∧ I W) ∨ (On l st ∧ (∀ j, pre j = true → On l j) ∧ J W))) dep ops.size rfl hd ?_ ?_ _ _ _ _ (by simp) (by simp) ⟨_, (puts_start a0 ds 0).symm, fun _ hj => absurd hj (On.none _ _), .inl ⟨On.none _ _, hI⟩⟩
  · rintro l a W i hl ⟨x, rfl, hG, hJ⟩ hi hno hdep
    have hlt : i < ds.length := by omega
    have hdi : ds[i]? = some ds[i] := List.getElem?_eq_getElem hlt
    have upd : ∀ v, G i v → ∀ j, On (l.setIfInBounds i true) j → j ≠ st → G j (updV x i v j) := by
      intro v hv j hj hne
      unfold updV
      split
      · rename_i e; rw [e]; exact hv
      · rename_i e; exact hG j (hj.of_set (Ne.symm e)) hne
    by_cases h : pre i = true
    · have hne : i ≠ st := fun e => by rw [e, hps] at h; cases h
      rcases hJ with ⟨h1, h2⟩ | ⟨_, h2, _⟩
      · refine wpOpIn_mono ?_ (hstep x W i ds[i] h h2 hdi (fun j hj => ?_))
        · rintro a' W' ⟨v, rfl, hI', hv⟩
          refine ⟨updV x i v, by rw [puts_put ds a0 0 i _ x _ hnd hdi, Nat.zero_add], upd v hv, .inl ⟨fun e => h1 (e.of_set (by omega)), hI'⟩⟩
        · have hj' := hdep j hj
          refine hG j hj' (fun e => ?_)
          rw [e] at hj'
          exact h1 hj'
      · exact absurd (h2 i h) hno
    by_cases hs : i = st
    · subst hs
      rcases hJ with ⟨h1, h2⟩ | ⟨h1, _⟩
      · have hon : ∀ j, pre j = true → On l j := fun j hj => hdep j (hall j hj)
        refine wpOpIn_mono ?_ (hstore x W h2 (fun j hj => hG j (hon j hj) (fun e => by rw [e, hps] at hj; cases hj)))
        rintro a' W' ⟨rfl, hJ'⟩
        exact ⟨x, rfl, fun j hj hne => hG j (hj.of_set (Ne.symm hne)) hne, .inr ⟨On.self (by omega), fun j hj => (hon j hj).set, hJ'⟩⟩
      · exact absurd h1 hno
    · refine wpOpIn_mono ?_ (hafter x W i ds[i] (by simpa using h) hs hdi (fun j hj hne => hG j (hdep j hj) hne))
      rintro a' W' ⟨v, rfl, rfl, hv⟩
      refine ⟨updV x i v, by rw [puts_put ds a0 0 i _ x _ hnd hdi, Nat.zero_add], upd v hv, ?_⟩
      rcases hJ with ⟨h1, h2⟩ | ⟨h1, h2, h3⟩
      · exact .inl ⟨fun e => h1 (e.of_set (by omega)), h2⟩
      · exact .inr ⟨h1.set, fun j hj => (h2 j hj).set, h3⟩
  · rintro l a W ⟨x, rfl, hG, hJ⟩ hon
    rcases hJ with ⟨h1, _⟩ | ⟨_, _, h3⟩
    · exact absurd (hon st (by omega)) h1
    · exact hdone x W h3 (fun j hj hne => hG j (hon j (by omega)) hne)
end
end Go.Proofs.YtehadfidenejdaaGreatDoor

/-! A list in memory that may begin in the middle of its block, and may be shorter than it. No function of the program in sight. -/
namespace Go.Proofs.YtehadfidenejdaaGreatDoor
open Go Go.RowKit

def RowO (w : World) (e : TypeId) (size : Nat) (v : Value) (n : Nat) (xs : List Value) : Prop :=
  xs.length = n * size ∧
  ((v = .slice none 0 0 ∧ n = 0) ∨
   ∃ g o cap cur, v = .slice (some ⟨g, o, none⟩) n cap ∧ w.heap[g]? = some (.cells cur e (0, 0)) ∧ n ≤ cap ∧ cap ≤ maxLen ∧ o + cap * size ≤ cur.size ∧ (cur.toList.drop o).take (n * size) = xs)
section
variable {w w' : World} {e : TypeId} {size : Nat} {v : Value} {n : Nat} {xs : List Value}
theorem RowO.nil (w : World) (e : TypeId) (size : Nat) : RowO w e size (.slice none 0 0) 0 [] := ⟨by simp, .inl ⟨rfl, rfl⟩⟩
theorem RowO.of_own {base : Nat} (h : w.ownsRow base e size v n xs) : RowO w e size v n xs := by
  refine ⟨h.1, ?_⟩
  rcases h.2 with h2 | ⟨g, cap, cur, h1, h2, h3, h4, h5, h6, h7⟩
  · exact .inl h2
  · exact .inr ⟨g, 0, cap, cur, h1, h3, h4, h5, by rw [h6]; omega, by rw [List.drop_zero]; exact h7⟩
theorem RowO.lt (h : RowO w e size v n xs) : ∀ k, v.ownBlock = some k → k < w.heap.size := by
  intro k hk
  rcases h.2 with ⟨rfl, _⟩ | ⟨g, o, cap, cur, rfl, hg, _⟩
  · simp [Value.ownBlock] at hk
  · simp [Value.ownBlock] at hk
    subst hk
    exact (Array.getElem?_eq_some_iff.1 hg).1
theorem RowO.same (h : RowO w e size v n xs) (hk : ∀ k, v.ownBlock = some k → w'.heap[k]? = w.heap[k]?) : RowO w' e size v n xs := by
  refine ⟨h.1, ?_⟩
  rcases h.2 with hn | ⟨g, o, cap, cur, rfl, hg, rest⟩
  · exact .inl hn
  · exact .inr ⟨g, o, cap, cur, rfl, (hk g rfl).trans hg, rest⟩
theorem RowO.below (h : RowO w e size v n xs) (hb : Below w.heap.size w w') : RowO w' e size v n xs := h.same (fun k hk => hb.block k (h.lt k hk))
theorem RowO.shape (h : RowO w e size v n xs) : ∃ a cap, v = .slice a n cap ∧ n ≤ cap ∧ cap ≤ maxLen := by
  rcases h.2 with ⟨rfl, rfl⟩ | ⟨g, o, cap, cur, rfl, _, h1, h2, _⟩
  · exact ⟨none, 0, rfl, Nat.le_refl _, by decide⟩
  · exact ⟨_, cap, rfl, h1, h2⟩
theorem RowO.cells {a : Option Addr} {cap : Nat} (h : RowO w e size (.slice a n cap) n xs) : ∀ j u, xs[j]? = some u → ∃ g o, a = some ⟨g, o, none⟩ ∧ w.cell? ⟨g, o + j, none⟩ = some u := by
  intro j u hu
  rcases h.2 with ⟨_, rfl⟩ | ⟨g, o, cap', cur, h', hg, _, _, _, htake⟩
  · have := h.1
    simp at this
    subst this
    simp at hu
  · injection h' with e1 e2 e3
    refine ⟨g, o, e1, ?_⟩
    rw [cell_of_row w g (o + j) cur e (0, 0) hg]
    rw [← htake, List.getElem?_take] at hu
    split at hu
    · rw [List.getElem?_drop] at hu
      simpa using hu
    · cases hu
end
theorem run_append_roomO {P : Program} (w : World) (t ty e tb : TypeId) (i : TypeInfo) (ht : P.underlying t = some (.slice e)) (hi : P.info? e = some i)
    (g o n cap : Nat) (cur : Array Value) (hg : w.heap[g]? = some (.cells cur tb (0, 0)))
    (a : Addr) (m c : Nat) (news : List Value) (hl : news.length = m * i.size) (hnews : ∀ j u, news[j]? = some u → w.cell? (a.add j) = some u) (h1 : ∀ u ∈ news, u.oneCell' = true)
    (hroom : n + m ≤ cap) (hfit : o + n * i.size + news.length ≤ cur.size) :
    (Builtin.append_ #[t, t] ty #[.slice (some ⟨g, o, none⟩) n cap, .slice (some a) m c]).run P w =
      .ok (.slice (some ⟨g, o, none⟩) (n + m) cap) (w.setRow g (cur.toList.take (o + n * i.size) ++ news ++ cur.toList.drop (o + n * i.size + news.length)).toArray) := by
  have h2 := run_firstCells_some (P := P) w i.size m a m c news hl hnews
  have h3 := run_storeCells_at P g (o + n * i.size) tb news 0 cur w hg (by simpa using hfit) h1
  rw [Nat.add_zero] at h3
  have h4 : (⟨g, o, none⟩ : Addr).add (n * i.size) = ⟨g, o + n * i.size, none⟩ := Addr.add_mid _ _ _
  simp [Builtin.append_, run_underlying ht, sizeOf, typeInfo, hi, Builtin.lenOf, hroom, h2, h4, h3]
/-- What is appended: into the old row, or into a new one. -/
theorem run_append_O {P : Program} (w : World) (t ty e : TypeId) (i : TypeInfo) (z : Value) (size bytes : Nat) (ht : P.underlying t = some (.slice e)) (hi : P.info? e = some i) (hz : i.zero = some z)
    (hsize : i.size = size) (hby : i.bytes = bytes) (hzs : z.cells.size = size) (hsz : 0 < size)
    (v : Value) (n : Nat) (xs : List Value) (hown : RowO w e size v n xs)
    (a : Addr) (m c : Nat) (news : List Value) (hl : news.length = m * size) (hnews : ∀ j u, news[j]? = some u → w.cell? (a.add j) = some u) (h1 : ∀ u ∈ news, u.oneCell' = true)
    (h63 : n + m ≤ maxLen) (hbytes : (n + m) * bytes ≤ 140737488355328) :
    ∃ v' w', (Builtin.append_ #[t, t] ty #[v, .slice (some a) m c]).run P w = .ok v' w' ∧ RowO w' e size v' (n + m) (xs ++ news) ∧
      (v'.ownBlock = v.ownBlock ∧ v.ownBlock ≠ none ∧ w.grownBy w' v.ownBlock ∨ w.grownBy w' none ∧ (∀ k, v'.ownBlock = some k → k = w.heap.size)) := by
  have hlen : (xs ++ news).length = (n + m) * size := by rw [List.length_append, hown.1, hl, Nat.add_mul]
  rcases hown.2 with ⟨rfl, rfl⟩ | ⟨g0, o, cap0, cur, rfl, hg, hnc, hcm, hcs, htake⟩
  · have hx : xs = [] := List.eq_nil_of_length_eq_zero (by simpa using hown.1)
    subst hx
    obtain ⟨v', w', hr, h2, h3, _, h5⟩ := run_append_own_at (P := P) w w.heap.size t ty e i z size bytes ht hi hz hsize hby hzs hsz (.slice none 0 0) 0 [] (World.ownsRow_nil _ _ _ _) a m c news hl hnews h1 h63 hbytes (Nat.le_refl _)
    refine ⟨v', w', hr, .of_own h2, .inr ⟨h3, fun k hk => ?_⟩⟩
    rcases h5 with h5 | h5
    · rw [h5] at hk; cases hk
    · rw [h5] at hk; injection hk with hk; exact hk.symm
  · have hxl := hown.1
    by_cases hroom : n + m ≤ cap0
    · subst hsize
      have hfit : o + n * i.size + news.length ≤ cur.size := by
        rw [hl, Nat.add_assoc, ← Nat.add_mul]
        exact Nat.le_trans (Nat.add_le_add_left (Nat.mul_le_mul_right _ hroom) _) hcs
      have hr := run_append_roomO (P := P) w t ty e e i ht hi g0 o n cap0 cur hg a m c news hl hnews h1 hroom hfit
      refine ⟨_, _, hr, ⟨hlen, .inr ⟨g0, o, cap0, _, rfl, setRow_heap w g0 cur _ e _ hg, hroom, hcm, ?_, ?_⟩⟩, .inl ⟨rfl, by simp [Value.ownBlock], ⟨rfl, rfl, rfl, by simp, fun k _ hk => setRow_other w g0 k _ (fun e => hk (by simp [e, Value.ownBlock]))⟩⟩⟩
      · simp only [List.size_toArray, List.length_append, List.length_take, List.length_drop, Array.length_toList]
        omega
      · have e1 : cur.toList.take (o + n * i.size) = cur.toList.take o ++ xs := by rw [← htake, List.take_add]
        have e2 : (cur.toList.take o).length = o := by rw [List.length_take, Array.length_toList]; omega
        rw [e1, List.append_assoc, List.append_assoc]
        show ((List.take o cur.toList ++ (xs ++ (news ++ List.drop (o + n * i.size + news.length) cur.toList))).drop o).take _ = _
        rw [List.drop_left' e2, ← List.append_assoc, ← hlen]
        exact List.take_left
    · have holds : ∀ j u, xs[j]? = some u → w.cell? ((⟨g0, o, none⟩ : Addr).add j) = some u := by
        intro j u hu
        obtain ⟨g, o', e1, e2⟩ := RowO.cells (cap := cap0) hown j u hu
        injection e1 with e1
        injection e1 with e1 e3
        subst e1 e3
        rw [Addr.add_mid]
        exact e2
      have hr := run_append_grow (P := P) w t ty e i z ht hi hz ⟨g0, o, none⟩ n cap0 xs (by rw [hsize]; exact hown.1) holds a m c news (by rw [hsize]; exact hl) hnews (by omega) (by simp only [maxLen] at h63; omega) (growslice_fits (by omega) (by rw [hby]; exact hbytes))
      obtain ⟨v2, w2, hr2, h6, h7⟩ := run_append_arg_grows (P := P) w t ty e i z size bytes ht hi hz hsize hby hzs hsz ⟨g0, o, none⟩ n cap0 xs hown.1 holds a m c news hl hnews (by omega) h63 hbytes
      refine ⟨v2, w2, hr2, .of_own h6, .inr ⟨h7, fun k hk => ?_⟩⟩
      rw [hr] at hr2
      injection hr2 with e1 e2
      rw [← e1] at hk
      injection hk with hk
      exact hk.symm
end Go.Proofs.YtehadfidenejdaaGreatDoor

/-! A range over a function that goes from state to state; its body may write what was made behind the loop's beginning, and may leave by a return. -/
namespace Go.Proofs.YtehadfidenejdaaGreatDoor
open Go Go.RowKit Go.Shelf

/-- The first blocks, but for some, lie as they lay. -/
structure KeepB (B : Nat) (st : Nat → Prop) (W W' : World) : Prop where
  os : W'.os = W.os
  tape : W'.tape = W.tape
  output : W'.output = W.output
  size : W.heap.size ≤ W'.heap.size
  block : ∀ k, k < B → ¬ st k → W'.heap[k]? = W.heap[k]?
theorem KeepB.refl (B : Nat) (st : Nat → Prop) (W : World) : KeepB B st W W := ⟨rfl, rfl, rfl, Nat.le_refl _, fun _ _ _ => rfl⟩
theorem KeepB.trans {B : Nat} {st : Nat → Prop} {A C D : World} (h : KeepB B st A C) (k : KeepB B st C D) : KeepB B st A D :=
  ⟨k.os.trans h.os, k.tape.trans h.tape, k.output.trans h.output, Nat.le_trans h.size k.size, fun i hi hs => (k.block i hi hs).trans (h.block i hi hs)⟩
theorem KeepB.of_below {B : Nat} {st : Nat → Prop} {W W' : World} (h : Below B W W') : KeepB B st W W' := ⟨h.os, h.tape, h.output, h.size, fun k hk _ => h.block k hk⟩
theorem KeepB.mono {B C : Nat} {st : Nat → Prop} {W W' : World} (h : KeepB B st W W') (hc : C ≤ B) : KeepB C st W W' := ⟨h.os, h.tape, h.output, h.size, fun k hk hs => h.block k (by omega) hs⟩
theorem KeepB.setCell {B : Nat} {st : Nat → Prop} {g : Nat} (hg : st g ∨ B ≤ g) (W : World) (o : Nat) (v : Value) : KeepB B st W (W.setCell ⟨g, o, none⟩ v) :=
  ⟨rfl, rfl, rfl, by simp [World.setCell], fun k hk hs => Below.heap_setCell W _ v k (fun e => hg.elim (fun h => hs (by rw [e]; exact h)) (fun h => by simp only at e; omega))⟩

section
variable {F : Fence} {n : Nat} {P : Program}
end
end Go.Proofs.YtehadfidenejdaaGreatDoor

/-! A range over a function, where the iterator has memory of its own that the body leaves alone (the blocks M), and the body has memory of its own that the iterator leaves alone; the body may leave by a return. -/
namespace Go.Proofs.YtehadfidenejdaaGreatDoor
open Go Go.RowKit Go.Shelf

/-- What a round leaves: the first blocks, but for some, and the iterator's. -/
structure KeepY (B : Nat) (st M : Nat → Prop) (W W' : World) : Prop where
  os : W'.os = W.os
  tape : W'.tape = W.tape
  output : W'.output = W.output
  size : W.heap.size ≤ W'.heap.size
  block : ∀ k, k < W.heap.size → (k < B ∧ ¬ st k ∨ M k) → W'.heap[k]? = W.heap[k]?
theorem KeepY.refl (B : Nat) (st M : Nat → Prop) (W : World) : KeepY B st M W W := ⟨rfl, rfl, rfl, Nat.le_refl _, fun _ _ _ => rfl⟩
theorem KeepY.trans {B : Nat} {st M : Nat → Prop} {A C D : World} (h : KeepY B st M A C) (k : KeepY B st M C D) : KeepY B st M A D :=
  ⟨k.os.trans h.os, k.tape.trans h.tape, k.output.trans h.output, Nat.le_trans h.size k.size, fun i hi hs => (k.block i (Nat.lt_of_lt_of_le hi h.size) hs).trans (h.block i hi hs)⟩
theorem KeepY.of_below {B : Nat} {st M : Nat → Prop} {W W' : World} (h : Below W.heap.size W W') : KeepY B st M W W' := ⟨h.os, h.tape, h.output, h.size, fun k hk _ => h.block k hk⟩
theorem KeepY.setCell {B : Nat} {st M : Nat → Prop} {g : Nat} (hg : st g ∨ B ≤ g) (hm : ¬ M g) (W : World) (o : Nat) (v : Value) : KeepY B st M W (W.setCell ⟨g, o, none⟩ v) :=
  ⟨rfl, rfl, rfl, by simp [World.setCell], fun k _ hk => Below.heap_setCell W _ v k (fun e => by
    simp only at e
    subst e
    rcases hk with ⟨h1, h2⟩ | h
    · exact hg.elim h2 (fun h => by omega)
    · exact hm h)⟩
/-- What the iterator leaves: all that is not its own. -/
structure KeepM (M : Nat → Prop) (W W' : World) : Prop where
  os : W'.os = W.os
  tape : W'.tape = W.tape
  output : W'.output = W.output
  size : W.heap.size ≤ W'.heap.size
  block : ∀ k, k < W.heap.size → ¬ M k → W'.heap[k]? = W.heap[k]?
theorem KeepM.of_below {M : Nat → Prop} {W W' : World} (h : Below W.heap.size W W') : KeepM M W W' := ⟨h.os, h.tape, h.output, h.size, fun k hk _ => h.block k hk⟩
section
variable {P : Program}
end
end Go.Proofs.YtehadfidenejdaaGreatDoor

/-! A range over a function, where the iterator has memory of its own, old blocks (M0) and new ones, that the body leaves alone, and the body has memory of its own that the iterator leaves alone; the body goes on always. What the iterator leaves in its own memory is told at the end. -/
namespace Go.Proofs.YtehadfidenejdaaGreatDoor
open Go Go.RowKit Go.Shelf

section
variable {P : Program}
end
end Go.Proofs.YtehadfidenejdaaGreatDoor

/-! Single operations for drawn regions. No program in sight. -/
namespace Go.Proofs.YtehadfidenejdaaGreatDoor
open Go Go.RowKit
section
variable {P : Program} {a : Act} {o : Oper}
theorem lgPut_none (a : Act) (v : Value) : a.put none v = a := rfl
theorem lgRun_cell (ty : TypeId) (x : Operand) (p : Addr) (v : Value) (d : TypeDesc) (ho : o.op = .load ty x) (hx : a.eval x = .pointer (some p)) (hu : P.underlying ty = some d) (hd : (match d with | .struct _ | .array _ _ => true | _ => false) = false)
    (W : World) (hv : W.cell? p = some v) : (execOp a.eval o).run P W = .ok (.value v) W := by
  have hag : (isAgg ty).run P W = .ok false W := by
    unfold isAgg
    rw [Sem.run_bind, run_underlying hu W]
    cases d <;> simp_all
  unfold execOp
  simp [ho, hx, Instr.loadAt, Instr.sureAddr, loadVar, hag, hv]
theorem lgRun_at (t e : TypeId) (m : Nat) (x ix : Operand) (g off len cap j : Nat) (ho : o.op = .indexAddr t x ix) (hx : a.eval x = .slice (some ⟨g, off, none⟩) len cap) (hix : a.eval ix = .int .i64 (j : Int))
    (hu : P.underlying t = some (.slice e)) (hi : (P.info? e).map (·.size) = some m) (hj : j < len) (W : World) : (execOp a.eval o).run P W = .ok (.value (.pointer (some ⟨g, off + j * m, none⟩))) W := by
  have hsz : (sizeOf e).run P W = .ok m W := by
    cases hq : P.info? e with
    | none => simp [hq] at hi
    | some i =>
      have : i.size = m := by simpa [hq] using hi
      simp [sizeOf, typeInfo, hq, this]
  unfold execOp
  simp [ho, hx, hix, Instr.indexAt, asIntOf, run_underlying hu, hj, hsz, Addr.add_mid]
theorem lgRun_store (ty : TypeId) (x y : Operand) (p : Addr) (z : Value) (old : Value) (h1 : z.oneCell' = true) (ho : o.op = .store ty x y) (hx : a.eval x = .pointer (some p)) (hy : a.eval y = z) (hi : (P.info? ty).map (·.size) = some 1) (w : World)
    (hc : w.cell? p = some old) (hf : w.frozen? p = false) : (execOp a.eval o).run P w = .ok .skip (w.setCell p z) := by
  have hsz : (sizeOf ty).run P w = .ok 1 w := by
    cases hq : P.info? ty with
    | none => simp [hq] at hi
    | some i =>
      have : i.size = 1 := by simpa [hq] using hi
      simp [sizeOf, typeInfo, hq, this]
  have hz : z.cells = #[z] := by cases z <;> first | rfl | simp [Value.oneCell'] at h1
  unfold execOp
  simp only [ho, hx, hy, Instr.storeAt, Instr.sureAddr, storeVar, Sem.run_bind, Sem.run_pure, Result.andThen_ok, hsz]
  simp [hz, storeCells, Addr.add_zero', run_store P w p z _ (by cases z <;> first | rfl | simp [Value.oneCell'] at h1), hc, hf]
theorem lgRun_sub (t t' : TypeId) (x y : Operand) (m r d : Nat) (hd : r + d = m) (hm : m ≤ 140737488355328) (ho : o.op = .binOp .sub t x y t') (hx : a.eval x = .int .i64 (m : Int)) (hy : a.eval y = .int .i64 (r : Int)) (W : World) :
    (execOp a.eval o).run P W = .ok (.value (.int .i64 (d : Int))) W := by
  have hw : IntKind.i64.wrap ((m : Int) - (r : Int)) = (d : Int) := by rw [IntKind.wrap_i64]; omega
  unfold execOp
  simp only [ho, hx, hy]
  go_simp
theorem lgRun_append (ts : Array TypeId) (s y : Operand) (v u v' : Value) (W W' : World) (ho : o.op = .call { callee := .builtin .append, args := #[s, y], argTypes := ts }) (hs : a.eval s = v) (hy : a.eval y = u) (h : (Builtin.append_ ts o.type #[v, u]).run P W = .ok v' W') :
    (execOp a.eval o).run P W = .ok (.value v') W' := by
  unfold execOp
  simp only [ho, resolve, invoke, builtin, Sem.run_bind, Sem.run_pure, Result.andThen_ok, List.map_toArray, List.map_cons, List.map_nil, hs, hy, h]
theorem wpL_append {ops : Array Oper} {rest : List Oper} {o : Oper} {a : Act} {w : World} {Q : Exit → Act → World → Prop} (hgd : o.guard = none) (s y : Operand) (ts : Array TypeId) (ho : o.op = .call { callee := .builtin .append, args := #[s, y], argTypes := ts })
    (v u v' : Value) (W' : World) (hs : a.eval s = v) (hy : a.eval y = u) (h : (Builtin.append_ ts o.type #[v, u]).run P w = .ok v' W') (k : wpList P ops Q rest (a.put o.dst v') W') : wpList P ops Q (o :: rest) a w :=
  wpList_plain hgd fun _ hK => by
    unfold Oper.wp
    rw [lgRun_append ts s y v u v' w W' ho hs hy h]
    exact hK _ _ k
theorem lgRun_copy (w : World) (dT sT ty elem : TypeId) (g o dLen dCap : Nat) (a : Addr) (sLen sCap size : Nat) (cur : Array Value) (t : TypeId) (cs : List Value)
    (hu : P.underlying dT = some (.slice elem)) (hs : (P.info? elem).map (·.size) = some size)
    (hg : w.heap[g]? = some (.cells cur t (0, 0))) (hn : cs.length = Nat.min sLen dLen * size)
    (hsrc : ∀ j v, cs[j]? = some v → w.cell? (a.add j) = some v) (hfit : o + cs.length ≤ cur.size) (h1 : ∀ v ∈ cs, v.oneCell' = true) :
    (Builtin.copy_ #[dT, sT] ty #[.slice (some ⟨g, o, none⟩) dLen dCap, .slice (some a) sLen sCap]).run P w =
      .ok (goInt (Nat.min sLen dLen)) (w.setRow g (cur.toList.take o ++ cs ++ cur.toList.drop (o + cs.length)).toArray) := by
  have hl := run_loadCells_list (P := P) w a cs hsrc
  have hst := run_storeCells_at P g o t cs 0 cur w hg (by simpa using hfit) h1
  rw [hn] at hl
  cases hq : P.info? elem with
  | none => simp [hq] at hs
  | some i =>
    have hi : i.size = size := by simpa [hq] using hs
    subst hi
    simp [Builtin.copy_, run_underlying hu, Builtin.lenOf, Builtin.firstCells, sizeOf, typeInfo, hq, hl, hst]
theorem lgRun_row (ty : TypeId) (x : Operand) (ho : o.op = .load ty x) (g : Nat) (hx : a.eval x = .pointer (some ⟨g, 0, none⟩)) (t : TypeId) (cs : Array Value) (n : Nat) (fs : Array Field)
    (hu : P.underlying ty = some (.struct fs)) (hi : (P.info? ty).map (·.size) = some n) (hc : cs.size = n) (W : World) (hg : Row W g t cs) : (execOp a.eval o).run P W = .ok (.value (.agg cs)) W := by
  unfold execOp
  simp only [ho, hx, Instr.loadAt, Instr.sureAddr, Sem.run_bind, Sem.run_pure, Result.andThen_ok, run_loadVar_row W g t ty cs (0, 0) _ hg hu rfl (by rw [hc]; exact hi)]
theorem RowO.one {w : World} {e : TypeId} {size : Nat} {v : Value} {n : Nat} {xs : List Value} (h : RowO w e size v n xs) : v.oneCell' = true := by
  obtain ⟨a, c, rfl, _⟩ := h.shape
  rfl
theorem KeepP.mono {st st' : Nat → Prop} {W W' : World} (h : KeepP st W W') (hs : ∀ k, st k → st' k) : KeepP st' W W' := ⟨h.os, h.tape, h.output, h.size, fun k hk hn => h.block k hk (fun e => hn (hs k e))⟩
end
end Go.Proofs.YtehadfidenejdaaGreatDoor

/-! Parts of a slice, told by where they begin. No function of the program in sight. -/
namespace Go.Proofs.YtehadfidenejdaaGreatDoor
open Go Go.RowKit

def cutO (o cap lo size : Nat) : Nat := if lo = cap then o else o + lo * size
section
variable {P : Program} {a : Act} {o : Oper}
theorem lgSize {e : TypeId} {m : Nat} (hi : (P.info? e).map (·.size) = some m) (W : World) : (sizeOf e).run P W = .ok m W := by
  cases hq : P.info? e with
  | none => simp [hq] at hi
  | some i =>
    have : i.size = m := by simpa [hq] using hi
    simp [sizeOf, typeInfo, hq, this]
end
end Go.Proofs.YtehadfidenejdaaGreatDoor

/-! Runs in memory, and what is written into the midst of a row: copy, clear, append, a longer row of zeros. No function of the program in sight. -/
namespace Go.Proofs.YtehadfidenejdaaGreatDoor
open Go Go.RowKit

namespace Sr
theorem onto {st st' : Nat → Prop} {A B C : World} (h : KeepP st A B) (k : KeepP st' B C) (hs : ∀ q, q < A.heap.size → st' q → st q) : KeepP st A C :=
  ⟨k.os.trans h.os, k.tape.trans h.tape, k.output.trans h.output, Nat.le_trans h.size k.size, fun q hq hn => (k.block q (Nat.lt_of_lt_of_le hq h.size) (fun e => hn (hs q hq e))).trans (h.block q hq hn)⟩
theorem keep_drew (st : Nat → Prop) (W : World) : KeepP st W W.drew := KeepP.of_below (Below.refl _ W).drew
theorem vr_one (l : List (Nat × Nat)) : ∀ u ∈ vr l, u.oneCell' = true := by
  intro u hu
  obtain ⟨r, _, h⟩ := List.mem_flatMap.1 hu
  simp only [List.mem_cons, List.not_mem_nil, or_false] at h
  rcases h with rfl | rfl <;> rfl
theorem vr_len (l : List (Nat × Nat)) : (vr l).length = l.length * 2 := by rw [vr_length]; omega
theorem vr_cut (A B C : List (Nat × Nat)) : vr (A ++ B ++ C) = vr A ++ vr B ++ vr C := by rw [vr_append, vr_append]

variable {w w' : World}
/-- A row told by its block. -/
theorem blk_of {g o n cap z : Nat} {e : TypeId} {xs : List Value} (h : RowO w e z (.slice (some ⟨g, o, none⟩) n cap) n xs) :
    ∃ pre post : List Value, pre.length = o ∧ xs.length = n * z ∧ n ≤ cap ∧ cap ≤ maxLen ∧ cap * z ≤ n * z + post.length ∧ w.heap[g]? = some (.cells (pre ++ xs ++ post).toArray e (0, 0)) := by
  rcases h.2 with ⟨h1, _⟩ | ⟨g', o', c', cur, h3, h4, h5, h6, h7, h8⟩
  · cases h1
  · injection h3 with e1 e2 e3
    injection e1 with e1
    injection e1 with e1 e4
    subst e1 e3 e4
    have hl := h.1
    have hsz : cur.toList.length = cur.size := Array.length_toList
    have hnz : n * z ≤ cap * z := Nat.mul_le_mul_right z h5
    refine ⟨cur.toList.take o, (cur.toList.drop o).drop (n * z), by rw [List.length_take]; omega, hl, h5, h6, by rw [List.length_drop, List.length_drop]; omega, ?_⟩
    rw [h4, List.append_assoc, ← h8, List.take_append_drop, List.take_append_drop]
theorem of_blk {g o n cap z : Nat} {e : TypeId} {pre xs post : List Value} (h1 : pre.length = o) (h2 : xs.length = n * z) (h3 : n ≤ cap) (h4 : cap ≤ maxLen) (h5 : cap * z ≤ n * z + post.length)
    (h : w.heap[g]? = some (.cells (pre ++ xs ++ post).toArray e (0, 0))) : RowO w e z (.slice (some ⟨g, o, none⟩) n cap) n xs := by
  refine ⟨h2, .inr ⟨g, o, cap, _, rfl, h, h3, h4, ?_, ?_⟩⟩
  · simp only [List.size_toArray, List.length_append]; omega
  · show ((pre ++ xs ++ post).drop o).take _ = _
    rw [List.append_assoc, List.drop_left' h1, ← h2]
    exact List.take_left
/-- Where the bytes (or what it is) lie that a copy reads: nowhere, where there are none. -/
def Src (w : World) (sa : Option Addr) (n : Nat) (cs : List Value) : Prop := (sa = none ∧ n = 0 ∧ cs = []) ∨ ∃ a, sa = some a ∧ ∀ j v, cs[j]? = some v → w.cell? (a.add j) = some v
theorem cell_blk {g : Nat} {e : TypeId} {L : List Value} (h : w.heap[g]? = some (.cells L.toArray e (0, 0))) (k : Nat) : w.cell? ⟨g, k, none⟩ = L[k]? := by
  rw [cell_of_row w g k L.toArray e (0, 0) h]
  simp
section
variable {P : Program} {e : TypeId} {z : Nat}
theorem copy_at (w : World) (dT sT ty : TypeId) (hu : P.underlying dT = some (.slice e)) (hs : (P.info? e).map (·.size) = some z)
    (pre X Y : List Value) (g o cap i dLen dCap : Nat) (hpre : pre.length = o) (hX : X.length = i * z) (hg : w.heap[g]? = some (.cells (pre ++ X ++ Y).toArray e (0, 0)))
    (sa : Option Addr) (sLen sCap k : Nat) (cs : List Value) (hcs : cs.length = k * z) (hkc : i = cap → k = 0) (hsrc : Src w sa sLen cs) (hmin : Nat.min sLen dLen = k) (hY : k * z ≤ Y.length) (h1 : ∀ v ∈ cs, v.oneCell' = true) :
    ∃ w', (Builtin.copy_ #[dT, sT] ty #[.slice (some ⟨g, cutO o cap i z, none⟩) dLen dCap, .slice sa sLen sCap]).run P w = .ok (goInt k) w' ∧
      w'.heap[g]? = some (.cells (pre ++ X ++ (cs ++ Y.drop (k * z))).toArray e (0, 0)) ∧ KeepP (fun b => b = g) w w' := by
  have hsz := lgSize hs
  rcases hsrc with ⟨rfl, rfl, rfl⟩ | ⟨a, rfl, hc⟩
  · have hk0 : k = 0 := by rw [← hmin]; exact Nat.zero_min _
    subst hk0
    refine ⟨w, ?_, by simpa using hg, KeepP.refl _ w⟩
    cases hq : P.info? e with
    | none => simp [hq] at hs
    | some ie => simp [Builtin.copy_, run_underlying hu, Builtin.lenOf, Builtin.firstCells, sizeOf, typeInfo, hq, storeCells]
  · by_cases hk : k = 0
    · subst hk
      have hc0 : cs = [] := List.eq_nil_of_length_eq_zero (by simpa using hcs)
      subst hc0
      obtain ⟨p, hp⟩ : ∃ p, cutO o cap i z = p := ⟨_, rfl⟩
      have hfit : p + 0 ≤ (pre ++ X ++ Y).length := by
        rw [← hp, List.length_append, List.length_append, hpre, hX]
        unfold cutO
        split <;> omega
      have hr := lgRun_copy (P := P) w dT sT ty e g p dLen dCap a sLen sCap z (pre ++ X ++ Y).toArray e [] hu hs hg (by rw [hmin]; simp) hc (by simpa using hfit) (by simp)
      rw [hp, hr, hmin]
      refine ⟨_, rfl, ?_, KeepP.setRow (st := fun b => b = g) rfl _ _⟩
      rw [setRow_heap w g _ _ e _ hg]
      simp only [List.length_nil, Nat.add_zero, List.append_nil, Nat.zero_mul, List.drop_zero, List.nil_append]
      rw [List.take_append_drop]
    · have hi : cutO o cap i z = o + i * z := by unfold cutO; rw [if_neg (fun q => hk (hkc q))]
      have hA : (pre ++ X).length = o + i * z := by rw [List.length_append, hpre, hX]
      have hr := lgRun_copy (P := P) w dT sT ty e g (o + i * z) dLen dCap a sLen sCap z (pre ++ X ++ Y).toArray e cs hu hs hg (by rw [hmin]; exact hcs) hc (by simp only [List.size_toArray]; rw [List.length_append, hA, hcs]; omega) h1
      rw [hi, hr, hmin]
      refine ⟨_, rfl, ?_, KeepP.setRow (st := fun b => b = g) rfl _ _⟩
      rw [setRow_heap w g _ _ e _ hg]
      show some (Obj.cells ((pre ++ X ++ Y).take (o + i * z) ++ cs ++ (pre ++ X ++ Y).drop (o + i * z + cs.length)).toArray e (0, 0)) = _
      rw [List.take_left' hA, ← List.drop_drop, List.drop_left' hA, hcs, List.append_assoc (pre ++ X)]
theorem zeroCells_len (zc : Array Value) (n : Nat) : (Builtin.zeroCells zc n).toList.length = n * zc.size := by simp [Builtin.zeroCells]
theorem zeroCells_one {zc : Array Value} (h : ∀ v ∈ zc.toList, v.oneCell' = true) (n : Nat) : ∀ v ∈ (Builtin.zeroCells zc n).toList, v.oneCell' = true := by
  intro v hv
  simp [Builtin.zeroCells] at hv
  obtain ⟨a, ha, rfl⟩ := hv
  rcases Nat.eq_zero_or_pos zc.size with h0 | h0
  · rw [h0] at ha; simp at ha
  · rw [getElem!_pos zc (a % zc.size) (Nat.mod_lt _ h0)]
    exact h _ (by simp)
theorem clear_at (w : World) (t ty : TypeId) (zv : Value) (hu : P.underlying t = some (.slice e)) (hv : ∀ w, (zeroValue e).run P w = .ok zv w) (hz : zv.cells.size = z) (h1 : ∀ v ∈ zv.cells.toList, v.oneCell' = true)
    (pre X Y : List Value) (g o cap i m c : Nat) (hpre : pre.length = o) (hX : X.length = i * z) (hg : w.heap[g]? = some (.cells (pre ++ X ++ Y).toArray e (0, 0))) (hkc : i = cap → m = 0) (hY : m * z ≤ Y.length) :
    ∃ w' Z, (Builtin.clear_ #[t] ty #[.slice (some ⟨g, cutO o cap i z, none⟩) m c]).run P w = .ok (.tuple #[]) w' ∧ Z.length = m * z ∧
      w'.heap[g]? = some (.cells (pre ++ X ++ (Z ++ Y.drop (m * z))).toArray e (0, 0)) ∧ KeepP (fun b => b = g) w w' := by
  by_cases hm : m = 0
  · subst hm
    exact ⟨w, [], by simp [Builtin.clear_, run_underlying hu], by simp, by simpa using hg, KeepP.refl _ w⟩
  · have hi : cutO o cap i z = o + i * z := by unfold cutO; rw [if_neg (fun q => hm (hkc q))]
    have hA : (pre ++ X).length = o + i * z := by rw [List.length_append, hpre, hX]
    have hl := zeroCells_len zv.cells m
    rw [hz] at hl
    have hst := run_storeCells_at P g (o + i * z) e (Builtin.zeroCells zv.cells m).toList 0 (pre ++ X ++ Y).toArray w hg (by simp only [List.size_toArray]; rw [List.length_append, hA, hl]; omega) (zeroCells_one h1 m)
    rw [Nat.add_zero] at hst
    refine ⟨_, (Builtin.zeroCells zv.cells m).toList, ?_, hl, ?_, KeepP.setRow (st := fun b => b = g) rfl w ((pre ++ X ++ Y).take (o + i * z) ++ (Builtin.zeroCells zv.cells m).toList ++ (pre ++ X ++ Y).drop (o + i * z + (Builtin.zeroCells zv.cells m).toList.length)).toArray⟩
    · rw [hi]
      obtain ⟨k, rfl⟩ : ∃ k, m = k + 1 := ⟨m - 1, by omega⟩
      simp [Builtin.clear_, run_underlying hu, hv, hst]
    · rw [setRow_heap w g _ _ e _ hg]
      rw [List.take_left' hA, ← List.drop_drop, List.drop_left' hA, hl, List.append_assoc (pre ++ X)]
end
end Sr
end Go.Proofs.YtehadfidenejdaaGreatDoor

/-! What is appended to a row, and a row that is made longer by zeros. No function of the program in sight. -/
namespace Go.Proofs.YtehadfidenejdaaGreatDoor
open Go Go.RowKit

namespace Sr
variable {P : Program} {e : TypeId} {z : Nat}
theorem append_types (w : World) (t t' ty e' : TypeId) (ht : P.underlying t = some (.slice e)) (ht' : P.underlying t' = some (.slice e')) (b : Option Addr) (n c : Nat) (u : Value) :
    (Builtin.append_ #[t, t'] ty #[.slice b n c, u]).run P w = (Builtin.append_ #[t, t] ty #[.slice b n c, u]).run P w := by
  simp [Builtin.append_, run_underlying ht, run_underlying ht']
theorem append_nothing (w : World) (t ty : TypeId) (ht : P.underlying t = some (.slice e)) (hs : (P.info? e).map (·.size) = some z) {v : Value} {n c : Nat} {xs : List Value} (h : RowO w e z v n xs) :
    (Builtin.append_ #[t, t] ty #[v, .slice none 0 c]).run P w = .ok v w := by
  cases hq : P.info? e with
  | none => simp [hq] at hs
  | some i =>
    rcases h.2 with ⟨rfl, rfl⟩ | ⟨g, o, cap, cur, rfl, _, hnc, _⟩
    · simp [Builtin.append_, run_underlying ht, sizeOf, typeInfo, hq, Builtin.lenOf, Builtin.firstCells]
    · simp [Builtin.append_, run_underlying ht, sizeOf, typeInfo, hq, Builtin.lenOf, Builtin.firstCells, hnc, storeCells]
/-- What is appended: into the old row, or into a new one. -/
theorem app_any (w : World) (t t' ty : TypeId) (i : TypeInfo) (zv : Value) (bytes : Nat) (ht : P.underlying t = some (.slice e)) (ht' : P.underlying t' = some (.slice e)) (hi : P.info? e = some i) (hz : i.zero = some zv)
    (hsize : i.size = z) (hby : i.bytes = bytes) (hzs : zv.cells.size = z) (hsz : 0 < z) {v : Value} {n : Nat} {xs : List Value} (h : RowO w e z v n xs)
    (sa : Option Addr) (m c : Nat) (news : List Value) (hl : news.length = m * z) (hsrc : Src w sa m news) (h1 : ∀ u ∈ news, u.oneCell' = true) (h63 : n + m ≤ maxLen) (hbytes : (n + m) * bytes ≤ 140737488355328) :
    ∃ v' w', (Builtin.append_ #[t, t'] ty #[v, .slice sa m c]).run P w = .ok v' w' ∧ RowO w' e z v' (n + m) (xs ++ news) ∧
      KeepP (fun b => v.ownBlock = some b) w w' ∧ (v'.ownBlock = v.ownBlock ∨ (KeepP (fun _ => False) w w' ∧ ∀ k, v'.ownBlock = some k → k = w.heap.size)) := by
  obtain ⟨va, vcap, hve, _, _⟩ := h.shape
  subst hve
  rcases hsrc with ⟨rfl, rfl, rfl⟩ | ⟨a, rfl, hc⟩
  · refine ⟨_, w, ?_, by simpa using h, KeepP.refl _ _, .inl rfl⟩
    rw [append_types w t t' ty e ht ht']
    exact append_nothing w t ty ht (by rw [hi]; simp [hsize]) h
  · obtain ⟨v', w', hr, h2, h3⟩ := run_append_O (P := P) w t ty e i zv z bytes ht hi hz hsize hby hzs hsz _ n xs h a m c news hl hc h1 h63 hbytes
    refine ⟨v', w', by rw [append_types w t t' ty e ht ht']; exact hr, h2, ?_, ?_⟩
    · rcases h3 with ⟨_, h4, h5⟩ | ⟨h5, _⟩
      · exact ⟨h5.os, h5.tape, h5.output, h5.size, fun k hk hn => h5.block k hk (fun e => hn (by rw [e]))⟩
      · exact ⟨h5.os, h5.tape, h5.output, h5.size, fun k hk hn => h5.block k hk (fun e => by cases e)⟩
    · rcases h3 with ⟨h4, _⟩ | ⟨h5, h6⟩
      · exact .inl h4
      · exact .inr ⟨⟨h5.os, h5.tape, h5.output, h5.size, fun k hk hn => h5.block k hk (fun e => by cases e)⟩, h6⟩
/-- A row that is made longer by zeros, where it has no room: a new one. -/
theorem grow_any (w : World) (t tn ty : TypeId) (i : TypeInfo) (zv : Value) (kn : IntKind) (ht : P.underlying t = some (.slice e)) (htn : P.underlying tn = some (.int kn)) (hi : P.info? e = some i) (hz : i.zero = some zv)
    (hsize : i.size = z) (hzs : zv.cells.size = z) (hsz : 0 < z) (pre X Y : List Value) (g o n cap k : Nat) (hpre : pre.length = o) (hX : X.length = n * z)
    (hg : w.heap[g]? = some (.cells (pre ++ X ++ Y).toArray e (0, 0))) (h0 : 0 < k) (hgr : cap < n + k) (h63 : n + k ≤ maxLen) (h48 : (n + k) * i.bytes ≤ 140737488355328) :
    ∃ w' Z cap', (Builtin.append_ #[t, tn] ty #[.slice (some ⟨g, o, none⟩) n cap, .int .i64 (k : Int)]).run P w = .ok (.slice (some ⟨w.heap.size, 0, none⟩) (n + k) cap') w' ∧ n + k ≤ cap' ∧ cap' ≤ maxLen ∧
      w'.heap[w.heap.size]? = some (.cells ([] ++ X ++ Z).toArray e (0, 0)) ∧ cap' * z ≤ n * z + Z.length ∧ KeepP (fun _ => False) w w' ∧ w.heap.size < w'.heap.size := by
  have hold : (Builtin.firstCells i.size n (.slice (some ⟨g, o, none⟩) n cap)).run P w.drew = .ok X.toArray w.drew := by
    rw [hsize]
    refine run_firstCells_some w.drew z n ⟨g, o, none⟩ n cap X hX (fun j v hj => ?_)
    rw [Addr.add_mid]
    have := cell_blk hg (o + j)
    show w.cell? ⟨g, o + j, none⟩ = some v
    rw [this, List.append_assoc, ← hpre, List.getElem?_append_right (Nat.le_add_right _ _), Nat.add_sub_cancel_left]
    rw [List.getElem?_append_left (by
      rcases Nat.lt_or_ge j X.length with q | q
      · exact q
      · rw [List.getElem?_eq_none q] at hj; cases hj)]
    exact hj
  have h63' : ((n + k : Nat) : Int) ≤ 9223372036854775807 := by unfold maxLen at h63; omega
  have hk48 : k * i.bytes ≤ 281474976710656 := by
    have : k * i.bytes ≤ (n + k) * i.bytes := Nat.mul_le_mul_right _ (Nat.le_add_left _ _)
    omega
  have hr := Lib.run_append_grow_zeros w t tn ty e i zv .i64 kn ht htn hi hz (some ⟨g, o, none⟩) n cap X hold k h0 (by omega) hgr h63' hk48 (growslice_fits hgr h48)
  refine ⟨_, (Builtin.zeroCells zv.cells k).toList ++ (Builtin.zeroCells zv.cells (grownCap w (n + k) cap e - (n + k))).toList, _, hr, grownCap_ge w _ _ _, grownCap_le_maxLen w _ _ _ h63, ?_, ?_, ?_, ?_⟩
  · have := heap_alloc_new w.drew (.cells (X.toArray ++ Builtin.zeroCells zv.cells k ++ Builtin.zeroCells zv.cells (grownCap w (n + k) cap e - (n + k))) e (0, 0))
    refine Eq.trans this ?_
    congr 2
    apply Array.toList_inj.1
    simp
  · rw [List.length_append, zeroCells_len, zeroCells_len, hzs]
    have := grownCap_ge w (n + k) cap e
    rw [← Nat.add_mul, ← Nat.add_mul]
    exact Nat.mul_le_mul_right _ (by omega)
  · exact KeepP.of_below ((Below.refl _ w).drew.alloc (by exact Nat.le_refl _) _)
  · show w.heap.size < (w.heap.push _).size
    simp
/-- Parts of a slice, as the walk asks for them. -/
theorem sl_lo (t : TypeId) (g o n cap j : Nat) (hu : P.underlying t = some (.slice e)) (hs : (P.info? e).map (·.size) = some z) (h1 : j ≤ n) (h2 : n ≤ cap) (W : World) :
    (Instr.sliceAt t (.slice (some ⟨g, o, none⟩) n cap) (some (.int .i64 (j : Int))) none none).run P W = .ok (.slice (some ⟨g, cutO o cap j z, none⟩) (n - j) (cap - j)) W := by
  have hsz := lgSize hs W
  unfold cutO
  by_cases e' : j = cap
  · simp [Instr.sliceAt, Instr.slice, Instr.sliceBounds, Instr.sliceBound, asIntOf, run_underlying hu, hsz, h2, e']
    omega
  · simp [Instr.sliceAt, Instr.slice, Instr.sliceBounds, Instr.sliceBound, asIntOf, run_underlying hu, hsz, h1, Addr.add_mid, e', show ¬ cap = j from fun q => e' q.symm]
theorem sl_hi (t : TypeId) (g o n cap j : Nat) (hu : P.underlying t = some (.slice e)) (hs : (P.info? e).map (·.size) = some z) (h2 : j ≤ cap) (W : World) :
    (Instr.sliceAt t (.slice (some ⟨g, o, none⟩) n cap) none (some (.int .i64 (j : Int))) none).run P W = .ok (.slice (some ⟨g, o, none⟩) j cap) W := by
  have hsz := lgSize hs W
  by_cases e' : cap = 0
  · simp [Instr.sliceAt, Instr.slice, Instr.sliceBounds, Instr.sliceBound, asIntOf, run_underlying hu, hsz, e']
    omega
  · simp [Instr.sliceAt, Instr.slice, Instr.sliceBounds, Instr.sliceBound, asIntOf, run_underlying hu, hsz, h2, Addr.add_mid, e']
theorem sl_lh (t : TypeId) (g o n cap l j : Nat) (hu : P.underlying t = some (.slice e)) (hs : (P.info? e).map (·.size) = some z) (h1 : l ≤ j) (h2 : j ≤ cap) (W : World) :
    (Instr.sliceAt t (.slice (some ⟨g, o, none⟩) n cap) (some (.int .i64 (l : Int))) (some (.int .i64 (j : Int))) none).run P W = .ok (.slice (some ⟨g, cutO o cap l z, none⟩) (j - l) (cap - l)) W := by
  have hsz := lgSize hs W
  unfold cutO
  by_cases e' : l = cap
  · simp [Instr.sliceAt, Instr.slice, Instr.sliceBounds, Instr.sliceBound, asIntOf, run_underlying hu, hsz, h2, e']
    omega
  · simp [Instr.sliceAt, Instr.slice, Instr.sliceBounds, Instr.sliceBound, asIntOf, run_underlying hu, hsz, h1, h2, Addr.add_mid, e', show ¬ cap = l from fun q => e' q.symm]
/-- A part of any list in memory: from a place on, to a place, between two. -/
theorem sl_any (w : World) (t : TypeId) (hu : P.underlying t = some (.slice e)) (hs : (P.info? e).map (·.size) = some z) {v : Value} {n l j : Nat} {xs : List Value} (h : RowO w e z v n xs) (h1 : l ≤ j) (h2 : j ≤ n) :
    ∃ a c, (∀ W, (Instr.sliceAt t v (some (.int .i64 (l : Int))) (some (.int .i64 (j : Int))) none).run P W = .ok (.slice a (j - l) c) W) ∧ (j = n → ∀ W, (Instr.sliceAt t v (some (.int .i64 (l : Int))) none none).run P W = .ok (.slice a (j - l) c) W) ∧
      (∀ W, RowO W e z v n xs → RowO W e z (.slice a (j - l) c) (j - l) ((xs.drop (l * z)).take ((j - l) * z))) ∧ (Value.slice a (j - l) c).ownBlock = v.ownBlock := by
  obtain ⟨va, vc, rfl, hnc, hcm⟩ := h.shape
  rcases h.2 with ⟨h3, rfl⟩ | ⟨g, o, cap, cur, h3, h4, h5, h6, h7, h8⟩
  · injection h3 with e1 e2 e3
    subst e1 e3
    obtain rfl : j = 0 := by omega
    obtain rfl : l = 0 := by omega
    refine ⟨none, 0, fun W => ?_, fun _ W => ?_, fun W hW => ?_, rfl⟩
    · simp [Instr.sliceAt, Instr.slice, Instr.sliceBounds, Instr.sliceBound, asIntOf, run_underlying hu, lgSize hs W]
    · simp [Instr.sliceAt, Instr.slice, Instr.sliceBounds, Instr.sliceBound, asIntOf, run_underlying hu, lgSize hs W]
    · simpa using RowO.nil W e z
  · injection h3 with e1 e2 e3
    subst e1 e3
    refine ⟨some ⟨g, cutO o vc l z, none⟩, vc - l, fun W => sl_lh t g o n vc l j hu hs h1 (by omega) W, fun hj W => by subst hj; exact sl_lo t g o j vc l hu hs h1 hnc W, fun W hW => ?_, rfl⟩
    obtain ⟨pre, post, q1, q2, q3, q4, q5, q6⟩ := blk_of hW
    have hnl : l * z ≤ n * z := Nat.mul_le_mul_right z (by omega)
    have hjl : (j - l) * z ≤ n * z - l * z := by rw [← Nat.sub_mul]; exact Nat.mul_le_mul_right z (by omega)
    by_cases hl : l = vc
    · obtain rfl : j = l := by omega
      rw [show j - j = 0 by omega, show vc - j = 0 by omega]
      unfold cutO
      rw [if_pos hl]
      refine of_blk (pre := pre) (xs := _) (post := xs ++ post) q1 (by simp) (Nat.le_refl _) (Nat.zero_le _) (by omega) ?_
      simpa using q6
    · unfold cutO
      rw [if_neg hl]
      refine of_blk (pre := pre ++ xs.take (l * z)) (post := (xs.drop (l * z)).drop ((j - l) * z) ++ post) ?_ ?_ (by omega) (by omega) ?_ ?_
      · rw [List.length_append, q1, List.length_take, q2]; omega
      · rw [List.length_take, List.length_drop, q2]; omega
      · rw [List.length_append, List.length_drop, List.length_drop, q2, Nat.sub_mul]; omega
      · rw [q6]
        congr 2
        rw [show pre ++ List.take (l * z) xs ++ List.take ((j - l) * z) (List.drop (l * z) xs) ++ (List.drop ((j - l) * z) (List.drop (l * z) xs) ++ post) = pre ++ (List.take (l * z) xs ++ (List.take ((j - l) * z) (List.drop (l * z) xs) ++ List.drop ((j - l) * z) (List.drop (l * z) xs))) ++ post by simp only [List.append_assoc], List.take_append_drop, List.take_append_drop]
end Sr
end Go.Proofs.YtehadfidenejdaaGreatDoor
