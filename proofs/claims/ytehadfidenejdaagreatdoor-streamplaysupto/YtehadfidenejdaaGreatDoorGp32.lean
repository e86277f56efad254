/-
  Out of SpStep, SpTell, SpActM, PcLine, SpR, SpTake, ShaLiftA.
-/
import Derived.Test.YtehadfidenejdaaGreatDoorGp31
import Derived.Test.YtehadfidenejdaaGreatDoorGp16
import Derived.Test.YtehadfidenejdaaGreatDoorGp2
import Derived.Test.YtehadfidenejdaaGreatDoorGp1
import Derived.Test.YtehadfidenejdaaGreatDoorRows
import Derived.ProofKit
import Derived.OpenShut
import Derived.ShutString
import Derived.ChangeOld

/-! The steps of StreamPlays between its calls. -/
namespace Go.Proofs.YtehadfidenejdaaGreatDoor
open Go Go.RowKit

namespace Bw
theorem Kd.narrowB {S B j HT T z nn : Nat} {X : List Value → Prop} {own : Nat → Prop} {W : World} (h : Kd S B j HT T z nn X own W) : Kd S B j HT T z nn X (fun b => own b ∧ b < W.heap.size) W := by
  obtain ⟨m, V, E, nu, N, F, h1, hd, h3, h4, h5, h6⟩ := h
  refine ⟨m, V, E, nu, N, F, h1, hd, h3, h4, h5, fun b e => ⟨h6 b e, ?_⟩⟩
  rcases e with e | ⟨i, hi, e⟩
  · exact (hd.ent.lt b e).2
  · exact ((hd.rows i hi).lt b e).2
theorem BwBR.narrow {S B nn : Nat} {own : Nat → Prop} {W : World} (h : BwBR S B nn own W) : BwBR S B nn (fun b => own b ∧ b < W.heap.size) W :=
  ⟨h.cnt, h.kByte.narrowB, h.kRange.narrowB, h.em, h.fz, h.SB, h.bB, h.oB, h.bB⟩
end Bw
namespace Sr
open Sd
/-- What Got and Lost answer, told once. -/
def hE (s : Snd) (f : FrM) : Nat := if itsB s f = true then 0 else 1
def gotH (s : Snd) (f : FrM) : Snd := if itsB s f = true then gotF s f else s
def lostH (s : Snd) (f : FrM) : Snd := if itsB s f = true then lostF s f else s
theorem heard_to {w w' : World} {g : Nat} {s s' : Snd} {own : Nat → Prop} {f : FrM} {e : Ending} (h : HeardP w w' g s s' own f e) : e = .returned (.int .i64 (hE s f : Nat)) ∧ ∃ own', SnS w' g (if itsB s f = true then s' else s) own' ∧ After own w w' own' := by
  unfold hE
  rcases h with ⟨h1, h2, h3, h4⟩ | ⟨h1, h2, h3⟩
  · rw [if_neg (by rw [h1]; decide), if_neg (by rw [h1]; decide)]; exact ⟨h2, own, h3, After.same h4⟩
  · rw [if_pos h1, if_pos h1]; exact ⟨h2, h3⟩
theorem rheard_to {w w' : World} {g : Nat} {s s' : Snd} {own : Nat → Prop} {f : FrM} {e : Ending} (x : RfS w g s own) (h : RHeardP w w' g s s' own f e) : e = .returned (.int .i64 (hE s f : Nat)) ∧ ∃ own', RfS w' g (if itsB s f = true then s' else s) own' ∧ After own w w' own' := by
  unfold hE
  rcases h with ⟨h1, h2, h4⟩ | ⟨h1, h2, h3⟩
  · rw [if_neg (by rw [h1]; decide), if_neg (by rw [h1]; decide)]; exact ⟨h2, own, x.below h4, After.same h4⟩
  · rw [if_pos h1, if_pos h1]; exact ⟨h2, h3⟩
theorem got_to2 {w : World} {g : Nat} {s : Snd} {own : Nat → Prop} (h : SnS w g s own) (f : FrM) (hf : f.Ok w) (hdl : f.data.len < 140737488355328) :
    Calls Tryz.prog 19 #[.pointer (some ⟨g, 0, none⟩), .agg f.cells] w fun e w' => e = .returned (.int .i64 (hE s f : Nat)) ∧ ∃ own', SnS w' g (gotH s f) own' ∧ After own w w' own' := (got_any w g s own h f hf hdl).mono fun _ _ q => heard_to q
theorem lost_to2 {w : World} {g : Nat} {s : Snd} {own : Nat → Prop} (h : SnS w g s own) (f : FrM) (hf : f.Ok w) (hdl : f.data.len < 140737488355328) :
    Calls Tryz.prog 21 #[.pointer (some ⟨g, 0, none⟩), .agg f.cells] w fun e w' => e = .returned (.int .i64 (hE s f : Nat)) ∧ ∃ own', SnS w' g (lostH s f) own' ∧ After own w w' own' := (lost_any w g s own h f hf hdl).mono fun _ _ q => heard_to q
theorem refGot_to {w : World} {g : Nat} {s : Snd} {own : Nat → Prop} (h : RfS w g s own) (f : FrM) (hf : f.Ok w) (hdl : f.data.len < 140737488355328) :
    Calls Tryz.prog 20 #[.pointer (some ⟨g, 0, none⟩), .agg f.cells] w fun e w' => e = .returned (.int .i64 (hE s f : Nat)) ∧ ∃ own', RfS w' g (gotH s f) own' ∧ After own w w' own' := (refGot_any h f hf hdl).mono fun _ _ q => rheard_to h q
theorem refLost_to {w : World} {g : Nat} {s : Snd} {own : Nat → Prop} (h : RfS w g s own) (f : FrM) (hf : f.Ok w) (hdl : f.data.len < 140737488355328) :
    Calls Tryz.prog 22 #[.pointer (some ⟨g, 0, none⟩), .agg f.cells] w fun e w' => e = .returned (.int .i64 (hE s f : Nat)) ∧ ∃ own', RfS w' g (lostH s f) own' ∧ After own w w' own' := (refLost_any h f hf hdl).mono fun _ _ q => rheard_to h q
/-- A frame that was handed in or was taken. -/
structure GOk (w : World) (z : Nat → Prop) (W : World) (G : FrM) : Prop where
  ok : G.Ok W
  dz : 0 < G.data.len → G.data.g < w.heap.size ∨ z G.data.g
  rz : 0 < G.ranges.len → G.ranges.g < w.heap.size
  dl : G.data.len ≤ 1048576
  rl : G.ranges.len ≤ 1048576
/-- The variables of a round. -/
structure RvI (w W : World) (z : Nat → Nat → Prop) (bx bg bh g1 g2 : Nat) (cs : Array Value) (G : FrM) : Prop where
  x : Row W bx 30 cs
  g : Row W bg 28 G.cells
  h : Row W bh 28 (G.twin g1 g2).cells
  zx : z 5 bx
  zg : z 5 bg
  zh : z 5 bh
  z1 : z 5 g1
  z2 : z 5 g2
  t1 : Twin W g1 G.data.b
  t2 : TwinR W g2 G.ranges.l
  okh : (G.twin g1 g2).Ok W
  okg : GOk w (z 4) W G
section
variable {w W W' : World} {z z' : Nat → Nat → Prop} {bx bg bh g1 g2 : Nat} {cs : Array Value} {G : FrM}
theorem twin_keep {st : Nat → Prop} {b : List By} {g : Nat} (h : Twin W g b) (k : KeepP st W W') (hs : ¬ st g) : Twin W' g b :=
  ⟨Nat.lt_of_lt_of_le h.lt k.size, fun j hj => (World.cell?_of_block (a := ⟨g, j, none⟩) (k.block g h.lt hs)).trans (h.cell j hj), (World.cell?_of_block (a := ⟨g, b.length, none⟩) (k.block g h.lt hs)).trans h.mark⟩
theorem twinR_keep {st : Nat → Prop} {l : List (Nat × Nat)} {g : Nat} (h : TwinR W g l) (k : KeepP st W W') (hs : ¬ st g) : TwinR W' g l :=
  ⟨Nat.lt_of_lt_of_le h.lt k.size, fun j hj => ⟨(World.cell?_of_block (a := ⟨g, j * 2, none⟩) (k.block g h.lt hs)).trans (h.cell j hj).1, (World.cell?_of_block (a := ⟨g, j * 2 + 1, none⟩) (k.block g h.lt hs)).trans (h.cell j hj).2⟩, ⟨(World.cell?_of_block (a := ⟨g, l.length * 2, none⟩) (k.block g h.lt hs)).trans h.mark.1, (World.cell?_of_block (a := ⟨g, l.length * 2 + 1, none⟩) (k.block g h.lt hs)).trans h.mark.2⟩⟩
theorem GOk.keep {zz zz' st : Nat → Prop} (x : GOk w zz W G) (k : KeepP st W W') (h1 : ∀ q, q < w.heap.size → ¬ st q) (h2 : ∀ q, zz q → ¬ st q) (h3 : ∀ q, zz q → zz' q) : GOk w zz' W' G :=
  ⟨⟨sl_keepP x.ok.data k (fun p => (x.dz p).elim (h1 _) (h2 _)), x.ok.ranges.same (fun p => k.block _ (x.ok.ranges.lt p) (h1 _ (x.rz p))) k.size, x.ok.k8, x.ok.st, x.ok.of, x.ok.li, x.ok.co⟩, fun p => (x.dz p).imp id (h3 _), x.rz, x.dl, x.rl⟩
theorem RvI.keep {st : Nat → Prop} (x : RvI w W z bx bg bh g1 g2 cs G) (k : KeepP st W W') (h1 : ∀ q, q < w.heap.size → ¬ st q) (h2 : ∀ q, z 5 q → ¬ st q) (h3 : ∀ q, z 4 q → ¬ st q) (h4 : ∀ q, z 4 q → z' 4 q) (h5 : ∀ q, z 5 q → z' 5 q) : RvI w W' z' bx bg bh g1 g2 cs G :=
  ⟨k.row x.x (h2 _ x.zx), k.row x.g (h2 _ x.zg), k.row x.h (h2 _ x.zh), h5 _ x.zx, h5 _ x.zg, h5 _ x.zh, h5 _ x.z1, h5 _ x.z2, twin_keep x.t1 k (h2 _ x.z1), twinR_keep x.t2 k (h2 _ x.z2),
    ⟨sl_keepP x.okh.data k (fun _ => h2 _ x.z1), x.okh.ranges.same (fun p => k.block _ (x.okh.ranges.lt p) (h2 _ x.z2)) k.size, x.okh.k8, x.okh.st, x.okh.of, x.okh.li, x.okh.co⟩, x.okg.keep k h1 h3 h4⟩
theorem RvI.below (x : RvI w W z bx bg bh g1 g2 cs G) (hb : Below W.heap.size W W') : RvI w W' z bx bg bh g1 g2 cs G :=
  x.keep (KeepP.of_below (st := fun _ => False) hb) (fun _ _ q => q) (fun _ _ q => q) (fun _ _ q => q) (fun _ q => q) (fun _ q => q)
/-- A step that writes in one zone alone, none of a round's variables. -/
theorem RvI.step {i : Nat} {o' : Nat → Prop} (x : RvI w W z bx bg bh g1 g2 cs G) (zs : Zs w W z) (k : KeepP (z i) W W') (h4 : i ≠ 4) (h5 : i ≠ 5) : RvI w W' (zset z i o') bx bg bh g1 g2 cs G :=
  x.keep k (fun q h e => by have := zs.lo i q e; omega) (fun q e f => h5 (zs.ap i 5 q f e)) (fun q e f => h4 (zs.ap i 4 q f e)) (fun q e => by rw [zset_ne _ _ (Ne.symm h4)]; exact e) (fun q e => by rw [zset_ne _ _ (Ne.symm h5)]; exact e)
end
section
variable {w W W' : World} {g h B nn nn' : Nat} {s s' t t' : Snd} {v v' : Value} {l : List FrM} {z z' : Nat → Nat → Prop} {o' : Nat → Prop}
/-- A list that lies in zone 6 was told. -/
theorem SpI.told (x : SpI w W g h B nn s t v l z) {lv : Value} (hb : Bw.BwBR w.heap.size B (nn + 1) (Bw.ownL (z 2) lv W.heap.size) W') (k : KeepP (z 2) W W') (hl : ∀ q, lv.ownBlock = some q → z 6 q) :
    ∃ z', SpI w W' g h B (nn + 1) s t v l z' ∧ (∀ i, i ≠ 2 → i ≠ 6 → z' i = z i) ∧ ∀ q, z' 2 q → z 2 q ∨ z 6 q ∨ W.heap.size ≤ q := by
  have no : ∀ i q, i ≠ 2 → z i q → ¬ z 2 q := fun i q c e f => c (x.zs.ap i 2 q e f)
  have e1 : ∀ j, j ≠ 6 → zset z 6 (fun _ => False) j = z j := fun j c => zset_ne _ _ c
  have zs1 := (x.zs.drop 6).put 2 (fun q => z 2 q ∨ lv.ownBlock = some q) (fun q e => by
    have e6 : ∀ j, j ≠ 2 → zset z 6 (fun _ => False) j q → z j q ∧ j ≠ 6 := fun j c f => by
      by_cases d : j = 6
      · subst d; rw [zset_self] at f; exact f.elim
      · rw [e1 j d] at f; exact ⟨f, d⟩
    rcases e with e | e
    · exact ⟨x.zs.lo 2 q e, x.zs.lt 2 q e, fun j c f => no j q c (e6 j c f).1 e⟩
    · have e' := hl q e
      exact ⟨x.zs.lo 6 q e', x.zs.lt 6 q e', fun j c f => (e6 j c f).2 (x.zs.ap j 6 q (e6 j c f).1 e')⟩)
  have zs2 := zs1.step (i := 2) (W' := W') (o' := fun b => Bw.ownL (z 2) lv W.heap.size b ∧ b < W'.heap.size) ⟨by rw [zset_self]; exact k.mono (fun _ q => .inl q), fun q e => by
    rw [zset_self]
    rcases e.1 with f | f | f
    · exact .inl (.inl f)
    · exact .inl (.inr f)
    · exact .inr f⟩ (fun q e => e.2)
  have ez : ∀ i, i ≠ 2 → i ≠ 6 → zset (zset (zset z 6 (fun _ => False)) 2 (fun q => z 2 q ∨ lv.ownBlock = some q)) 2 (fun b => Bw.ownL (z 2) lv W.heap.size b ∧ b < W'.heap.size) i = z i := fun i c d => by
    rw [zset_ne _ _ c, zset_ne _ _ c, zset_ne _ _ d]
  refine ⟨_, ⟨zs2, by rw [ez 0 (by decide) (by decide)]; exact x.sn.keep k (fun q e => no 0 q (by decide) e), by rw [ez 1 (by decide) (by decide)]; exact x.rf.keep k (fun q e => no 1 q (by decide) e), by rw [zset_self]; exact hb.narrow,
    x.tk.same (fun q e => k.block q (x.tk.lt q e) (no 3 q (by decide) (x.tv q e))), by rw [ez 3 (by decide) (by decide)]; exact x.tv, fun f hf => ?_⟩, ez, fun q e => ?_⟩
  · rw [ez 4 (by decide) (by decide)]
    exact (x.fr f hf).keep k (fun q e => no 4 q (by decide) e) (fun _ q => q)
  · rw [zset_self] at e
    rcases e.1 with f | f | f
    · exact .inl f
    · exact .inr (.inl (hl q f))
    · exact .inr (.inr f)
/-- A frame whose data lies in zone 7 is put behind the others. -/
theorem SpI.app (x : SpI w W g h B nn s t v l z) {f : FrM} (hf : TkF (z 7) W f) (hr : RowO W' 28 8 v' (l ++ [f]).length (frs (l ++ [f])))
    (ho : v'.ownBlock = v.ownBlock ∧ v.ownBlock ≠ none ∧ W.grownBy W' v.ownBlock ∨ W.grownBy W' none ∧ (∀ k, v'.ownBlock = some k → k = W.heap.size)) : ∃ z', SpI w W' g h B nn s t v' (l ++ [f]) z' ∧ (∀ i, i ≠ 3 → i ≠ 4 → i ≠ 7 → z' i = z i) ∧ (∀ q, z 4 q → z' 4 q) ∧ KeepP (z 3) W W' := by
  have k0 : KeepP (fun k => v.ownBlock = some k) W W' := keep_appP (ho.imp (fun q => q.2) (fun q => q.1))
  have k : KeepP (z 3) W W' := k0.mono x.tv
  have no : ∀ i q, i ≠ 3 → z i q → ¬ z 3 q := fun i q c e f => c (x.zs.ap i 3 q e f)
  have zs1 := (x.zs.drop 7).put 4 (fun q => z 4 q ∨ z 7 q) (fun q e => by
    have e6 : ∀ j, zset z 7 (fun _ => False) j q → z j q ∧ j ≠ 7 := fun j f => by
      by_cases d : j = 7
      · subst d; rw [zset_self] at f; exact f.elim
      · rw [zset_ne _ _ d] at f; exact ⟨f, d⟩
    rcases e with e | e
    · exact ⟨x.zs.lo 4 q e, x.zs.lt 4 q e, fun j c f => c (x.zs.ap j 4 q (e6 j f).1 e)⟩
    · exact ⟨x.zs.lo 7 q e, x.zs.lt 7 q e, fun j c f => (e6 j f).2 (x.zs.ap j 7 q (e6 j f).1 e)⟩)
  have e3 : zset (zset z 7 (fun _ => False)) 4 (fun q => z 4 q ∨ z 7 q) 3 = z 3 := by rw [zset_ne _ _ (by decide), zset_ne _ _ (by decide)]
  have zs2 := zs1.step (i := 3) (W' := W') (o' := fun b => (z 3 b ∨ W.heap.size ≤ b) ∧ b < W'.heap.size) ⟨by rw [e3]; exact k, fun q e => by rw [e3]; exact e.1⟩ (fun q e => e.2)
  have ez : ∀ i, i ≠ 3 → i ≠ 4 → i ≠ 7 → zset (zset (zset z 7 (fun _ => False)) 4 (fun q => z 4 q ∨ z 7 q)) 3 (fun b => (z 3 b ∨ W.heap.size ≤ b) ∧ b < W'.heap.size) i = z i := fun i c d f => by
    rw [zset_ne _ _ c, zset_ne _ _ d, zset_ne _ _ f]
  have e4 : zset (zset (zset z 7 (fun _ => False)) 4 (fun q => z 4 q ∨ z 7 q)) 3 (fun b => (z 3 b ∨ W.heap.size ≤ b) ∧ b < W'.heap.size) 4 = fun q => z 4 q ∨ z 7 q := by
    rw [zset_ne _ _ (by decide), zset_self]
  have lt' : ∀ q, v'.ownBlock = some q → q < W'.heap.size := hr.lt
  refine ⟨_, ⟨zs2, by rw [ez 0 (by decide) (by decide) (by decide)]; exact x.sn.keep k (fun q e => no 0 q (by decide) e), by rw [ez 1 (by decide) (by decide) (by decide)]; exact x.rf.keep k (fun q e => no 1 q (by decide) e), by rw [ez 2 (by decide) (by decide) (by decide)]; exact x.bk.keep k (fun q e => no 2 q (by decide) e),
    hr, fun q e => ?_, fun f' hf' => ?_⟩, ez, fun q e => by rw [e4]; exact .inl e, k⟩
  · rw [zset_self]
    refine ⟨?_, lt' q e⟩
    rcases ho with ⟨c, _, _⟩ | ⟨_, c⟩
    · exact .inl (x.tv q (c ▸ e))
    · exact .inr (by rw [c q e]; exact Nat.le_refl _)
  · rw [e4]
    rcases List.mem_append.1 hf' with q | q
    · exact (x.fr f' q).keep k (fun q e => no 4 q (by decide) e) (fun _ q => .inl q)
    · rw [List.mem_singleton.1 q]
      exact hf.keep k (fun q e => no 7 q (by decide) e) (fun _ q => .inr q)
/-- Where all begins. -/
theorem SpI.start {id credit : Nat} {w0 w1 : World} (hS : SnS w0 w.heap.size (new id credit) (fun k => k = w.heap.size)) (hb0 : Below w.heap.size w w0) (hR : RfS w1 w0.heap.size (new id credit) (fun k => k = w0.heap.size)) (hb1 : Below w0.heap.size w0 w1) (ty : TypeId) :
    ∃ z, SpI w (w1.alloc (.cells #[.int .i64 0, .slice none 0 0, .slice none 0 0, .slice none 0 0, .slice none 0 0, .slice none 0 0, .slice none 0 0, .slice none 0 0, .slice none 0 0, .slice none 0 0, .slice none 0 0, .slice none 0 0, .slice none 0 0] ty)) w.heap.size w0.heap.size w1.heap.size 0 (new id credit) (new id credit) (.slice none 0 0) [] z := by
  have hb2 := (Below.refl w1.heap.size w1).alloc (Nat.le_refl _) (.cells #[.int .i64 0, .slice none 0 0, .slice none 0 0, .slice none 0 0, .slice none 0 0, .slice none 0 0, .slice none 0 0, .slice none 0 0, .slice none 0 0, .slice none 0 0, .slice none 0 0, .slice none 0 0, .slice none 0 0] ty)
  have z1 := hb0.size
  have z2 := hb1.size
  have lg := snS_lt hS _ rfl
  have lh := rfS_lt hR _ rfl
  refine ⟨fun i k => (i = 0 ∧ k = w.heap.size) ∨ (i = 1 ∧ k = w0.heap.size) ∨ (i = 2 ∧ k = w1.heap.size), ⟨⟨(hb0.trans (hb1.mono z1)).trans (hb2.mono (by omega)), fun i k e => by omega, fun i k e => by simp; omega, fun i j k e f => by omega⟩, ?_, ?_, ?_, RowO.nil _ _ _, fun k e => (by cases e), fun f hf => (by cases hf)⟩⟩
  · have h := (hS.below hb1).below hb2
    rw [show (fun k => ((0 : Nat) = 0 ∧ k = w.heap.size) ∨ ((0 : Nat) = 1 ∧ k = w0.heap.size) ∨ ((0 : Nat) = 2 ∧ k = w1.heap.size)) = fun k => k = w.heap.size from funext fun k => propext (by omega)]
    exact h
  · have h := hR.below hb2
    rw [show (fun k => ((1 : Nat) = 0 ∧ k = w.heap.size) ∨ ((1 : Nat) = 1 ∧ k = w0.heap.size) ∨ ((1 : Nat) = 2 ∧ k = w1.heap.size)) = fun k => k = w0.heap.size from funext fun k => propext (by omega)]
    exact h
  · rw [show (fun k => ((2 : Nat) = 0 ∧ k = w.heap.size) ∨ ((2 : Nat) = 1 ∧ k = w0.heap.size) ∨ ((2 : Nat) = 2 ∧ k = w1.heap.size)) = fun k => k = w1.heap.size from funext fun k => propext (by omega)]
    exact Bw.BwBR.new w.heap.size w1 ty (by omega)
end
end Sr
end Go.Proofs.YtehadfidenejdaaGreatDoor

/-! The book is told a frame: its data, its ranges. -/
namespace Go.Proofs.YtehadfidenejdaaGreatDoor
open Go Go.RowKit

namespace Sr
open Sd
set_option maxHeartbeats 1000000 in
theorem tellFrame {w W : World} {g h B nn : Nat} {s t : Snd} {v : Value} {l : List FrM} {z : Nat → Nat → Prop} (x : SpI w W g h B nn s t v l z) (f : FrM) (hn : nn ≤ 2000000) (hf : f.ranges = ⟨none, 0, 0, 0, 0, []⟩) (hl : f.data.len ≤ 1048576)
    (ho : W.ownsRow w.heap.size 5 1 (.slice f.data.a f.data.len f.data.cap) f.data.len (vb f.data.b)) (hz : ∀ q, (Value.slice f.data.a f.data.len f.data.cap).ownBlock = some q → z 6 q) :
    Calls Tryz.prog 18 #[.pointer (some ⟨B, 0, none⟩), .agg f.cells] W fun e w' => e = .returned (.tuple #[]) ∧ ∃ z', SpI w w' g h B (nn + 1 + 1) s t v l z' ∧ (∀ i, i ≠ 2 → i ≠ 6 → z' i = z i) ∧ KeepP (fun q => z 2 q ∨ z 6 q) W w' := by
  have hb1 : Below W.heap.size W (W.alloc (.cells f.cells 28)) := (Below.refl _ W).alloc (Nat.le_refl _) _
  have x1 := x.below hb1
  have rf : Row (W.alloc (.cells f.cells 28)) W.heap.size 28 f.cells := Row.new _ _ _
  have c6 := (fr_cells rf).2.2.2.2.2.2.1
  have c7 := (fr_cells rf).2.2.2.2.2.2.2
  have ho1 := own_belowK ho hb1
  have nz : ∀ q, (Value.slice f.data.a f.data.len f.data.cap).ownBlock = some q → ¬ z 2 q := fun q e f => absurd (x.zs.ap 6 2 q (hz q e) f) (by decide)
  have T1 := veil (x1.bk.tellByte f.data.a f.data.len f.data.cap _ (by omega) ho1 (by omega) nz)
  have HB1 := veil hb1
  have X1 := veil x1
  have HZ := veil hz
  have HSZ := veil (show W.heap.size < (W.alloc (.cells f.cells 28)).heap.size by simp)
  have RF := veil rf
  have NB := veil (show ¬ z 2 W.heap.size from fun e => Nat.lt_irrefl _ (x.zs.lt 2 _ e))
  rw [hf] at c7
  have HN := veil hn
  clear x x1 ho ho1 nz hb1 hz hn rf
  go_enter Tryz.func18, Tryz.ntmps18
  go_wp2_with fail
  generalize W.alloc (.cells f.cells 28) = W1 at *
  refine T1.out.mono ?_
  rintro e1 w1 ⟨rfl, hk1, hb1⟩
  obtain ⟨za, x2, e2, l2⟩ := X1.out.told hb1 hk1 HZ.out
  have d7 : w1.cell? ⟨W.heap.size, 7, none⟩ = some (.slice none 0 0) := (World.cell?_of_block (a := ⟨W.heap.size, 7, none⟩) (hk1.block _ HSZ.out NB.out)).trans c7
  have T2 := veil (x2.bk.tellRange none 0 0 [] (by have := HN.out; omega) ⟨rfl, .inl ⟨rfl, rfl⟩⟩ (by omega) (fun q e => by cases e))
  have X2 := veil x2
  have E2 := veil e2
  have K1 := veil hk1
  have L1 := veil l2
  clear x2 e2 l2 hk1 hb1 T1 c6 c7
  go_wp2_with fail
  refine T2.out.mono ?_
  rintro e2 w2 ⟨rfl, hk2, hb2⟩
  obtain ⟨zb, x3, e3, _⟩ := X2.out.told hb2 hk2 (fun q e => by cases e)
  have X3 := veil x3
  have E3 := veil e3
  have K2 := veil hk2
  clear x3 e3 hk2 hb2 T2
  go_wp2_with fail
  go_end0
  refine ⟨rfl, zb, X3.out, fun i c d => (E3.out i c d).trans (E2.out i c d), ?_⟩
  have k1 : KeepP (fun q => z 2 q ∨ z 6 q) W W1 := KeepP.of_below HB1.out
  have k2 : KeepP (fun q => z 2 q ∨ z 6 q) W1 w1 := K1.out.mono (fun _ q => .inl q)
  refine onto (k1.trans k2) K2.out (fun q hq e => ?_)
  rcases L1.out q e with f | f | f
  · exact .inl f
  · exact .inr f
  · have := HSZ.out; omega
end Sr
end Go.Proofs.YtehadfidenejdaaGreatDoor

/-! Acts of StreamPlays in memory. -/
namespace Go.Proofs.YtehadfidenejdaaGreatDoor
open Go Go.RowKit

structure A16 where
  kind : Nat
  b : SL
  last : Bool
  n : Int
  fresh : Nat
  f : FrM
def A16.cells (a : A16) : Array Value := #[.int .u8 (a.kind : Int), .slice a.b.a a.b.len a.b.cap, .bool a.last, .int .i64 a.n, .int .u64 (a.fresh : Int), .int .u8 (a.f.kind : Int), .int .u64 (a.f.stream : Int), .int .u64 (a.f.offset : Int), .int .u64 (a.f.limit : Int), .int .u64 (a.f.code : Int), .bool a.f.fin, .slice a.f.data.a a.f.data.len a.f.data.cap, .slice a.f.ranges.a a.f.ranges.len a.f.ranges.cap]
structure A16.Ok (w : World) (a : A16) : Prop where
  f : a.f.Ok w
  b : a.b.Ok w
  kind : a.kind < 256
  fresh : a.fresh < 18446744073709551616
  n : -9223372036854775808 ≤ a.n ∧ a.n ≤ 9223372036854775807
theorem A16.Ok.below {w w' : World} {a : A16} (h : a.Ok w) (hb : Below w.heap.size w w') : a.Ok w' := ⟨h.f.below hb, h.b.below hb, h.kind, h.fresh, h.n⟩
/-- How long the lists of an act are. -/
structure A16.Small (m : Nat) (a : A16) : Prop where
  b : a.b.len ≤ m
  d : a.f.data.len ≤ m
  r : a.f.ranges.len ≤ m
def a160 : A16 := ⟨0, ⟨none, 0, 0, 0, 0, []⟩, false, 0, 0, ⟨0, 0, 0, 0, 0, false, ⟨none, 0, 0, 0, 0, []⟩, ⟨none, 0, 0, 0, 0, []⟩⟩⟩
def gc (l : List A16) (j : Nat) : A16 := l[j]?.getD a160
structure S16 where
  a : Option Addr
  len : Nat
  cap : Nat
  g : Nat
  off : Nat
  l : List A16
structure S16.Ok (w : World) (s : S16) : Prop where
  hb : s.l.length = s.len
  hcap : s.len ≤ s.cap
  nil : s.a = none → s.len = 0 ∧ s.cap = 0
  at_ : 0 < s.len → s.a = some ⟨s.g, s.off, none⟩
  lt : 0 < s.len → s.g < w.heap.size
  cell : ∀ j : Nat, j < s.len → w.rangeAt s.g (s.off + j * 13) (gc s.l j).cells.toList
  each : ∀ j : Nat, j < s.len → (gc s.l j).Ok w
theorem S16.Ok.below {w w' : World} {s : S16} (h : s.Ok w) (hb : Below w.heap.size w w') : s.Ok w' :=
  ⟨h.hb, h.hcap, h.nil, h.at_, fun p => Nat.lt_of_lt_of_le (h.lt p) hb.size, fun j hj i v hv => (hb.cell (p := ⟨s.g, s.off + j * 13 + i, none⟩) (h.lt (by omega))).trans (h.cell j hj i v hv), fun j hj => (h.each j hj).below hb⟩
end Go.Proofs.YtehadfidenejdaaGreatDoor

/-! A drawn region whose operations have values that are known ahead, with a line of calls that turn the world. -/
namespace Go.Proofs.YtehadfidenejdaaGreatDoor
open Go Go.RowKit

theorem puts_same : ∀ (ds : List Nat) (a : Act) (k : Nat) (x y : Nat → Value), (∀ j, k ≤ j → j < k + ds.length → x j = y j) → putsV a ds k x = putsV a ds k y
  | [], _, _, _, _, _ => rfl
  | e :: ds, a, k, x, y, h => by
    rw [putsV, putsV, h k (Nat.le_refl _) (by simp), puts_same ds _ _ x y (fun j h1 h2 => h j (by omega) (by simp; omega))]
section
variable {F : Fence} {n : Nat} {P : Program} {ops : Array Oper} {Q : Exit → Act → World → Prop} {md : Region.Mode}
theorem anyIn_line {a0 : Act} {W0 : World} (V : Nat → Value) (R : Nat → World → Prop) (ch ds : List Nat) (dep : Nat → List Nat) (hd : edgesB md ops dep = true) (hlen : ds.length = ops.size) (hnd : ds.Nodup) (hchn : ch.Nodup)
    (hord : ∀ k i j, ch[k]? = some j → ch[k + 1]? = some i → j ∈ dep i ∨ ∃ q ∈ dep i, j ∈ dep q)
    (hin : ∀ j ∈ ch, j < ops.size)
    (h0 : R 0 W0)
    (hfix : ∀ (x : Nat → Value) (W : World) (m i d : Nat), R m W → ds[i]? = some d → i ∉ ch → (∀ j ∈ dep i, x j = V j) → wpOpIn F n P ops Q i (fun a' W' => a' = (putsV a0 ds 0 x).put (some d) (V i) ∧ W' = W) (putsV a0 ds 0 x) W)
    (hcal : ∀ (x : Nat → Value) (W : World) (k i d : Nat), R k W → ch[k]? = some i → ds[i]? = some d → (∀ j ∈ dep i, x j = V j) → wpOpIn F n P ops Q i (fun a' W' => a' = (putsV a0 ds 0 x).put (some d) (V i) ∧ R (k + 1) W') (putsV a0 ds 0 x) W)
    (hdone : ∀ (W : World), R ch.length W → Q .normal (putsV a0 ds 0 V) W) : wpAnyIn F n P md ops Q ops.size (Array.replicate ops.size false) a0 W0 := by
  refine anyIn_inv2 (Inv := fun l a W => ∃ (x : Nat → Value) (m : Nat), a = putsV a0 ds 0 x ∧ R m W ∧ (∀ j, On l j → x j = V j) ∧ (∀ k j, ch[k]? = some j → (On l j ↔ k < m)) ∧ m ≤ ch.length ∧ (∀ j, On l j → ∀ i ∈ dep j, On l i)) dep ops.size rfl hd ?_ ?_ _ _ _ _ (by simp) (by simp) ?_
  · rintro l a W i hl ⟨x, m, rfl, h1, h2, h5, h6, h4⟩ hi hno hdep
    have hi' : i < ds.length := by omega
    have hdi : ds[i]? = some ds[i] := List.getElem?_eq_getElem hi'
    have hfx : ∀ j ∈ dep i, x j = V j := fun j hj => h2 j (hdep j hj)
    have hon : ∀ j, On (l.setIfInBounds i true) j ↔ j = i ∨ On l j := by
      intro j
      constructor
      · intro h
        by_cases e : j = i
        · exact .inl e
        · exact .inr (h.of_set (Ne.symm e))
      · rintro (rfl | h)
        · exact On.self (by omega)
        · exact h.set
    have hcl : ∀ j, On (l.setIfInBounds i true) j → ∀ i' ∈ dep j, On (l.setIfInBounds i true) i' := by
      intro j hj q hq
      rcases (hon j).1 hj with rfl | hj
      · exact (hdep q hq).set
      · exact (h4 j hj q hq).set
    have hup : ∀ j, On (l.setIfInBounds i true) j → updV x i (V i) j = V j := by
      intro j hj
      unfold updV
      split
      · rename_i e; rw [e]
      · rename_i e; exact h2 j (((hon j).1 hj).resolve_left e)
    by_cases hc : i ∈ ch
    · obtain ⟨k, hk, hki⟩ := List.getElem_of_mem hc
      have hk' : ch[k]? = some i := by rw [List.getElem?_eq_getElem hk, hki]
      have hmk : m ≤ k := Nat.le_of_not_lt fun h => hno ((h5 k i hk').2 h)
      have hm : m = k := by
        cases k with
        | zero => omega
        | succ p =>
          have hp : ch[p]? = some ch[p] := List.getElem?_eq_getElem (by omega)
          have hjp : On l ch[p] := by
            rcases hord p i _ hp hk' with e | ⟨q, e1, e2⟩
            · exact hdep _ e
            · exact h4 q (hdep q e1) _ e2
          have := (h5 p _ hp).1 hjp
          omega
      subst hm
      refine wpOpIn_mono ?_ (hcal x W m i ds[i] h1 hk' hdi hfx)
      rintro a' W' ⟨rfl, hR⟩
      refine ⟨updV x i (V i), m + 1, ?_, hR, hup, ?_, by omega, hcl⟩
      · rw [puts_put ds a0 0 i _ x _ hnd hdi, Nat.zero_add]
      · intro k j hkj
        rw [hon j, h5 k j hkj]
        constructor
        · rintro (rfl | h)
          · by_cases hkm : k < m
            · omega
            · by_cases hkm2 : m < k
              · obtain ⟨p1, p2⟩ := List.getElem?_eq_some_iff.1 hkj
                obtain ⟨q1, q2⟩ := List.getElem?_eq_some_iff.1 hk'
                exact absurd (q2.trans p2.symm) (List.pairwise_iff_getElem.1 hchn m k q1 p1 hkm2)
              · omega
          · omega
        · intro h
          by_cases hkm : k = m
          · subst hkm
            rw [hkj] at hk'
            exact .inl (Option.some.inj hk')
          · exact .inr (by omega)
    · refine wpOpIn_mono ?_ (hfix x W m i ds[i] h1 hdi hc hfx)
      rintro a' W' ⟨rfl, rfl⟩
      refine ⟨updV x i (V i), m, ?_, h1, hup, ?_, h6, hcl⟩
      · rw [puts_put ds a0 0 i _ x _ hnd hdi, Nat.zero_add]
      · intro k j hkj
        have hne : j ≠ i := fun e => hc (e ▸ List.mem_of_getElem? hkj)
        rw [hon j, ← h5 k j hkj]
        exact ⟨fun h => h.resolve_left hne, .inr⟩
  · rintro l a W ⟨x, m, rfl, h1, h2, h5, h6, _⟩ hall
    have hm : m = ch.length := by
      rcases Nat.lt_or_ge m ch.length with h | h
      · have hp : ch[m]? = some ch[m] := List.getElem?_eq_getElem h
        have := (h5 m _ hp).1 (hall _ (hin _ (List.getElem_mem h)))
        omega
      · omega
    subst hm
    rw [puts_same ds a0 0 x V (fun j _ hj => h2 j (hall j (by omega)))]
    exact hdone W h1
  · refine ⟨_, 0, (puts_start a0 ds 0).symm, h0, fun j hj => absurd hj (On.none _ _), fun k j _ => ⟨fun h => absurd h (On.none _ _), fun h => absurd h (Nat.not_lt_zero _)⟩, Nat.zero_le _, fun j hj => absurd hj (On.none _ _)⟩
end
end Go.Proofs.YtehadfidenejdaaGreatDoor

/-! StreamPlays: what holds in a round, and between the calls of its drawn regions. -/
namespace Go.Proofs.YtehadfidenejdaaGreatDoor
open Go Go.RowKit

namespace Sr
open Sd
section
variable {w W W' : World} {g h B nn : Nat} {s t : Snd} {v : Value} {l : List FrM} {z z' : Nat → Nat → Prop} {bx bg bh g1 g2 : Nat} {cs : Array Value} {G : FrM}
theorem RvI.zone (x : RvI w W z bx bg bh g1 g2 cs G) (e4 : z' 4 = z 4) (e5 : z' 5 = z 5) : RvI w W z' bx bg bh g1 g2 cs G :=
  ⟨x.x, x.g, x.h, by rw [e5]; exact x.zx, by rw [e5]; exact x.zg, by rw [e5]; exact x.zh, by rw [e5]; exact x.z1, by rw [e5]; exact x.z2, x.t1, x.t2, x.okh, by rw [e4]; exact x.okg⟩
/-- The variables of a round are made. -/
theorem rv_make (x : SpI w W g h B nn s t v l z) (hb : Below W.heap.size W W') (rx : Row W' bx 30 cs) (rg : Row W' bg 28 G.cells) (rh : Row W' bh 28 (G.twin g1 g2).cells)
    (lx : W.heap.size ≤ bx) (lg : W.heap.size ≤ bg) (lh : W.heap.size ≤ bh) (t1 : TwD W.heap.size W' g1 G.data) (t2 : TwG W.heap.size W' g2 G.ranges) (hG : GOk w (z 4) W G) :
    ∃ z', SpI w W' g h B nn s t v l z' ∧ RvI w W' z' bx bg bh g1 g2 cs G ∧ ∀ i, i ≠ 5 → z' i = z i := by
  have x1 := x.below hb
  have hw := x.zs.bel.size
  have key : ∀ q, W.heap.size ≤ q → q < W'.heap.size → w.heap.size ≤ q ∧ q < W'.heap.size ∧ ∀ j, j ≠ 5 → ¬ z j q := fun q h1 h2 => ⟨by omega, h2, fun j _ e => by have := x.zs.lt j q e; omega⟩
  have zs := x1.zs.put 5 (fun q => q = bx ∨ q = bg ∨ q = bh ∨ q = g1 ∨ q = g2) (fun q e => by
    rcases e with rfl | rfl | rfl | rfl | rfl
    · exact key _ lx rx.lt
    · exact key _ lg rg.lt
    · exact key _ lh rh.lt
    · exact key _ t1.ge t1.lt
    · exact key _ t2.ge t2.lt)
  have e5 : zset z 5 (fun q => q = bx ∨ q = bg ∨ q = bh ∨ q = g1 ∨ q = g2) 5 = fun q => q = bx ∨ q = bg ∨ q = bh ∨ q = g1 ∨ q = g2 := zset_self _ _ _
  refine ⟨_, x1.zone zs (fun i hi => zset_ne _ _ (by omega)), ⟨rx, rg, rh, by rw [e5]; exact .inl rfl, by rw [e5]; exact .inr (.inl rfl), by rw [e5]; exact .inr (.inr (.inl rfl)), by rw [e5]; exact .inr (.inr (.inr (.inl rfl))), by rw [e5]; exact .inr (.inr (.inr (.inr rfl))), t1.twin, t2.twin, hG.ok.twin t1 t2, ?_⟩, fun i hi => zset_ne _ _ hi⟩
  rw [zset_ne _ _ (by decide)]
  exact hG.keep (KeepP.of_below (st := fun _ => False) hb) (fun _ _ q => q) (fun _ _ q => q) (fun _ q => q)
/-- A block that is new is put into a zone of its own. -/
theorem zone_new (x : SpI w W g h B nn s t v l z) (r : RvI w W z bx bg bh g1 g2 cs G) (hb : Below W.heap.size W W') (i : Nat) (hi : 6 ≤ i) (o : Nat → Prop) (ho : ∀ q, o q → W.heap.size ≤ q ∧ q < W'.heap.size) :
    SpI w W' g h B nn s t v l (zset z i o) ∧ RvI w W' (zset z i o) bx bg bh g1 g2 cs G := by
  have x1 := x.below hb
  have hw := x.zs.bel.size
  have zs := x1.zs.put i o (fun q e => ⟨by have := (ho q e).1; omega, (ho q e).2, fun j _ f => by have := x.zs.lt j q f; have := (ho q e).1; omega⟩)
  exact ⟨x1.zone zs (fun j hj => zset_ne _ _ (by omega)), (r.below hb).zone (zset_ne _ _ (by omega)) (zset_ne _ _ (by omega))⟩
end
/-- Between the calls of a drawn region: the first is the program's sender's, the second the document's; E is what holds besides. -/
def RSp (w : World) (g h B nn : Nat) (s s' : Snd) (v : Value) (l : List FrM) (bx bg bh g1 g2 : Nat) (cs : Array Value) (G : FrM) (E : (Nat → Nat → Prop) → World → Prop) : Nat → World → Prop
  | 0, W => ∃ z, SpI w W g h B nn s s v l z ∧ RvI w W z bx bg bh g1 g2 cs G ∧ E z W
  | 1, W => ∃ z, SpI w W g h B nn s' s v l z ∧ RvI w W z bx bg bh g1 g2 cs G ∧ E z W
  | _, W => ∃ z, SpI w W g h B nn s' s' v l z ∧ RvI w W z bx bg bh g1 g2 cs G ∧ E z W
section
variable {w W W' : World} {g h B nn : Nat} {s s' : Snd} {v : Value} {l : List FrM} {bx bg bh g1 g2 : Nat} {cs : Array Value} {G : FrM} {E : (Nat → Nat → Prop) → World → Prop}
theorem RSp.rv : ∀ {m : Nat} {W : World}, RSp w g h B nn s s' v l bx bg bh g1 g2 cs G E m W → ∃ z, RvI w W z bx bg bh g1 g2 cs G
  | 0, _, ⟨z, _, r, _⟩ => ⟨z, r⟩
  | 1, _, ⟨z, _, r, _⟩ => ⟨z, r⟩
  | _ + 2, _, ⟨z, _, r, _⟩ => ⟨z, r⟩
/-- What holds besides stays. -/
def EKeep (w : World) (E : (Nat → Nat → Prop) → World → Prop) : Prop := ∀ (i : Nat) (z z' : Nat → Nat → Prop) (W W' : World), i ≠ 6 → Zs w W z → KeepP (z i) W W' → z' 6 = z 6 → E z W → E z' W'
theorem rsp_snd (hE : EKeep w E) {o' : Nat → Prop} {z : Nat → Nat → Prop} (x : SpI w W g h B nn s s v l z) (r : RvI w W z bx bg bh g1 g2 cs G) (e : E z W) (h1 : SnS W' g s' o') (a : After (z 0) W W' o') : RSp w g h B nn s s' v l bx bg bh g1 g2 cs G E 1 W' :=
  ⟨_, x.snd h1 a, r.step x.zs a.1 (by decide) (by decide), hE 0 z _ W W' (by decide) x.zs a.1 (zset_ne _ _ (by decide)) e⟩
theorem rsp_ref (hE : EKeep w E) {o' : Nat → Prop} {z : Nat → Nat → Prop} (x : SpI w W g h B nn s' s v l z) (r : RvI w W z bx bg bh g1 g2 cs G) (e : E z W) (h1 : RfS W' h s' o') (a : After (z 1) W W' o') : RSp w g h B nn s s' v l bx bg bh g1 g2 cs G E 2 W' :=
  ⟨_, x.ref h1 a, r.step x.zs a.1 (by decide) (by decide), hE 1 z _ W W' (by decide) x.zs a.1 (zset_ne _ _ (by decide)) e⟩
def ENo : (Nat → Nat → Prop) → World → Prop := fun _ _ => True
theorem eno_keep : EKeep w ENo := fun _ _ _ _ _ _ _ _ _ _ => trivial
/-- A copy of bytes in zone 6. -/
def ETw (w : World) (nb : Nat) (b : SL) : (Nat → Nat → Prop) → World → Prop := fun z W => TwD w.heap.size W nb b ∧ z 6 nb
theorem etw_keep {nb : Nat} {b : SL} : EKeep w (ETw w nb b) := fun i z z' W W' hi zs k e6 ⟨h1, h2⟩ => by
  have hn : ¬ z i nb := fun e => hi (zs.ap i 6 nb e h2)
  exact ⟨⟨own_keepK h1.own (fun q e => by cases e; exact k.block _ h1.lt hn), twin_keep h1.twin k hn⟩, by rw [e6]; exact h2⟩
end
section
variable {w W W' : World} {g h B nn : Nat} {s : Snd} {v : Value} {l : List FrM} {z z' : Nat → Nat → Prop} {bx bg bh g1 g2 : Nat} {cs : Array Value} {G : FrM}
/-- A step that writes in zones that are none of a round's variables. -/
theorem RvI.many {st : Nat → Prop} (x : RvI w W z bx bg bh g1 g2 cs G) (zs : Zs w W z) (k : KeepP st W W') (hst : ∀ q, st q → ∃ i, i ≠ 4 ∧ i ≠ 5 ∧ z i q) (h4 : ∀ q, z 4 q → z' 4 q) (h5 : z' 5 = z 5) : RvI w W' z' bx bg bh g1 g2 cs G :=
  x.keep k (fun q c e => by obtain ⟨i, _, _, f⟩ := hst q e; have := zs.lo i q f; omega) (fun q c e => by obtain ⟨i, _, d, f⟩ := hst q e; exact d (zs.ap i 5 q f c)) (fun q c e => by obtain ⟨i, d, _, f⟩ := hst q e; exact d (zs.ap i 4 q f c)) h4 (fun q e => by rw [h5]; exact e)
/-- The twin of bytes is told to the book. -/
theorem tell_twin (hp : SpI w W g h B nn s s v l z) (hr : RvI w W z bx bg bh g1 g2 cs G) {nb : Nat} {b : SL} (he : ETw w nb b z W) (hn : nn ≤ 2900000) (hl : b.len ≤ 1048576) :
    Calls Tryz.prog 14 #[.pointer (some ⟨B, 0, none⟩), .slice (some ⟨nb, 0, none⟩) b.len (b.len + 1)] W fun e w' => e = .returned (.tuple #[]) ∧ ∃ z', SpI w w' g h B (nn + 1) s s v l z' ∧ RvI w w' z' bx bg bh g1 g2 cs G := by
  refine (hp.bk.tellByte (some ⟨nb, 0, none⟩) b.len (b.len + 1) _ hn he.1.own (by omega) (fun q e f => ?_)).mono ?_
  · injection e with e
    have e : nb = q := e
    subst e
    exact absurd (hp.zs.ap 6 2 _ he.2 f) (by decide)
  · rintro e w' ⟨rfl, hk, hb⟩
    obtain ⟨z', h1, h2, _⟩ := hp.told hb hk (fun q e => by
      injection e with e
      have e : nb = q := e
      subst e
      exact he.2)
    exact ⟨rfl, z', h1, hr.many hp.zs hk (fun q e => ⟨2, by decide, by decide, e⟩) (fun q e => by rw [h2 4 (by decide) (by decide)]; exact e) (h2 5 (by decide) (by decide))⟩
theorem etw_ok {nb : Nat} {b : SL} {w0 : World} (he : ETw w nb b z W) (hb : b.Ok w0) : (twinS nb b.len b.b).Ok W :=
  ⟨hb.hb, Nat.le_succ _, (fun e => by cases e), fun _ => rfl, fun _ => he.1.twin.lt, fun j hj => by show W.cell? ⟨nb, 0 + j, none⟩ = _; rw [Nat.zero_add]; exact he.1.twin.cell j (by rw [hb.hb]; exact hj)⟩
end
theorem run_neqS {P : Program} {a : Act} {o : Oper} (t t' : TypeId) (x y : Operand) (e : Int) (ho : o.op = .binOp .neq t x y t') (hx : a.eval x = .int .i64 e) (hy : a.eval y = .int .i64 e) (W : World) : (execOp a.eval o).run P W = .ok (.value (.bool false)) W := by
  unfold execOp
  simp only [ho, hx, hy]
  go_simp
end Sr
end Go.Proofs.YtehadfidenejdaaGreatDoor

/-! A frame is taken: of the program's sender, of the document's; where it lies. -/
namespace Go.Proofs.YtehadfidenejdaaGreatDoor
open Go Go.RowKit

namespace Sr
open Sd
theorem zone_put {w W : World} {g h B nn : Nat} {s t : Snd} {v : Value} {l : List FrM} {z : Nat → Nat → Prop} {bx bg bh g1 g2 : Nat} {cs : Array Value} {G : FrM} (x : SpI w W g h B nn s t v l z) (r : RvI w W z bx bg bh g1 g2 cs G) (i : Nat) (hi : 6 ≤ i) (o : Nat → Prop) (ho : ∀ q, o q → w.heap.size ≤ q ∧ q < W.heap.size ∧ ∀ j, j ≠ i → ¬ z j q) :
    SpI w W g h B nn s t v l (zset z i o) ∧ RvI w W (zset z i o) bx bg bh g1 g2 cs G :=
  ⟨x.zone (x.zs.put i o ho) (fun j hj => zset_ne _ _ (by omega)), r.zone (zset_ne _ _ (by omega)) (zset_ne _ _ (by omega))⟩
/-- The document's frame. -/
def frS (id p : Nat) (fn : Bool) (s : SL) : FrM := ⟨7, id, p, 0, 0, fn, s, ⟨none, 0, 0, 0, 0, []⟩⟩
theorem step_take {w W : World} {g h B nn : Nat} {s : Snd} {v : Value} {l : List FrM} {z : Nat → Nat → Prop} {bx bg bh g1 g2 : Nat} {cs : Array Value} {G : FrM} (x : SpI w W g h B nn s s v l z) (r : RvI w W z bx bg bh g1 g2 cs G) {num : Int} {fr p q : Nat} (hn : num ≤ 9223372036854775807) (hfr : fr ≤ 18446744073709551615) (hs : span s num fr = some (p, q)) :
    Calls Tryz.prog 15 #[.pointer (some ⟨g, 0, none⟩), .int .i64 num, .int .u64 (fr : Int)] W fun e w' => ∃ b z', e = .returned (.tuple #[.agg (frT s.id p (finB s q) (Sd.cut s.b p q) b).cells, .bool true]) ∧
      (frT s.id p (finB s q) (Sd.cut s.b p q) b).Ok w' ∧ w'.ownsRow w.heap.size 5 1 (.slice (some ⟨b, 0, none⟩) (Sd.cut s.b p q).length (Sd.cut s.b p q).length) (Sd.cut s.b p q).length (vb (Sd.cut s.b p q)) ∧ SpI w w' g h B nn (tell s p q) s v l z' ∧ RvI w w' z' bx bg bh g1 g2 cs G ∧ z' 6 b := by
  refine (take_any W g s _ x.sn num fr hn hfr).mono ?_
  intro e w' hp
  have hf := snS_fine x.sn
  unfold TakeP at hp
  rw [hs] at hp
  obtain ⟨b, own', rfl, h1, h2, h3, h4⟩ := hp
  have sp := span_some hf hs
  have hl := Sd.cut_length sp.le sp.top
  have h5 := h1.lt b rfl
  have x2 := x.snd h2 h3
  have r2 := r.step (o' := own') x.zs h3.1 (by decide) (by decide)
  have sw := x.zs.bel.size
  obtain ⟨x3, r3⟩ := zone_put x2 r2 6 (by decide) (fun q => q = b) (fun q e => by
    subst e
    refine ⟨by omega, h5.2, fun j _ f => ?_⟩
    by_cases c : j = 0
    · subst c
      rw [zset_self] at f
      exact h4 f
    · rw [zset_ne _ _ c] at f
      have := x.zs.lt j _ f
      omega)
  exact ⟨b, _, by rw [frD_cells _ _ _ _ _ _ hl], frT_ok hf.id (by have := sp.le; have := sp.top; have := hf.len; omega) hl h1, by rw [hl]; exact own_lowK h1 sw, x3, r3, by rw [zset_self]⟩
theorem step_refTake {w W : World} {g h B nn : Nat} {s t : Snd} {v : Value} {l : List FrM} {z : Nat → Nat → Prop} {bx bg bh g1 g2 : Nat} {cs : Array Value} {G : FrM} (x : SpI w W g h B nn t s v l z) (r : RvI w W z bx bg bh g1 g2 cs G) (hf : Fine s) {num : Int} {fr p q : Nat} (hn : num ≤ 9223372036854775807) (hfr : fr ≤ 18446744073709551615) (hs : span s num fr = some (p, q)) :
    Calls Tryz.prog 16 #[.pointer (some ⟨h, 0, none⟩), .int .i64 num, .int .u64 (fr : Int)] W fun e w' => ∃ (d : SL) (z' : Nat → Nat → Prop), e = .returned (.tuple #[.agg (frS s.id p (finB s q) d).cells, .bool true]) ∧
      d.b = Sd.cut s.b p q ∧ (frS s.id p (finB s q) d).Ok w' ∧ TkF (z' 7) w' (frS s.id p (finB s q) d) ∧ SpI w w' g h B nn t (tell s p q) v l z' ∧ RvI w w' z' bx bg bh g1 g2 cs G ∧ (∀ i, i ≠ 1 → i ≠ 7 → z' i = z i) ∧ KeepP (z 1) W w' := by
  refine (refTake_any x.rf num fr hn hfr).mono ?_
  intro e w' hp
  unfold RTakeP at hp
  rw [hs] at hp
  obtain ⟨dv, rfl, h1, h2, h3, h4⟩ := hp
  have sp := span_some hf hs
  have hl := Sd.cut_length sp.le sp.top
  obtain ⟨d, rfl, e1, e2, e3, e4⟩ := sl_rowO h1 hl
  have x2 := x.ref h3 h4
  have r2 := r.step (o' := z 1) x.zs h4.1 (by decide) (by decide)
  have sw := x.zs.bel.size
  obtain ⟨x3, r3⟩ := zone_put x2 r2 7 (by decide) (fun q => 0 < d.len ∧ q = d.g) (fun q e => by
    obtain ⟨e, rfl⟩ := e
    have h5 := h2 _ (e4 e)
    refine ⟨by omega, e3.lt e, fun j _ f => ?_⟩
    by_cases c : j = 1
    · subst c
      rw [zset_self] at f
      have := x.zs.lt 1 _ f
      omega
    · rw [zset_ne _ _ c] at f
      have := x.zs.lt j _ f
      omega)
  have ok : (frS s.id p (finB s q) d).Ok w' := ⟨e3, ⟨rfl, Nat.le_refl _, fun _ => ⟨rfl, rfl⟩, fun q => absurd q (Nat.lt_irrefl _), fun q => absurd q (Nat.lt_irrefl _), fun _ q => absurd q (Nat.not_lt_zero _), fun j => ⟨by show (gr [] j).1 < _; simp [gr], by show (gr [] j).2 < _; simp [gr]⟩⟩, by show (7 : Nat) < 256; decide, by have := hf.id; show s.id < _; omega, by have := sp.le; have := sp.top; have := hf.len; show p < _; omega, by show (0 : Nat) < _; decide, by show (0 : Nat) < _; decide⟩
  refine ⟨d, _, ?_, e2, ok, ⟨ok, rfl, ?_, fun p => ?_⟩, x3, r3, fun i c c2 => ?_, h4.1⟩
  · rw [show (frS s.id p (finB s q) d).cells = frD s.id p (finB s q) (.slice d.a d.len d.cap) from rfl]
  · show d.len ≤ _
    have := sp.top
    have := hf.len
    omega
  · rw [zset_self]
    exact ⟨p, rfl⟩
  · rw [zset_ne _ _ c2, zset_ne _ _ c]
/-- The same, by other names. -/
theorem step_take' {w W : World} {g h B nn : Nat} {s s9 : Snd} {v : Value} {l : List FrM} {z : Nat → Nat → Prop} {bx bg bh g1 g2 : Nat} {cs : Array Value} {G : FrM} (x : SpI w W g h B nn s s v l z) (r : RvI w W z bx bg bh g1 g2 cs G) {num : Int} {fr p q : Nat} (hn : num ≤ 9223372036854775807) (hfr : fr ≤ 18446744073709551615) (hs : span s num fr = some (p, q))
    {id : Nat} {fin : Bool} {dat : List By} (e1 : s.id = id) (e2 : finB s q = fin) (e3 : Sd.cut s.b p q = dat) (e4 : tell s p q = s9) :
    Calls Tryz.prog 15 #[.pointer (some ⟨g, 0, none⟩), .int .i64 num, .int .u64 (fr : Int)] W fun e w' => ∃ b z', e = .returned (.tuple #[.agg #[.int .u8 7, .int .u64 (id : Int), .int .u64 (p : Int), .int .u64 0, .int .u64 0, .bool fin, .slice (some ⟨b, 0, none⟩) dat.length dat.length, .slice none 0 0], .bool true]) ∧
      w'.ownsRow w.heap.size 5 1 (.slice (some ⟨b, 0, none⟩) dat.length dat.length) dat.length (vb dat) ∧ SpI w w' g h B nn s9 s v l z' ∧ RvI w w' z' bx bg bh g1 g2 cs G ∧ z' 6 b := by
  subst e1 e2 e3 e4
  refine (step_take x r hn hfr hs).mono ?_
  rintro e w' ⟨b, z', rfl, _, h⟩
  exact ⟨b, z', rfl, h⟩
theorem step_refTake' {w W : World} {g h B nn : Nat} {s s9 t : Snd} {v : Value} {l : List FrM} {z : Nat → Nat → Prop} {bx bg bh g1 g2 : Nat} {cs : Array Value} {G : FrM} (x : SpI w W g h B nn t s v l z) (r : RvI w W z bx bg bh g1 g2 cs G) (hf : Fine s) {num : Int} {fr p q : Nat} (hn : num ≤ 9223372036854775807) (hfr : fr ≤ 18446744073709551615) (hs : span s num fr = some (p, q))
    {id : Nat} {fin : Bool} {dat : List By} (e1 : s.id = id) (e2 : finB s q = fin) (e3 : Sd.cut s.b p q = dat) (e4 : tell s p q = s9) :
    Calls Tryz.prog 16 #[.pointer (some ⟨h, 0, none⟩), .int .i64 num, .int .u64 (fr : Int)] W fun e w' => ∃ (d : SL) (z' : Nat → Nat → Prop), e = .returned (.tuple #[.agg #[.int .u8 7, .int .u64 (id : Int), .int .u64 (p : Int), .int .u64 0, .int .u64 0, .bool fin, .slice d.a d.len d.cap, .slice none 0 0], .bool true]) ∧
      d.b = dat ∧ TkF (z' 7) w' (frS id p fin d) ∧ SpI w w' g h B nn t s9 v l z' ∧ RvI w w' z' bx bg bh g1 g2 cs G ∧ (∀ i, i ≠ 1 → i ≠ 7 → z' i = z i) ∧ KeepP (z 1) W w' := by
  subst e1 e2 e3 e4
  refine (step_refTake x r hf hn hfr hs).mono ?_
  rintro e w' ⟨d, z', rfl, h1, _, h⟩
  exact ⟨d, z', rfl, h1, h⟩
theorem span_lims {s : Snd} (hf : Fine s) {num : Int} {fr p q : Nat} (hs : span s num fr = some (p, q)) : s.id ≤ 4611686018427387903 ∧ p ≤ 4611686018427387903 ∧ (Sd.cut s.b p q).length ≤ 1048576 := by
  have sp := span_some hf hs
  have := sp.le
  have := sp.top
  have := hf.len
  exact ⟨hf.id, by omega, by rw [Sd.cut_length sp.le sp.top]; omega⟩
theorem fr_same' {id p b : Nat} {fin : Bool} {dat : List By} {d : SL} (h : d.b = dat) : (frT id p fin dat b).fr = (frS id p fin d).fr := by
  unfold frT frS FrM.fr
  simp only [h]
theorem tk_cells {W : World} {ta : Option Addr} {n c : Nat} {l : List FrM} (h : RowO W 28 8 (.slice ta n c) l.length (frs l)) (hn : l.length = n) {idx : Nat} {G0 : FrM} (hG : l[idx]? = some G0) :
    ∃ tg tw, ta = some ⟨tg, tw, none⟩ ∧ ∀ j u, j < 8 → G0.cells.toList[j]? = some u → W.cell? ⟨tg, tw + idx * 8 + j, none⟩ = some u := by
  subst hn
  obtain ⟨tg, tw, e, _⟩ := h.cells (idx * 8 + 0) _ (by rw [frs_get l idx G0 0 hG (by decide)]; rfl)
  refine ⟨tg, tw, e, fun j u hj hu => ?_⟩
  obtain ⟨g', o', e', h'⟩ := h.cells (idx * 8 + j) u (by rw [frs_get l idx G0 j hG hj]; exact hu)
  rw [e] at e'
  injection e' with e'
  injection e' with e1 e2
  rw [← e1, ← e2, ← Nat.add_assoc] at h'
  exact h'
end Sr
end Go.Proofs.YtehadfidenejdaaGreatDoor

/-! From what a row says of an array that came in to the words and bytes of the walks. -/
namespace Go.Proofs.YtehadfidenejdaaGreatDoor
open Go Go.ChangeShapes Go.WideShapes Go.ChangeAt Go.RowKit

theorem own : ownKnob Tryz.prog.godebug = none := by kernel_rfl
theorem laidOut : laidOutB Tryz.prog = true := by kernel_rfl

section
variable {H : Type} {enc : TypeId × Value → H} {P : Program} {w : World} {base : Nat} {spare : Nat → Bool} {held : Bool}

end
end Go.Proofs.YtehadfidenejdaaGreatDoor
