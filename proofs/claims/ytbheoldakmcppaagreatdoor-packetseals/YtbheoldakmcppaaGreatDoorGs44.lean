/-
  Out of PkSealsP, PkSealsW.
-/
import Derived.Test.YtbheoldakmcppaaGreatDoorGs43
import Derived.Test.YtbheoldakmcppaaGreatDoorGs40
import Derived.Test.YtbheoldakmcppaaGreatDoorGs26

/-! PacketSeals: what holds behind the copies. -/
namespace Go.Proofs.YtbheoldakmcppaaGreatDoor
open Go Go.RowKit

theorem packO_len (h : PH) (n : Int) (p key iv mask : List By) : (packO h n p key iv mask).length ≤ 1200 := by
  unfold packO
  split
  · rename_i e
    rw [packL_length]
    unfold packE at e
    split at e
    · split at e
      · rename_i h1; exact h1
      · cases e
    · cases e
  · exact Nat.zero_le _
theorem own_apart13 {W0 W1 : World} {B n m : Nat} {e f : TypeId} {u v : Value} {xs ys : List Value} (h : W0.ownsRow B e 1 u n xs) (k : W1.ownsRow W0.heap.size f 1 v m ys) : u.ownBlock = none ∨ u.ownBlock ≠ v.ownBlock := by
  cases q : u.ownBlock with
  | none => exact .inl rfl
  | some z =>
    right
    intro e2
    have := (h.lt z q).2
    have := (k.lt z e2.symm).1
    omega
theorem tw_apart {g g' n m : Nat} (h : g < g') : (tw13 g n).ownBlock = none ∨ (tw13 g n).ownBlock ≠ (tw13 g' m).ownBlock := .inr (fun e => by
  have : some g = some g' := e
  injection this with this
  omega)
theorem row_keys13 {w : World} {S g : Nat} {t : TypeId} {a b c : Value} (h : Row w g t (keysC a b c)) (hg : S ≤ g) : RowW w S 5 1 (.slice (some ⟨g, 0, none⟩) 3 3) 3 [a, b, c] :=
  ⟨rfl, .inr ⟨g, 3, keysC a b c, rfl, hg, ⟨t, h⟩, Nat.le_refl _, by decide, Nat.le_refl _, rfl⟩⟩
theorem row_keys13_cells {w : World} {S g : Nat} {a b c : Value} (h : RowW w S 5 1 (.slice (some ⟨g, 0, none⟩) 3 3) 3 [a, b, c]) : w.cell? ⟨g, 0, none⟩ = some a ∧ w.cell? ⟨g, 1, none⟩ = some b ∧ w.cell? ⟨g, 2, none⟩ = some c :=
  ⟨h.cellAt 0 (by decide), h.cellAt 1 (by decide), h.cellAt 2 (by decide)⟩

/-- What came in. -/
structure PkO (h : HD) (p : SL) (k : KS) (W : World) : Prop where
  hh : h.Ok W
  hp : p.Ok W
  hk : k.Ok W
  hg : Glob W
theorem PkO.below {h : HD} {p : SL} {k : KS} {W W' : World} (o : PkO h p k W) (hb : Below W.heap.size W W') : PkO h p k W' := ⟨o.hh.below hb, o.hp.below hb, o.hk.below hb, o.hg.below hb (Nat.le_refl _)⟩
/-- A copy of a list, of the call's own. -/
structure TwO (S g : Nat) (q : SL) (W : World) : Prop where
  tw : Twin W g q.b
  own : W.ownsRow S 5 1 (tw13 g q.len) q.len (vb q.b)
theorem TwO.below {S g : Nat} {q : SL} {W W' : World} (t : TwO S g q W) (hb : Below W.heap.size W W') : TwO S g q W' := ⟨t.tw.below hb, own_below t.own hb⟩
theorem below_new (W : World) (o : Obj) : Below W.heap.size W (W.alloc o) := (Below.refl _ W).alloc (Nat.le_refl _) o
def hdT (h : HD) (g1 g2 : Nat) : HD := ⟨h.long, twinS g1 h.tu.len h.tu.b, twinS g2 h.fr.len h.fr.b, h.num, h.phase⟩
def ksT (k : KS) (g4 g5 g6 : Nat) : KS := ⟨twinS g4 k.key.len k.key.b, twinS g5 k.iv.len k.iv.b, twinS g6 k.mask.len k.mask.b⟩
abbrev sealC (h : HD) (n : Int) (p : SL) (k : KS) : Array Value := #[.bool h.long, .slice h.tu.a h.tu.len h.tu.cap, .slice h.fr.a h.fr.len h.fr.cap, .int .u64 (h.num : Int), .bool h.phase, .int .i64 n, .slice p.a p.len p.cap, .slice k.key.a k.key.len k.key.cap, .slice k.iv.a k.iv.len k.iv.cap, .slice k.mask.a k.mask.len k.mask.cap]

/-- The state behind the copies: all that the law goes on with. -/
structure PkT (h : HD) (n : Int) (p : SL) (k : KS) (w : World) (g1 g2 g3 g4 g5 g6 gh gk : Nat) (W : World) : Prop where
  o : PkO h p k W
  t1 : TwO w.heap.size g1 h.tu W
  t2 : TwO w.heap.size g2 h.fr W
  t3 : TwO w.heap.size g3 p W
  t4 : TwO w.heap.size g4 k.key W
  t5 : TwO w.heap.size g5 k.iv W
  t6 : TwO w.heap.size g6 k.mask W
  l12 : g1 < g2
  l23 : g2 < g3
  l34 : g3 < g4
  l45 : g4 < g5
  l56 : g5 < g6
  box : Row W w.heap.size 29 (sealC h n p k)
  rh : Row W gh 25 (headC h.long (tw13 g1 h.tu.len) (tw13 g2 h.fr.len) h.num h.phase)
  rk : Row W gk 27 (keysC (tw13 g4 k.key.len) (tw13 g5 k.iv.len) (tw13 g6 k.mask.len))
  sh : w.heap.size ≤ gh
  sk : w.heap.size ≤ gk
  bel : Below w.heap.size w W
theorem PkT.below {h : HD} {n : Int} {p : SL} {k : KS} {w : World} {g1 g2 g3 g4 g5 g6 gh gk : Nat} {W W' : World} (s : PkT h n p k w g1 g2 g3 g4 g5 g6 gh gk W) (hb : Below W.heap.size W W') : PkT h n p k w g1 g2 g3 g4 g5 g6 gh gk W' :=
  ⟨s.o.below hb, s.t1.below hb, s.t2.below hb, s.t3.below hb, s.t4.below hb, s.t5.below hb, s.t6.below hb, s.l12, s.l23, s.l34, s.l45, s.l56, s.box.below hb s.box.lt, s.rh.below hb s.rh.lt, s.rk.below hb s.rk.lt, s.sh, s.sk, s.bel.trans (hb.mono s.bel.size)⟩
theorem PkT.hdOk {h : HD} {n : Int} {p : SL} {k : KS} {w : World} {g1 g2 g3 g4 g5 g6 gh gk : Nat} {W : World} (s : PkT h n p k w g1 g2 g3 g4 g5 g6 gh gk W) : (hdT h g1 g2).Ok W := ⟨s.t1.tw.ok s.o.hh.tu.hb, s.t2.tw.ok s.o.hh.fr.hb⟩
theorem PkT.ksOk {h : HD} {n : Int} {p : SL} {k : KS} {w : World} {g1 g2 g3 g4 g5 g6 gh gk : Nat} {W : World} (s : PkT h n p k w g1 g2 g3 g4 g5 g6 gh gk W) : (ksT k g4 g5 g6).Ok W := ⟨s.t4.tw.ok s.o.hk.key.hb, s.t5.tw.ok s.o.hk.iv.hb, s.t6.tw.ok s.o.hk.mask.hb⟩
section
variable {h : HD} {n : Int} {p : SL} {k : KS} {w : World} {g1 g2 g3 g4 g5 g6 gh gk : Nat} {W : World} (s : PkT h n p k w g1 g2 g3 g4 g5 g6 gh gk W)
include s
theorem PkT.c0 : W.cell? ⟨w.heap.size, 0, none⟩ = some (.bool h.long) := s.box.cell 0
theorem PkT.c1 : W.cell? ⟨w.heap.size, 1, none⟩ = some (.slice h.tu.a h.tu.len h.tu.cap) := s.box.cell 1
theorem PkT.c2 : W.cell? ⟨w.heap.size, 2, none⟩ = some (.slice h.fr.a h.fr.len h.fr.cap) := s.box.cell 2
theorem PkT.c3 : W.cell? ⟨w.heap.size, 3, none⟩ = some (.int .u64 (h.num : Int)) := s.box.cell 3
theorem PkT.c4 : W.cell? ⟨w.heap.size, 4, none⟩ = some (.bool h.phase) := s.box.cell 4
theorem PkT.c5 : W.cell? ⟨w.heap.size, 5, none⟩ = some (.int .i64 n) := s.box.cell 5
theorem PkT.c6 : W.cell? ⟨w.heap.size, 6, none⟩ = some (.slice p.a p.len p.cap) := s.box.cell 6
theorem PkT.c7 : W.cell? ⟨w.heap.size, 7, none⟩ = some (.slice k.key.a k.key.len k.key.cap) := s.box.cell 7
theorem PkT.c8 : W.cell? ⟨w.heap.size, 8, none⟩ = some (.slice k.iv.a k.iv.len k.iv.cap) := s.box.cell 8
theorem PkT.c9 : W.cell? ⟨w.heap.size, 9, none⟩ = some (.slice k.mask.a k.mask.len k.mask.cap) := s.box.cell 9
theorem PkT.h0 : W.cell? ⟨gh, 0, none⟩ = some (.bool h.long) := s.rh.cell 0
theorem PkT.h1 : W.cell? ⟨gh, 1, none⟩ = some (tw13 g1 h.tu.len) := s.rh.cell 1
theorem PkT.h2 : W.cell? ⟨gh, 2, none⟩ = some (tw13 g2 h.fr.len) := s.rh.cell 2
theorem PkT.h3 : W.cell? ⟨gh, 3, none⟩ = some (.int .u64 (h.num : Int)) := s.rh.cell 3
theorem PkT.h4 : W.cell? ⟨gh, 4, none⟩ = some (.bool h.phase) := s.rh.cell 4
theorem PkT.k0 : W.cell? ⟨gk, 0, none⟩ = some (tw13 g4 k.key.len) := s.rk.cell 0
theorem PkT.k1 : W.cell? ⟨gk, 1, none⟩ = some (tw13 g5 k.iv.len) := s.rk.cell 1
theorem PkT.k2 : W.cell? ⟨gk, 2, none⟩ = some (tw13 g6 k.mask.len) := s.rk.cell 2
end
end Go.Proofs.YtbheoldakmcppaaGreatDoor

/-! PacketSeals: the walk. Written by mksl13.py. -/
namespace Go.Proofs.YtbheoldakmcppaaGreatDoor
open Go Go.RowKit

set_option maxRecDepth 20000 in
set_option maxHeartbeats 4000000 in
theorem seals_walk (h : HD) (n : Int) (p : SL) (k : KS) (w : World) (hg : Glob w) (hh : h.Ok w) (hp : p.Ok w) (hk : k.Ok w) (hn1 : -9223372036854775808 ≤ n) (hn2 : n ≤ 9223372036854775807)
    (l1 : h.tu.len ≤ 140737488351232) (l2 : h.fr.len ≤ 140737488351232) (l3 : p.len ≤ 140737488351232) (l4 : k.key.len ≤ 140737488351232) (l5 : k.iv.len ≤ 140737488351232) (l6 : k.mask.len ≤ 140737488351232) :
    Calls Tryz.prog 3 #[.agg (sealC h n p k)] w fun e w' => e = .returned (.bool true) ∧ Below w.heap.size w w' := by
  have b0 := below_new w (.cells (sealC h n p k) 29)
  have r0 : Row (w.alloc (.cells (sealC h n p k) 29)) w.heap.size 29 (sealC h n p k) := Row.new _ _ _
  have GW := veil hg
  have O0 := veil (PkO.below ⟨hh, hp, hk, hg⟩ b0)
  have R0 := veil r0
  have B0 := veil b0
  have L1 := veil l1
  have L2 := veil l2
  have L3 := veil l3
  have L4 := veil l4
  have L5 := veil l5
  have L6 := veil l6
  have N1 := veil hn1
  have N2 := veil hn2
  clear b0 hh hp hk hg l1 l2 l3 l4 l5 l6 hn1 hn2
  have c0 : (w.alloc (.cells (sealC h n p k) 29)).cell? ⟨w.heap.size, 0, none⟩ = some (.bool h.long) := r0.cell 0
  have c1 : (w.alloc (.cells (sealC h n p k) 29)).cell? ⟨w.heap.size, 1, none⟩ = some (.slice h.tu.a h.tu.len h.tu.cap) := r0.cell 1
  have c2 : (w.alloc (.cells (sealC h n p k) 29)).cell? ⟨w.heap.size, 2, none⟩ = some (.slice h.fr.a h.fr.len h.fr.cap) := r0.cell 2
  have c3 : (w.alloc (.cells (sealC h n p k) 29)).cell? ⟨w.heap.size, 3, none⟩ = some (.int .u64 (h.num : Int)) := r0.cell 3
  have c4 : (w.alloc (.cells (sealC h n p k) 29)).cell? ⟨w.heap.size, 4, none⟩ = some (.bool h.phase) := r0.cell 4
  have c5 : (w.alloc (.cells (sealC h n p k) 29)).cell? ⟨w.heap.size, 5, none⟩ = some (.int .i64 n) := r0.cell 5
  have c6 : (w.alloc (.cells (sealC h n p k) 29)).cell? ⟨w.heap.size, 6, none⟩ = some (.slice p.a p.len p.cap) := r0.cell 6
  have c7 : (w.alloc (.cells (sealC h n p k) 29)).cell? ⟨w.heap.size, 7, none⟩ = some (.slice k.key.a k.key.len k.key.cap) := r0.cell 7
  have c8 : (w.alloc (.cells (sealC h n p k) 29)).cell? ⟨w.heap.size, 8, none⟩ = some (.slice k.iv.a k.iv.len k.iv.cap) := r0.cell 8
  have c9 : (w.alloc (.cells (sealC h n p k) 29)).cell? ⟨w.heap.size, 9, none⟩ = some (.slice k.mask.a k.mask.len k.mask.cap) := r0.cell 9
  clear r0
  go_enter Tryz.func3, Tryz.ntmps3
  go_wp2_with fail
  show Calls _ _ #[.agg h.cells] (w.alloc (.cells (sealC h n p k) 29)) _
  generalize w.alloc (.cells (sealC h n p k) 29) = v0 at *
  clear c0 c1 c2 c3 c4 c5 c6 c7 c8 c9
  refine (twinHeader_any h v0 O0.out.hh L1.out L2.out).mono ?_
  rintro e1 w1 ⟨g1, g2, rfl, t1, o1, t2, o2, lt12, hb1⟩
  have a1 := below_new w1 (.cells (headC h.long (tw13 g1 h.tu.len) (tw13 g2 h.fr.len) h.num h.phase) 25)
  have x1 := hb1.trans (a1.mono hb1.size)
  have O1 := veil (O0.out.below x1)
  have R1 := veil (R0.out.below x1 R0.out.lt)
  have B1 := veil (B0.out.trans (x1.mono B0.out.size))
  have T1 := veil (TwO.below (S := w.heap.size) ⟨t1, own_low o1 B0.out.size⟩ a1)
  have T2 := veil (TwO.below (S := w.heap.size) ⟨t2, own_low o2 B0.out.size⟩ a1)
  have LT12 := veil lt12
  have H1 := veil (Row.new w1 25 (headC h.long (tw13 g1 h.tu.len) (tw13 g2 h.fr.len) h.num h.phase))
  have SH := veil (Nat.le_trans B0.out.size hb1.size)
  clear hb1 a1 x1 t1 o1 t2 o2 lt12 O0 R0 B0
  have c0 : (w1.alloc (.cells (headC h.long (tw13 g1 h.tu.len) (tw13 g2 h.fr.len) h.num h.phase) 25)).cell? ⟨w.heap.size, 0, none⟩ = some (.bool h.long) := R1.out.cell 0
  have c1 : (w1.alloc (.cells (headC h.long (tw13 g1 h.tu.len) (tw13 g2 h.fr.len) h.num h.phase) 25)).cell? ⟨w.heap.size, 1, none⟩ = some (.slice h.tu.a h.tu.len h.tu.cap) := R1.out.cell 1
  have c2 : (w1.alloc (.cells (headC h.long (tw13 g1 h.tu.len) (tw13 g2 h.fr.len) h.num h.phase) 25)).cell? ⟨w.heap.size, 2, none⟩ = some (.slice h.fr.a h.fr.len h.fr.cap) := R1.out.cell 2
  have c3 : (w1.alloc (.cells (headC h.long (tw13 g1 h.tu.len) (tw13 g2 h.fr.len) h.num h.phase) 25)).cell? ⟨w.heap.size, 3, none⟩ = some (.int .u64 (h.num : Int)) := R1.out.cell 3
  have c4 : (w1.alloc (.cells (headC h.long (tw13 g1 h.tu.len) (tw13 g2 h.fr.len) h.num h.phase) 25)).cell? ⟨w.heap.size, 4, none⟩ = some (.bool h.phase) := R1.out.cell 4
  have c5 : (w1.alloc (.cells (headC h.long (tw13 g1 h.tu.len) (tw13 g2 h.fr.len) h.num h.phase) 25)).cell? ⟨w.heap.size, 5, none⟩ = some (.int .i64 n) := R1.out.cell 5
  have c6 : (w1.alloc (.cells (headC h.long (tw13 g1 h.tu.len) (tw13 g2 h.fr.len) h.num h.phase) 25)).cell? ⟨w.heap.size, 6, none⟩ = some (.slice p.a p.len p.cap) := R1.out.cell 6
  have c7 : (w1.alloc (.cells (headC h.long (tw13 g1 h.tu.len) (tw13 g2 h.fr.len) h.num h.phase) 25)).cell? ⟨w.heap.size, 7, none⟩ = some (.slice k.key.a k.key.len k.key.cap) := R1.out.cell 7
  have c8 : (w1.alloc (.cells (headC h.long (tw13 g1 h.tu.len) (tw13 g2 h.fr.len) h.num h.phase) 25)).cell? ⟨w.heap.size, 8, none⟩ = some (.slice k.iv.a k.iv.len k.iv.cap) := R1.out.cell 8
  have c9 : (w1.alloc (.cells (headC h.long (tw13 g1 h.tu.len) (tw13 g2 h.fr.len) h.num h.phase) 25)).cell? ⟨w.heap.size, 9, none⟩ = some (.slice k.mask.a k.mask.len k.mask.cap) := R1.out.cell 9
  go_wp2_with fail
  show Calls _ _ _ (w1.alloc (.cells (headC h.long (tw13 g1 h.tu.len) (tw13 g2 h.fr.len) h.num h.phase) 25)) _
  generalize (w1.alloc (.cells (headC h.long (tw13 g1 h.tu.len) (tw13 g2 h.fr.len) h.num h.phase) 25)) = v1 at *
  generalize w1.heap.size = gh at *
  clear c0 c1 c2 c3 c4 c5 c6 c7 c8 c9
  refine (twin_own p v1 O1.out.hp L3.out).mono ?_
  rintro e2 w2 ⟨g3, rfl, t3, o3, hb2⟩
  have lt23 : g2 < g3 := Nat.lt_of_lt_of_le T2.out.tw.lt (o3.lt g3 rfl).1
  have O2 := veil (O1.out.below hb2)
  have R2 := veil (R1.out.below hb2 R1.out.lt)
  have B2 := veil (B1.out.trans (hb2.mono B1.out.size))
  have T12 := veil (T1.out.below hb2)
  have T22 := veil (T2.out.below hb2)
  have T32 := veil (show TwO w.heap.size g3 p w2 from ⟨t3, own_low o3 B1.out.size⟩)
  have LT23 := veil lt23
  have H2 := veil (H1.out.below hb2 H1.out.lt)
  clear hb2 t3 o3 lt23 O1 R1 B1 T1 T2 H1
  have c0 : w2.cell? ⟨w.heap.size, 0, none⟩ = some (.bool h.long) := R2.out.cell 0
  have c1 : w2.cell? ⟨w.heap.size, 1, none⟩ = some (.slice h.tu.a h.tu.len h.tu.cap) := R2.out.cell 1
  have c2 : w2.cell? ⟨w.heap.size, 2, none⟩ = some (.slice h.fr.a h.fr.len h.fr.cap) := R2.out.cell 2
  have c3 : w2.cell? ⟨w.heap.size, 3, none⟩ = some (.int .u64 (h.num : Int)) := R2.out.cell 3
  have c4 : w2.cell? ⟨w.heap.size, 4, none⟩ = some (.bool h.phase) := R2.out.cell 4
  have c5 : w2.cell? ⟨w.heap.size, 5, none⟩ = some (.int .i64 n) := R2.out.cell 5
  have c6 : w2.cell? ⟨w.heap.size, 6, none⟩ = some (.slice p.a p.len p.cap) := R2.out.cell 6
  have c7 : w2.cell? ⟨w.heap.size, 7, none⟩ = some (.slice k.key.a k.key.len k.key.cap) := R2.out.cell 7
  have c8 : w2.cell? ⟨w.heap.size, 8, none⟩ = some (.slice k.iv.a k.iv.len k.iv.cap) := R2.out.cell 8
  have c9 : w2.cell? ⟨w.heap.size, 9, none⟩ = some (.slice k.mask.a k.mask.len k.mask.cap) := R2.out.cell 9
  go_wp2_with fail
  show Calls _ _ #[.agg k.cells] w2 _
  clear c0 c1 c2 c3 c4 c5 c6 c7 c8 c9
  refine (twinKeys_any k w2 O2.out.hk L4.out L5.out L6.out).mono ?_
  rintro e3 w3 ⟨g4, g5, g6, rfl, t4, o4, t5, o5, t6, o6, lt45, lt56, hb3⟩
  have lt34 : g3 < g4 := Nat.lt_of_lt_of_le T32.out.tw.lt (o4.lt g4 rfl).1
  have a3 := below_new w3 (.cells (keysC (tw13 g4 k.key.len) (tw13 g5 k.iv.len) (tw13 g6 k.mask.len)) 27)
  have x3 := hb3.trans (a3.mono hb3.size)
  have S3 := veil (show PkT h n p k w g1 g2 g3 g4 g5 g6 gh w3.heap.size (w3.alloc (.cells (keysC (tw13 g4 k.key.len) (tw13 g5 k.iv.len) (tw13 g6 k.mask.len)) 27)) from
    ⟨O2.out.below x3, T12.out.below x3, T22.out.below x3, T32.out.below x3, TwO.below (S := w.heap.size) ⟨t4, own_low o4 B2.out.size⟩ a3, TwO.below (S := w.heap.size) ⟨t5, own_low o5 B2.out.size⟩ a3, TwO.below (S := w.heap.size) ⟨t6, own_low o6 B2.out.size⟩ a3,
      LT12.out, LT23.out, lt34, lt45, lt56, R2.out.below x3 R2.out.lt, H2.out.below x3 H2.out.lt, Row.new _ _ _, SH.out, Nat.le_trans B2.out.size hb3.size, B2.out.trans (x3.mono B2.out.size)⟩)
  clear hb3 a3 x3 t4 o4 t5 o5 t6 o6 lt34 lt45 lt56 O2 R2 B2 T12 T22 T32 LT12 LT23 H2 SH
  have h0 := S3.out.h0
  have h1 := S3.out.h1
  have h2 := S3.out.h2
  have h3 := S3.out.h3
  have h4 := S3.out.h4
  have k0 := S3.out.k0
  have k1 := S3.out.k1
  have k2 := S3.out.k2
  have c5 := S3.out.c5
  go_wp2_with fail
  show Calls _ _ #[.agg (hdT h g1 g2).cells, .int .i64 n, .slice (twinS g3 p.len p.b).a (twinS g3 p.len p.b).len (twinS g3 p.len p.b).cap, .agg (ksT k g4 g5 g6).cells] (w3.alloc (.cells (keysC (tw13 g4 k.key.len) (tw13 g5 k.iv.len) (tw13 g6 k.mask.len)) 27)) _
  generalize (w3.alloc (.cells (keysC (tw13 g4 k.key.len) (tw13 g5 k.iv.len) (tw13 g6 k.mask.len)) 27)) = v3 at *
  generalize w3.heap.size = gk at *
  clear h0 h1 h2 h3 h4 k0 k1 k2 c5
  refine (packSeal_any (hdT h g1 g2) n (twinS g3 p.len p.b) (ksT k g4 g5 g6) v3 S3.out.o.hg S3.out.hdOk (S3.out.t3.tw.ok S3.out.o.hp.hb) S3.out.ksOk L3.out N1.out N2.out).mono ?_
  rintro e4 w4 ⟨va, rfl, hoa, hb4⟩
  obtain ⟨xs, hxs⟩ : ∃ xs, packO h.ph n p.b k.key.b k.iv.b k.mask.b = xs := ⟨_, rfl⟩
  obtain ⟨E, hE⟩ : ∃ E, packE h.ph n p.b k.key.b k.iv.b k.mask.b = E := ⟨_, rfl⟩
  have hxl : xs.length ≤ 1200 := by rw [← hxs]; exact packO_len _ _ _ _ _ _
  replace hoa : w4.ownsRow v3.heap.size 5 1 va xs.length (vb xs) := by rw [← hxs]; exact hoa
  have XS := veil hxs
  have XE := veil hE
  have XL := veil hxl
  have S4 := veil (S3.out.below hb4)
  have OA4 := veil (own_low hoa S3.out.bel.size)
  have P1 := veil (own_apart13 S3.out.t1.own hoa)
  have P2 := veil (own_apart13 S3.out.t2.own hoa)
  have P3 := veil (own_apart13 S3.out.t3.own hoa)
  have P4 := veil (own_apart13 S3.out.t4.own hoa)
  have P5 := veil (own_apart13 S3.out.t5.own hoa)
  have P6 := veil (own_apart13 S3.out.t6.own hoa)
  clear hoa hb4 S3 hxs hE hxl
  rw [show packE (hdT h g1 g2).ph n (twinS g3 p.len p.b).b (ksT k g4 g5 g6).key.b (ksT k g4 g5 g6).iv.b (ksT k g4 g5 g6).mask.b = E from XE.out]
  have h0 := S4.out.h0
  have h1 := S4.out.h1
  have h2 := S4.out.h2
  have h3 := S4.out.h3
  have h4 := S4.out.h4
  have k0 := S4.out.k0
  have k1 := S4.out.k1
  have k2 := S4.out.k2
  have c5 := S4.out.c5
  go_wp2_with fail
  show Calls _ _ #[.agg (hdT h g1 g2).cells, .int .i64 n, .slice (twinS g3 p.len p.b).a (twinS g3 p.len p.b).len (twinS g3 p.len p.b).cap, .agg (ksT k g4 g5 g6).cells] w4 _
  clear h0 h1 h2 h3 h4 k0 k1 k2 c5
  refine (packSeal_any (hdT h g1 g2) n (twinS g3 p.len p.b) (ksT k g4 g5 g6) w4 S4.out.o.hg S4.out.hdOk (S4.out.t3.tw.ok S4.out.o.hp.hb) S4.out.ksOk L3.out N1.out N2.out).mono ?_
  rintro e5 w5 ⟨vb5, rfl, hob, hb5⟩
  replace hob : w5.ownsRow w4.heap.size 5 1 vb5 xs.length (vb xs) := by rw [← XS.out]; exact hob
  have S5 := veil (S4.out.below hb5)
  have OA5 := veil (own_below OA4.out hb5)
  have OB5 := veil (own_low hob S4.out.bel.size)
  have Q1 := veil (own_apart13 S4.out.t1.own hob)
  have Q2 := veil (own_apart13 S4.out.t2.own hob)
  have Q3 := veil (own_apart13 S4.out.t3.own hob)
  have Q4 := veil (own_apart13 S4.out.t4.own hob)
  have Q5 := veil (own_apart13 S4.out.t5.own hob)
  have Q6 := veil (own_apart13 S4.out.t6.own hob)
  have QA := veil (own_apart13 OA4.out hob)
  clear hob hb5 S4 OA4
  rw [show packE (hdT h g1 g2).ph n (twinS g3 p.len p.b).b (ksT k g4 g5 g6).key.b (ksT k g4 g5 g6).iv.b (ksT k g4 g5 g6).mask.b = E from XE.out]
  have c0 := S5.out.c0
  have c1 := S5.out.c1
  have c2 := S5.out.c2
  have c3 := S5.out.c3
  have c4 := S5.out.c4
  have c5 := S5.out.c5
  have c6 := S5.out.c6
  have c7 := S5.out.c7
  have c8 := S5.out.c8
  have c9 := S5.out.c9
  go_wp2_with fail
  show Calls _ _ #[.agg h.cells, .int .i64 n, .slice p.a p.len p.cap, .agg k.cells] w5 _
  clear c0 c1 c2 c3 c4 c5 c6 c7 c8 c9
  refine (refPack_any h n p k w5 S5.out.o.hg S5.out.o.hh S5.out.o.hp S5.out.o.hk L3.out N1.out N2.out).mono ?_
  rintro e6 w6 ⟨vc, rfl, hoc, hb6⟩
  rw [XS.out] at hoc
  rw [XE.out]
  have S6 := veil (S5.out.below hb6)
  have OA6 := veil (own_below OA5.out hb6)
  have OB6 := veil (own_below OB5.out hb6)
  obtain ⟨sa, ea, _, ba, ka, _⟩ := SL.of_own OA6.out
  obtain ⟨sc, ec, _, bc, kc, _⟩ := SL.of_own hoc
  have la : sa.len ≤ 8388608 := by have := XL.out; rw [← ka.hb, ba]; omega
  subst ea ec
  have CS := veil (same_yesK sa sc w6 ka kc la (ba.trans bc.symm))
  clear hoc hb6 S5 OA5 OB5 ba bc ka kc la XE
  have hEE : (E != E) = false := by simp
  go_wp2_with fail
  show Calls _ _ #[.slice sa.a sa.len sa.cap, .slice sc.a sc.len sc.cap] w6 _
  refine CS.out.mono ?_
  rintro e7 w7 ⟨rfl, hb7⟩
  have S7 := veil (S6.out.below hb7)
  have OA7 := veil (own_below OA6.out hb7)
  have OB7 := veil (own_below OB6.out hb7)
  clear hb7 S6 OA6 OB6 CS
  have h0 := S7.out.h0
  have h1 := S7.out.h1
  have h2 := S7.out.h2
  have h3 := S7.out.h3
  have h4 := S7.out.h4
  have c0 := S7.out.c0
  have c1 := S7.out.c1
  have c2 := S7.out.c2
  have c3 := S7.out.c3
  have c4 := S7.out.c4
  go_wp2_with fail
  show Calls _ _ #[.agg (headC h.long (tw13 g1 h.tu.len) (tw13 g2 h.fr.len) h.num h.phase), .agg h.cells] w7 _
  clear h0 h1 h2 h3 h4 c0 c1 c2 c3 c4
  refine (leftHeader_any h g1 g2 w7 S7.out.o.hh S7.out.t1.tw S7.out.t2.tw L1.out L2.out).mono ?_
  rintro e8 w8 ⟨rfl, hb8⟩
  have S8 := veil (S7.out.below hb8)
  have OA8 := veil (own_below OA7.out hb8)
  have OB8 := veil (own_below OB7.out hb8)
  clear hb8 S7 OA7 OB7
  have c6 := S8.out.c6
  go_wp2_with fail
  clear c6
  refine (left_sl p g3 w8 S8.out.o.hp L3.out S8.out.t3.tw).mono ?_
  rintro e9 w9 ⟨rfl, hb9⟩
  have S9 := veil (S8.out.below hb9)
  have OA9 := veil (own_below OA8.out hb9)
  have OB9 := veil (own_below OB8.out hb9)
  clear hb9 S8 OA8 OB8
  have k0 := S9.out.k0
  have k1 := S9.out.k1
  have k2 := S9.out.k2
  have c7 := S9.out.c7
  have c8 := S9.out.c8
  have c9 := S9.out.c9
  go_wp2_with fail
  show Calls _ _ #[.agg (keysC (tw13 g4 k.key.len) (tw13 g5 k.iv.len) (tw13 g6 k.mask.len)), .agg k.cells] w9 _
  clear k0 k1 k2 c7 c8 c9
  refine (leftKeys_any k g4 g5 g6 w9 S9.out.o.hk S9.out.t4.tw S9.out.t5.tw S9.out.t6.tw L4.out L5.out L6.out).mono ?_
  rintro e10 w10 ⟨rfl, hb10⟩
  have s10 := S9.out.below hb10
  have x10 := below_new w10 (.cells bookZ 52)
  have B10 := veil (s10.bel)
  have KB0 := veil (KB.new w.heap.size w w10 s10.bel.size s10.bel 52)
  have V1 := veil (RowW.of_own (own_below s10.t1.own x10))
  have V2 := veil (RowW.of_own (own_below s10.t2.own x10))
  have V3 := veil (RowW.of_own (own_below s10.t3.own x10))
  have V4 := veil (RowW.of_own (own_below s10.t4.own x10))
  have V5 := veil (RowW.of_own (own_below s10.t5.own x10))
  have V6 := veil (RowW.of_own (own_below s10.t6.own x10))
  have VA := veil (RowW.of_own (own_below (own_below OA9.out hb10) x10))
  have VB := veil (RowW.of_own (own_below (own_below OB9.out hb10) x10))
  have VK := veil (row_keys13 (S := w.heap.size) (s10.rk.below x10 s10.rk.lt) s10.sk)
  have U1 := veil (fun j (e : (tw13 g1 h.tu.len).ownBlock = some j) => (RowW.of_own s10.t1.own |>.lt j e).2)
  have U2 := veil (fun j (e : (tw13 g2 h.fr.len).ownBlock = some j) => (RowW.of_own s10.t2.own |>.lt j e).2)
  have U3 := veil (fun j (e : (tw13 g3 p.len).ownBlock = some j) => (RowW.of_own s10.t3.own |>.lt j e).2)
  have U4 := veil (fun j (e : (tw13 g4 k.key.len).ownBlock = some j) => (RowW.of_own s10.t4.own |>.lt j e).2)
  have U5 := veil (fun j (e : (tw13 g5 k.iv.len).ownBlock = some j) => (RowW.of_own s10.t5.own |>.lt j e).2)
  have U6 := veil (fun j (e : (tw13 g6 k.mask.len).ownBlock = some j) => (RowW.of_own s10.t6.own |>.lt j e).2)
  have UA := veil (fun j (e : sa.v.ownBlock = some j) => (RowW.of_own (own_below OA9.out hb10) |>.lt j e).2)
  have UB := veil (fun j (e : vb5.ownBlock = some j) => (RowW.of_own (own_below OB9.out hb10) |>.lt j e).2)
  have UK := veil (fun j (e : (Value.slice (some ⟨gk, 0, none⟩) 3 3).ownBlock = some j) => (show j < w10.heap.size from by have e2 : some gk = some j := e; injection e2 with e2; rw [← e2]; exact s10.rk.lt))
  have l12 := veil s10.l12
  have l23 := veil s10.l23
  have l34 := veil s10.l34
  have l45 := veil s10.l45
  have l56 := veil s10.l56
  have GG := veil s10.o.hg
  have rH := s10.rh.below x10 s10.rh.lt
  have h0 : (w10.alloc (.cells bookZ 52)).cell? ⟨gh, 0, none⟩ = some (.bool h.long) := rH.cell 0
  have h1 : (w10.alloc (.cells bookZ 52)).cell? ⟨gh, 1, none⟩ = some (tw13 g1 h.tu.len) := rH.cell 1
  have h2 : (w10.alloc (.cells bookZ 52)).cell? ⟨gh, 2, none⟩ = some (tw13 g2 h.fr.len) := rH.cell 2
  have h3 : (w10.alloc (.cells bookZ 52)).cell? ⟨gh, 3, none⟩ = some (.int .u64 (h.num : Int)) := rH.cell 3
  have h4 : (w10.alloc (.cells bookZ 52)).cell? ⟨gh, 4, none⟩ = some (.bool h.phase) := rH.cell 4
  clear hb10 S9 OA9 OB9 s10 x10 rH
  unfold bookZ at h0 h1 h2 h3 h4
  go_wp2_with fail
  show Calls _ _ #[.pointer (some ⟨w10.heap.size, 0, none⟩), .agg (headC h.long (tw13 g1 h.tu.len) (tw13 g2 h.fr.len) h.num h.phase)] (w10.alloc (.cells bookZ 52)) _
  clear h0 h1 h2 h3 h4
  generalize w10.alloc (.cells bookZ 52) = v10 at *
  refine (KB0.out.header h.long h.phase h.num (tw13 g1 h.tu.len) (tw13 g2 h.fr.len) h.tu.len h.fr.len _ _ (by simp) V1.out V2.out U1.out U2.out (fun p hp => by simp at hp) (fun p hp => by simp at hp) (tw_apart l12.out)).mono ?_
  rintro e11 w11 ⟨rfl, kb, hh⟩
  have KB1 := veil kb
  have H1 := veil hh
  clear kb hh KB0
  go_wp2_with fail
  refine (KB1.out.tell (tw13 g3 p.len) p.len _ (by simp) (H1.out _ _ _ V3.out U3.out) U3.out (fun q hq => by
    simp only [List.nil_append, List.cons_append, List.mem_cons, List.not_mem_nil, or_false] at hq
    rcases hq with rfl | rfl
    · exact tw_apart (by have := l12.out; have := l23.out; omega)
    · exact tw_apart l23.out)).mono ?_
  rintro e12 w12 ⟨rfl, kb, hh⟩
  have KB2 := veil kb
  have H2 := veil (H1.out.trans hh)
  clear kb hh KB1 H1
  obtain ⟨k0, k1, k2⟩ := row_keys13_cells (H2.out _ _ _ VK.out UK.out)
  go_wp2_with fail
  show Calls _ _ #[.pointer (some ⟨w10.heap.size, 0, none⟩), .agg (keysC (tw13 g4 k.key.len) (tw13 g5 k.iv.len) (tw13 g6 k.mask.len))] w12 _
  clear k0 k1 k2
  refine (KB2.out.keys (tw13 g4 k.key.len) (tw13 g5 k.iv.len) (tw13 g6 k.mask.len) k.key.len k.iv.len k.mask.len _ _ _ (by simp) (H2.out _ _ _ V4.out U4.out) (H2.out _ _ _ V5.out U5.out) (H2.out _ _ _ V6.out U6.out) U4.out U5.out U6.out
    (fun q hq => by
      have a := l12.out; have b := l23.out; have c := l34.out
      simp only [List.nil_append, List.cons_append, List.mem_cons, List.not_mem_nil, or_false] at hq
      rcases hq with rfl | rfl | rfl <;> exact tw_apart (by omega))
    (fun q hq => by
      have a := l12.out; have b := l23.out; have c := l34.out; have d := l45.out
      simp only [List.nil_append, List.cons_append, List.mem_cons, List.not_mem_nil, or_false] at hq
      rcases hq with rfl | rfl | rfl <;> exact tw_apart (by omega))
    (fun q hq => by
      have a := l12.out; have b := l23.out; have c := l34.out; have d := l45.out; have f := l56.out
      simp only [List.nil_append, List.cons_append, List.mem_cons, List.not_mem_nil, or_false] at hq
      rcases hq with rfl | rfl | rfl <;> exact tw_apart (by omega))
    (tw_apart l45.out) (tw_apart (by have := l45.out; have := l56.out; omega)) (tw_apart l56.out)).mono ?_
  rintro e13 w13 ⟨rfl, kb, hh⟩
  have KB3 := veil kb
  have H3 := veil (H2.out.trans hh)
  clear kb hh KB2 H2
  go_wp2_with fail
  refine (KB3.out.tell sa.v xs.length _ (by simp) (H3.out _ _ _ VA.out UA.out) UA.out (fun q hq => by
    simp only [List.nil_append, List.cons_append, List.mem_cons, List.not_mem_nil, or_false] at hq
    rcases hq with rfl | rfl | rfl | rfl | rfl | rfl
    · exact P1.out
    · exact P2.out
    · exact P3.out
    · exact P4.out
    · exact P5.out
    · exact P6.out)).mono ?_
  rintro e14 w14 ⟨rfl, kb, hh⟩
  have KB4 := veil kb
  have H4 := veil (H3.out.trans hh)
  clear kb hh KB3 H3
  go_wp2_with fail
  refine (KB4.out.tell vb5 xs.length _ (by simp) (H4.out _ _ _ VB.out UB.out) UB.out (fun q hq => by
    simp only [List.nil_append, List.cons_append, List.mem_cons, List.not_mem_nil, or_false] at hq
    rcases hq with rfl | rfl | rfl | rfl | rfl | rfl | rfl
    · exact Q1.out
    · exact Q2.out
    · exact Q3.out
    · exact Q4.out
    · exact Q5.out
    · exact Q6.out
    · exact QA.out)).mono ?_
  rintro e15 w15 ⟨rfl, kb, hh⟩
  have KB5 := veil kb
  clear kb hh KB4 H4
  go_wp2_with fail
  refine (KB5.out.apart (by simp) (by simp) (fun q hq => by
    simp only [List.nil_append, List.cons_append, List.mem_cons, List.not_mem_nil, or_false] at hq
    have h1 := L1.out
    have h2 := L2.out
    have h3 := L3.out
    have h4 := L4.out
    have h5 := L5.out
    have h6 := L6.out
    have h7 := XL.out
    rcases hq with rfl | rfl | rfl | rfl | rfl | rfl | rfl | rfl
    · show h.tu.len ≤ _; omega
    · show h.fr.len ≤ _; omega
    · show p.len ≤ _; omega
    · show k.key.len ≤ _; omega
    · show k.iv.len ≤ _; omega
    · show k.mask.len ≤ _; omega
    · show xs.length ≤ _; omega
    · show xs.length ≤ _; omega)).mono ?_
  rintro e16 w16 ⟨rfl, hb16⟩
  have B16 := veil hb16
  clear hb16 KB5
  go_wp2_with fail
  refine (lives13 w16 (GW.out.below B16.out (Nat.le_refl _))).mono ?_
  rintro e17 w17 ⟨rfl, hb17⟩
  have B17 := veil (B16.out.trans (hb17.mono B16.out.size))
  clear hb17
  go_wp2_with fail
  go_ret
  exact ⟨rfl, B17.out⟩
end Go.Proofs.YtbheoldakmcppaaGreatDoor
