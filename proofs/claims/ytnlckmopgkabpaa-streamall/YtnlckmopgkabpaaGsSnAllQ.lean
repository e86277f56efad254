/-
  StreamAll: its steps. Written by mksnall.py.
-/
import Derived.Test.YtnlckmopgkabpaaGsSnAllP
import Derived.Deep.CutRange
namespace Go.Proofs.Ytnlckmopgkabpaa
open Go Go.RowKit

namespace Sr
open Sd
theorem al_new (w : World) : Calls Try.prog 6 #[.int .u64 0, .int .u64 4611686018427387903] w fun e w' => e = .returned (.tuple #[.pointer (some ⟨w.heap.size, 0, none⟩), .int .i64 0]) ∧ SnA w w' w.heap.size (new 0 4611686018427387903) (fun k => k = w.heap.size) := by
  refine (new_any 0 4611686018427387903 w (by decide) (by decide)).mono ?_
  rintro e w' ⟨h1, h2, h3⟩
  exact ⟨h1, h2, h3, fun k hk => by rw [hk]; exact Nat.le_refl _⟩
theorem al_pnew {w W : World} {g : Nat} {s : Snd} {own : Nat → Prop} (x : SnA w W g s own) (n : Nat) (hn : n ≤ 1048576) (n' : Int) (hn' : n' = (n : Int)) :
    Calls Try.prog 7 #[.int .i64 n'] W fun e w' => ∃ pg pm, e = .returned (.tuple #[.pointer (some ⟨pg, 0, none⟩), .int .i64 0]) ∧ AlM w g pg pm s (Pc.newS n) own (.slice none 0 0) [] w' := by
  subst hn'
  refine (Go.Proofs.Ytnlckmopgkabpaa.new_any n W hn).mono ?_
  rintro e w' ⟨pg, pm, h1, h2, h3, h4, h5⟩
  have hlt := snS_lt x.sn
  have hz := x.bel.size
  exact ⟨pg, pm, h1, x.below h5, h2, ⟨by omega, by omega⟩, ⟨fun e => by have := hlt _ e; omega, fun e => by have := hlt _ e; omega⟩, RowO.nil _ _ _, fun k e => by (cases e), fun x hx => by (cases hx)⟩
theorem al_write {w W : World} {g pg pm : Nat} {P : PS} {own : Nat → Prop} {hv : Value} {l : List Fx} (x : AlM w g pg pm (new 0 4611686018427387903) P own hv l W) {b : SL} (hb : b.Ok W) (hl : b.len ≤ 3000) :
    Calls Try.prog 8 #[.pointer (some ⟨g, 0, none⟩), .slice b.a b.len b.cap, .bool true] W fun e w' => e = .returned (.int .i64 0) ∧ ∃ own', AlM w g pg pm (write (new 0 4611686018427387903) b.b true) P own' hv l w' := by
  refine (write_any W g _ own x.sn.sn b hb true).mono ?_
  rintro e w' ⟨h1, own', h2, h3⟩
  have e8 : writeE (new 0 4611686018427387903) b.len = 0 := by unfold writeE new; rw [if_neg (by simp), if_neg (by simp; omega)]
  rw [e8] at h1
  exact ⟨h1, own', x.after h2 h3⟩
section
variable {w W : World} {g pg pm : Nat} {s : Snd} {P : PS} {own : Nat → Prop} {hv : Value} {l : List Fx} {b : List By} {L : List Sd.Fr} {x : Fx} {r : Nat}
theorem both_mine (hB : Both b s P L) (hx : Sd.Good s x.1) : x.1.off ≤ 4611686018427387903 ∧ x.1.data.length ≤ 3000 := by
  have h1 := hx.top
  have h2 := hB.fine.fr
  rw [hB.bytes] at h2
  have := hB.len
  omega
theorem al_put (h : AlM w g pg pm s P own hv l W) (hv' : FxV W own pg pm hv r x) (hB : Both b s P L) (hx : Sd.Good s x.1) :
    Calls Try.prog 11 #[.pointer (some ⟨pg, 0, none⟩), .int .u64 (x.1.off : Int), .slice (some ⟨x.2, 0, none⟩) x.1.data.length x.1.data.length, .bool x.1.fin] W fun e w' => e = .returned (.int .i64 0) ∧ AlM w g pg pm s (Pc.putS P x.1.off x.1.data x.1.fin) own hv l w' ∧ FxV w' own pg pm hv r x := by
  have hE := Sd.put_ok hB hx
  have hb := both_mine hB hx
  refine (Go.Proofs.Ytnlckmopgkabpaa.put_any P pg pm x.1.off (fxM x).data x.1.fin W h.pc hv'.hf.hf.ok.data (by show x.1.data.length ≤ _; omega)).mono ?_
  rintro e w' ⟨h1, h2, h3⟩
  have h4 : Pc.put P x.1.off (fxM x).data.b x.1.fin = Pc.putS P x.1.off x.1.data x.1.fin := if_pos hE
  rw [h4] at h2
  refine ⟨?_, h.put h2 h3, hv'.put h3⟩
  rw [h1]
  have h5 : Pc.putE P x.1.off (fxM x).data.len x.1.fin = 0 := hE
  rw [h5]
  rfl
theorem al_got (h : AlM w g pg pm s P own hv l W) (hv' : FxI W own pg pm hv x) (hx : Sd.Good s x.1) (hid : s.id = 0) (hdl : x.1.data.length ≤ 3000) :
    Calls Try.prog 12 #[.pointer (some ⟨g, 0, none⟩), .agg (fxM x).cells] W fun e w' => e = .returned (.int .i64 0) ∧ ∃ own', AlM w g pg pm (got s x.1.off x.1.data.length x.1.fin) P own' hv l w' := by
  refine (got_to h.sn.sn hv'.hf.ok (by show x.1.data.length < _; omega) (by unfold fxM; rw [its_frT hid]; exact decide_eq_true hx.mine)).mono ?_
  rintro e w' ⟨h1, own', h2, h3⟩
  exact ⟨h1, own', h.after h2 h3⟩
theorem al_lost (h : AlM w g pg pm s P own hv l W) (hv' : FxI W own pg pm hv x) (hx : Sd.Good s x.1) (hid : s.id = 0) (hdl : x.1.data.length ≤ 3000) :
    Calls Try.prog 13 #[.pointer (some ⟨g, 0, none⟩), .agg (fxM x).cells] W fun e w' => e = .returned (.int .i64 0) ∧ ∃ own', AlM w g pg pm (lost s x.1.off x.1.data.length x.1.fin) P own' hv l w' := by
  refine (lost_to h.sn.sn hv'.hf.ok (by show x.1.data.length < _; omega) (by unfold fxM; rw [its_frT hid]; exact decide_eq_true hx.mine)).mono ?_
  rintro e w' ⟨h1, own', h2, h3⟩
  exact ⟨h1, own', h.after h2 h3⟩
theorem al_take (h : AlM w g pg pm s P own hv l W) (hB : Both b s P []) (hS : Sure b s) (n : Nat) (hn : b.length = n) :
    Calls Try.prog 14 #[.pointer (some ⟨pg, 0, none⟩), .int .i64 (n : Int)] W fun e w' => ∃ o : SL, e = .returned (.tuple #[.slice o.a o.len o.cap, .bool true, .int .i64 0]) ∧ o.Ok w' ∧ o.b = b ∧ o.len = n ∧ SnA w w' g s own := by
  subst hn
  obtain ⟨_, h2, h3, h4⟩ := hB.end hS
  have hlen := hB.len
  refine (take_sl P pg pm b.length W h.pc (by omega)).mono ?_
  rintro e w' ⟨o, h5, ⟨⟨h6, h7⟩, h8, _⟩, h9, h10⟩
  rw [h4] at h6 h7
  have he : Pc.ended (Pc.takeS P b.length) = true := by
    unfold Pc.ended Pc.takeS Pc.mid
    rw [h4]
    show (P.known && (P.read + b.length == P.come)) = true
    rw [h2, hB.read, h3]
    simp
  rw [he] at h5
  exact ⟨o, h5, h8, h7, h6, (h.put h9 h10).sn⟩
theorem al_done (x : SnA w W g s own) (hd : done s = true) : Calls Try.prog 15 #[.pointer (some ⟨g, 0, none⟩)] W fun e w' => e = .returned (.bool true) ∧ Below W.heap.size W w' := by
  obtain ⟨_, _, _, _, _, h1, _⟩ := x.sn
  have := done_any h1
  rw [hd] at this
  exact this
theorem al_fresh (x : SnA w W g s own) (n : Nat) (hn : s.fresh = n) : Calls Try.prog 16 #[.pointer (some ⟨g, 0, none⟩)] W fun e w' => e = .returned (.int .u64 (n : Int)) ∧ Below W.heap.size W w' := by
  subst hn
  obtain ⟨_, _, _, _, _, h1, _⟩ := x.sn
  exact fresh_any h1
/-- The cells of a frame that is held back. -/
theorem held_cells {hg ho n c j : Nat} (h : RowO W 37 8 (.slice (some ⟨hg, ho, none⟩) n c) n (fcs l)) (hx : l[j]? = some x) :
    W.cell? ⟨hg, ho + j * 8, none⟩ = some (.int .u8 7) ∧ W.cell? ⟨hg, ho + j * 8 + 1, none⟩ = some (.int .u64 0) ∧ W.cell? ⟨hg, ho + j * 8 + 2, none⟩ = some (.int .u64 (x.1.off : Int)) ∧ W.cell? ⟨hg, ho + j * 8 + 3, none⟩ = some (.int .u64 0) ∧ W.cell? ⟨hg, ho + j * 8 + 4, none⟩ = some (.int .u64 0) ∧ W.cell? ⟨hg, ho + j * 8 + 5, none⟩ = some (.bool x.1.fin) ∧ W.cell? ⟨hg, ho + j * 8 + 6, none⟩ = some (.slice (some ⟨x.2, 0, none⟩) x.1.data.length x.1.data.length) ∧ W.cell? ⟨hg, ho + j * 8 + 7, none⟩ = some (.slice none 0 0) := by
  have key : ∀ i u, i < 8 → (fxM x).cells.toList[i]? = some u → W.cell? ⟨hg, ho + j * 8 + i, none⟩ = some u := fun i u hi hu => by
    obtain ⟨g', o', q1, q2⟩ := h.cells (j * 8 + i) u ((fcs_get l j x i hx hi).trans hu)
    injection q1 with q1
    injection q1 with q1 q3
    subst q1 q3
    rw [Nat.add_assoc]
    exact q2
  exact ⟨key 0 _ (by decide) rfl, key 1 _ (by decide) rfl, key 2 _ (by decide) rfl, key 3 _ (by decide) rfl, key 4 _ (by decide) rfl, key 5 _ (by decide) rfl, key 6 _ (by decide) rfl, key 7 _ (by decide) rfl⟩
end
end Sr
end Go.Proofs.Ytnlckmopgkabpaa
