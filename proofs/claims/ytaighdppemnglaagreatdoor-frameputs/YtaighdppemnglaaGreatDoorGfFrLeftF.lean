/-
  What the statements' helper LeftFrames answers of copies that are kept.
-/
import Derived.Test.YtaighdppemnglaaGreatDoorGf16
import Derived.Test.YtaighdppemnglaaGreatDoorGfFrLeft
import Derived.Deep.RegionHeld3
namespace Go.Proofs.YtaighdppemnglaaGreatDoor
open Go Go.RowKit

/-- Copies of frames that are kept, in a row of their own with a mark behind. -/
structure TwF (B : Nat) (w : World) (T n : Nat) (l : List FrM) (G : List (Nat × Nat)) : Prop where
  len : G.length = n
  own : w.ownsRow B 37 8 (.slice (some ⟨T, 0, none⟩) (n + 1) (n + 1)) (n + 1) (Bf.vo ((twl l G ++ [markF]).map cO))
  all : TwAll (T + 1) w l G
section
variable {B T n : Nat} {w w' : World} {l : List FrM} {G : List (Nat × Nat)}
theorem TwF.below (h : TwF B w T n l G) (hb : Below w.heap.size w w') : TwF B w' T n l G := ⟨h.len, own_belowK h.own hb, h.all.below hb⟩
theorem TwF.lt (h : TwF B w T n l G) : T < w.heap.size := (h.own.lt T rfl).2
theorem TwF.ge (h : TwF B w T n l G) : B ≤ T := (h.own.lt T rfl).1
theorem TwF.row (h : TwF B w T n l G) (k : Nat) (hk : k < n) : w.rangeAt T (k * 8) ((gf l k).twin (G[k]?.getD (0, 0)).1 (G[k]?.getD (0, 0)).2).cells.toList := by
  have hl : ((twl l G ++ [markF]).map cO).length = n + 1 := by rw [List.length_map, List.length_append, twl_length, h.len]; rfl
  have := Bf.own_range8 h.own hl k (by omega)
  have e : Bf.gO ((twl l G ++ [markF]).map cO) k = cO (gf (twl l G) k) := by
    unfold Bf.gO gf
    rw [List.getElem?_map, List.getElem?_append_left (by rw [twl_length, h.len]; exact hk), List.getElem?_eq_getElem (by rw [twl_length, h.len]; exact hk)]
    rfl
  rw [e, cO_cells, twl_get l G k (by rw [h.len]; exact hk), Nat.zero_add] at this
  exact this
theorem TwF.mark (h : TwF B w T n l G) : w.rangeAt T (n * 8) markF.cells.toList := by
  have hl : ((twl l G ++ [markF]).map cO).length = n + 1 := by rw [List.length_map, List.length_append, twl_length, h.len]; rfl
  have := Bf.own_range8 h.own hl n (by omega)
  have e : Bf.gO ((twl l G ++ [markF]).map cO) n = cO markF := by
    unfold Bf.gO
    rw [List.getElem?_map, List.getElem?_append_right (by rw [twl_length, h.len]; exact Nat.le_refl _), twl_length, h.len, Nat.sub_self]
    rfl
  rw [e, cO_cells, Nat.zero_add] at this
  exact this
/-- The copies, as a slice of frames. -/
def twS (T n : Nat) (l : List FrM) (G : List (Nat × Nat)) : FS := ⟨some ⟨T, 0, none⟩, n, n + 1, T, 0, twl l G⟩
theorem TwF.ok (h : TwF B w T n l G) (hf : ∀ j, j < n → ∃ w0, (gf l j).Ok w0) : (twS T n l G).Ok w :=
  ⟨by show (twl l G).length = n; rw [twl_length, h.len], Nat.le_succ _, (fun e => by cases e), fun _ => rfl, fun _ => h.lt, fun j hj => by
    have hj' : j < n := hj
    show w.rangeAt T (0 + j * 8) (gf (twl l G) j).cells.toList
    rw [Nat.zero_add, twl_get l G j (by rw [h.len]; exact hj')]
    exact h.row j hj', fun j hj => by
    have hj' : j < n := hj
    obtain ⟨w0, h0⟩ := hf j hj'
    show (gf (twl l G) j).Ok w
    rw [twl_get l G j (by rw [h.len]; exact hj')]
    exact h0.twin (h.all.dat j (by rw [h.len]; exact hj')) (h.all.rng j (by rw [h.len]; exact hj'))⟩
theorem twS_fr (hl : l.length = n) (hG : G.length = n) : (twS T n l G).fr = l.map FrM.fr := by
  unfold FS.fr twS twl
  rw [List.map_map, hG]
  apply List.ext_getElem?
  intro j
  rw [List.getElem?_map, List.getElem?_map]
  rcases Nat.lt_or_ge j n with c | c
  · rw [List.getElem?_range c, List.getElem?_eq_getElem (by omega)]
    simp only [Option.map_some, Function.comp]
    rw [FrM.twin_fr]
    unfold gf
    rw [List.getElem?_eq_getElem (by omega)]
    rfl
  · rw [List.getElem?_eq_none (by simpa using c), List.getElem?_eq_none (by omega)]
    rfl
end
theorem twin_fsF (s : FS) (w : World) (hs : s.Ok w) (hl : s.len ≤ 1048576) (hd : ∀ j, j < s.len → (gf s.l j).data.len ≤ 1048576 ∧ (gf s.l j).ranges.len ≤ 1048576) :
    Calls Tryz.prog 7 #[.slice s.a s.len s.cap] w fun e w' => ∃ G, e = .returned (.slice (some ⟨w.heap.size, 0, none⟩) s.len (s.len + 1)) ∧ TwF w.heap.size w' w.heap.size s.len s.l G ∧ Below w.heap.size w w' := by
  refine (twin_fs s w hs hl hd).mono ?_
  rintro e w' ⟨G, h1, rfl, h3, h4, h5⟩
  exact ⟨G, rfl, ⟨h1, h3, h4⟩, h5⟩

set_option maxRecDepth 20000 in
set_option maxHeartbeats 2000000 in
theorem left_fs (s : FS) (B T : Nat) (G : List (Nat × Nat)) (w : World) (hs : s.Ok w) (hl : s.len ≤ 1048576) (hd : ∀ j, j < s.len → (gf s.l j).data.len ≤ 1048576 ∧ (gf s.l j).ranges.len ≤ 1048576) (ht : TwF B w T s.len s.l G) :
    Calls Tryz.prog 11 #[.slice (some ⟨T, 0, none⟩) s.len (s.len + 1), .slice s.a s.len s.cap] w fun e w' => e = .returned (.bool true) ∧ Below w.heap.size w w' := by
  obtain ⟨a, len, cap, g, off, l⟩ := s
  have HS := veil hs
  have HD := veil hd
  simp only at hl ht
  have HT := veil ht
  clear hs hd ht
  have h1 : ((len : Int) != (len : Int)) = false := by simp
  have h2 : ¬ ((len : Int) + 1 ≤ (len : Int)) := by omega
  go_enter Tryz.func11, Tryz.ntmps11
  go_wp2
  go_loopw [5] (fun i wr => ∃ k : Nat, k ≤ len ∧ i = .int .i64 k ∧ Below w.heap.size w wr)
    (fun i _ => len - (intOf i).toNat)
  case atStart => exact ⟨0, Nat.zero_le _, rfl, Below.refl _ _⟩
  case round =>
    obtain ⟨k, hk, rfl, hbel⟩ := hrel
    by_cases hlt : k < len
    · have e1 : a = some ⟨g, off, none⟩ := HS.out.at_ (show 0 < len by omega)
      subst e1
      have hsb := HS.out.below hbel
      have htb := HT.out.below hbel
      have cS := hsb.cell k hlt
      have cT := htb.row k hlt
      have HF := veil (hsb.each k hlt)
      have HDK := veil (HD.out k hlt)
      have HTD := veil (htb.all.dat k (by rw [htb.len]; exact hlt)).twin
      have HTR := veil (htb.all.rng k (by rw [htb.len]; exact hlt)).twin
      generalize (G[k]?.getD (0, 0)).1 = g1 at *
      generalize (G[k]?.getD (0, 0)).2 = g2 at *
      obtain ⟨K, ek⟩ : ∃ K, K = gf l k := ⟨_, rfl⟩
      simp only at cS HF HDK
      rw [← ek] at cS HF HDK cT HTD HTR
      obtain ⟨kk, st, of, li, co, fi, da, ra⟩ := K
      have a0 := cS 0 _ rfl
      have a1 := cS 1 _ rfl
      have a2 := cS 2 _ rfl
      have a3 := cS 3 _ rfl
      have a4 := cS 4 _ rfl
      have a5 := cS 5 _ rfl
      have a6 := cS 6 _ rfl
      have a7 := cS 7 _ rfl
      have x0 := cT 0 _ rfl
      have x1 := cT 1 _ rfl
      have x2 := cT 2 _ rfl
      have x3 := cT 3 _ rfl
      have x4 := cT 4 _ rfl
      have x5 := cT 5 _ rfl
      have x6 := cT 6 _ rfl
      have x7 := cT 7 _ rfl
      simp only [Nat.add_zero] at a0 a1 a2 a3 a4 a5 a6 a7 x0 x1 x2 x3 x4 x5 x6 x7
      have HB := veil hbel
      have HLG := veil (hsb.lt (show 0 < len by omega))
      have HLT := veil htb.lt
      clear hsb htb cS cT ek hbel
      go_wp2_with fail
      go_region_held3 (fun w' => (w'.cell? ⟨g, off + k * 8, none⟩ = some (.int .u8 (kk : Int)) ∧ w'.cell? ⟨g, off + k * 8 + 1, none⟩ = some (.int .u64 (st : Int)) ∧ w'.cell? ⟨g, off + k * 8 + 2, none⟩ = some (.int .u64 (of : Int)) ∧ w'.cell? ⟨g, off + k * 8 + 3, none⟩ = some (.int .u64 (li : Int)) ∧ w'.cell? ⟨g, off + k * 8 + 4, none⟩ = some (.int .u64 (co : Int)) ∧ w'.cell? ⟨g, off + k * 8 + 5, none⟩ = some (.bool fi) ∧ w'.cell? ⟨g, off + k * 8 + 6, none⟩ = some (.slice da.a da.len da.cap) ∧ w'.cell? ⟨g, off + k * 8 + 7, none⟩ = some (.slice ra.a ra.len ra.cap)) ∧ (w'.cell? ⟨T, k * 8, none⟩ = some (.int .u8 (kk : Int)) ∧ w'.cell? ⟨T, k * 8 + 1, none⟩ = some (.int .u64 (st : Int)) ∧ w'.cell? ⟨T, k * 8 + 2, none⟩ = some (.int .u64 (of : Int)) ∧ w'.cell? ⟨T, k * 8 + 3, none⟩ = some (.int .u64 (li : Int)) ∧ w'.cell? ⟨T, k * 8 + 4, none⟩ = some (.int .u64 (co : Int)) ∧ w'.cell? ⟨T, k * 8 + 5, none⟩ = some (.bool fi) ∧ w'.cell? ⟨T, k * 8 + 6, none⟩ = some (.slice (some ⟨g1, 0, none⟩) da.len (da.len + 1)) ∧ w'.cell? ⟨T, k * 8 + 7, none⟩ = some (.slice (some ⟨g2, 0, none⟩) ra.len (ra.len + 1))))
        (first | exact ⟨⟨a0, a1, a2, a3, a4, a5, a6, a7⟩, ⟨x0, x1, x2, x3, x4, x5, x6, x7⟩⟩ | exact ⟨⟨(hk5 ⟨g, _, none⟩ HLG.out).trans a0, (hk5 ⟨g, _, none⟩ HLG.out).trans a1, (hk5 ⟨g, _, none⟩ HLG.out).trans a2, (hk5 ⟨g, _, none⟩ HLG.out).trans a3, (hk5 ⟨g, _, none⟩ HLG.out).trans a4, (hk5 ⟨g, _, none⟩ HLG.out).trans a5, (hk5 ⟨g, _, none⟩ HLG.out).trans a6, (hk5 ⟨g, _, none⟩ HLG.out).trans a7⟩, ⟨(hk5 ⟨T, _, none⟩ HLT.out).trans x0, (hk5 ⟨T, _, none⟩ HLT.out).trans x1, (hk5 ⟨T, _, none⟩ HLT.out).trans x2, (hk5 ⟨T, _, none⟩ HLT.out).trans x3, (hk5 ⟨T, _, none⟩ HLT.out).trans x4, (hk5 ⟨T, _, none⟩ HLT.out).trans x5, (hk5 ⟨T, _, none⟩ HLT.out).trans x6, (hk5 ⟨T, _, none⟩ HLT.out).trans x7⟩⟩)
        (first | (go_at_call 28; refine (left_fr ⟨kk, st, of, li, co, fi, da, ra⟩ g1 g2 _ (HF.out.below ((Below.refl _ wr).drew)) HDK.out.1 HDK.out.2 (HTD.out.below ((Below.refl _ wr).drew)) (HTR.out.below ((Below.refl _ wr).drew))).mono ?_; rintro e5 w5 ⟨rfl, hb5⟩; have hk5 : ∀ p : Addr, p.block < wr.heap.size → w5.cell? p = wr.cell? p := fun p h => hb5.cell (p := p) h))
      have b5 : Below w.heap.size w wr.drew := HB.out.drew
      have B5 := veil (b5.trans (hb5.mono HB.out.size))
      clear b5 hb5 hk5 a0 a1 a2 a3 a4 a5 a6 a7 x0 x1 x2 x3 x4 x5 x6 x7
      go_wp2_with fail
      go_roundw
      case rel => exact ⟨k + 1, by omega, by go_num, B5.out⟩
      case measure => simp [intOf]; omega
    · obtain rfl : k = len := by omega
      have cM := (HT.out.below hbel).mark
      have x0 := cM 0 _ rfl
      have x1 := cM 1 _ rfl
      have x2 := cM 2 _ rfl
      have x3 := cM 3 _ rfl
      have x4 := cM 4 _ rfl
      have x5 := cM 5 _ rfl
      have x6 := cM 6 _ rfl
      have x7 := cM 7 _ rfl
      simp only [Nat.add_zero] at x0 x1 x2 x3 x4 x5 x6 x7
      have HB := veil hbel
      clear cM hbel
      go_wp2_with fail
      go_ret
      exact ⟨rfl, HB.out.alloc HB.out.size _⟩
end Go.Proofs.YtaighdppemnglaaGreatDoor
