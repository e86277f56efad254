/-
  Written by mksngot.py: what came in is put down.
-/
import Derived.Test.YtnlckmopgkabpaaGsSnHear
namespace Go.Proofs.Ytnlckmopgkabpaa
open Go Go.RowKit

namespace Sr
open Sd
def RGt (q : World) (v : Value) (L2 : List Rn) (g c : Nat) : Nat → World → Value → Prop
  | 0, W, _ => W = q
  | 1, W, u => Done q W v u L2
  | _, W, _ => ∃ (u : Value) (W1 : World), Done q W1 v u L2 ∧ W = W1.setCell ⟨g, c, none⟩ u
theorem RGt.zero {q : World} {v : Value} {L2 : List Rn} {g c k : Nat} {W : World} {u : Value} (h : RGt q v L2 g c k W u) (hk : k ≤ 0) : W = q := by
  obtain rfl : k = 0 := by omega
  exact h
theorem RGt.row {q : World} {v : Value} {L2 : List Rn} {g c k : Nat} {W : World} {u : Value} (h : RGt q v L2 g c k W u) {b : Nat} {T : TypeId} {cs : Array Value} (hb : Row q b T cs) (h1 : b ≠ g) (h2 : v.ownBlock ≠ some b) : Row W b T cs := by
  match k, h with
  | 0, h => exact (show W = q from h) ▸ hb
  | 1, h => exact (Done.keep h).row hb h2
  | _ + 2, h =>
    obtain ⟨u, W1, hD, rfl⟩ := h
    exact (Below.heap_setCell _ _ _ b h1).trans (hD.keep.row hb h2)
def depGa : Nat → List Nat
  | 0 => []
  | 1 => []
  | 2 => [1]
  | 3 => [2]
  | 4 => [3]
  | 5 => []
  | 6 => [4, 5]
  | 7 => [0]
  | 8 => [7]
  | 9 => [8, 6]
  | _ => []
def dclGa : Nat → List Nat
  | 2 => [1]
  | 3 => [1, 2]
  | 4 => [1, 2, 3]
  | 6 => [1, 2, 3, 4, 5]
  | 7 => [0]
  | 8 => [0, 7]
  | 9 => [0, 1, 2, 3, 4, 5, 6, 7, 8]
  | _ => []
def valGa (g p t : Nat) (cm : Value) : Nat → Value
  | 0 => .pointer (some ⟨g, 0, none⟩)
  | 1 => .pointer (some ⟨g, 0, none⟩)
  | 2 => .pointer (some ⟨g, 0, none⟩)
  | 3 => .pointer (some ⟨g, 6, none⟩)
  | 4 => cm
  | 5 => .agg #[.int .u64 (p : Int), .int .u64 (t : Int)]
  | 7 => .pointer (some ⟨g, 0, none⟩)
  | 8 => .pointer (some ⟨g, 6, none⟩)
  | _ => undef
def depGb : Nat → List Nat
  | 0 => []
  | 1 => []
  | 2 => [1]
  | 3 => [2]
  | 4 => [3]
  | 5 => []
  | 6 => [4, 5]
  | 7 => [0]
  | 8 => [7]
  | 9 => [8, 6]
  | _ => []
def dclGb : Nat → List Nat
  | 2 => [1]
  | 3 => [1, 2]
  | 4 => [1, 2, 3]
  | 6 => [1, 2, 3, 4, 5]
  | 7 => [0]
  | 8 => [0, 7]
  | 9 => [0, 1, 2, 3, 4, 5, 6, 7, 8]
  | _ => []
def valGb (g p t : Nat) (cm : Value) : Nat → Value
  | 0 => .pointer (some ⟨g, 0, none⟩)
  | 1 => .pointer (some ⟨g, 0, none⟩)
  | 2 => .pointer (some ⟨g, 0, none⟩)
  | 3 => .pointer (some ⟨g, 7, none⟩)
  | 4 => cm
  | 5 => .agg #[.int .u64 (p : Int), .int .u64 (t : Int)]
  | 7 => .pointer (some ⟨g, 0, none⟩)
  | 8 => .pointer (some ⟨g, 7, none⟩)
  | _ => undef
set_option maxHeartbeats 2000000 in
set_option maxRecDepth 20000 in
theorem got1_any {w : World} {g bs p t : Nat} {wr cm ls : Value} {s : Snd} {C L : List Rn} (h : SnOk w g wr cm ls s C L) (hb : Row w bs 24 #[.pointer (some ⟨g, 0, none⟩)]) (hpt : p ≤ t) :
    Calls Try.prog 25 #[rcA (p, t), .pointer (some ⟨bs, 0, none⟩)] w fun e w' => (∃ v, e = .returned v) ∧ ∃ w1 W1 W2 W3 u1 u2, Below w.heap.size w w1 ∧ Done w1 W1 cm u1 (add C (p, t)) ∧ W2.heap = (W1.setCell ⟨g, 6, none⟩ u1).heap ∧ Done W2 W3 ls u2 (cut L (p, t)) ∧ w'.heap = (W3.setCell ⟨g, 7, none⟩ u2).heap ∧ KeepP (OwnS g wr cm ls) w w' := by
  unfold rcA
  simp only
  have ha := (Below.refl _ w).alloc (Nat.le_refl _) (.cells #[.int .u64 (p : Int), .int .u64 (t : Int)] 60)
  have HA := veil ha
  have OK0 := veil (h.below ha)
  have HBS := veil (hb.below ha hb.lt)
  have R20 := veil (Row.new w 60 #[.int .u64 (p : Int), .int .u64 (t : Int)])
  have HOWN := veil h.lt
  have HPT := veil hpt
  clear h hb ha hpt
  go_enter Try.func25, Try.ntmps25
  go_wp2_with fail
  generalize w.alloc (.cells #[.int .u64 (p : Int), .int .u64 (t : Int)] 60) = w0 at *
  have OK := veil (OK0.out.below (below_drewN (Below.refl _ w0) 1) : SnOk w0.drew _ _ _ _ _ _ _)
  have HB := veil (HBS.out.below (below_drewN (Below.refl _ w0) 1) HBS.out.lt : Row w0.drew _ _ _)
  have R2 := veil (R20.out.below (below_drewN (Below.refl _ w0) 1) R20.out.lt : Row w0.drew _ _ _)
  obtain ⟨C2, hC2⟩ : ∃ C2, add C (p, t) = C2 := ⟨_, rfl⟩
  have hcu := add_any w0.drew (r := (p, t)) OK.out.crow (by have := OK.out.rep.topC.2; have := OK.out.rep.fine.len; omega) OK.out.rep.cC
  rw [hC2] at hcu
  unfold rcA at hcu
  simp only at hcu
  have CU := veil hcu
  have C6 := veil (show w0.drew.cell? ⟨g, 6, none⟩ = some cm from OK.out.row.cell 6)
  have R1S := veil (show ∀ (W4 : World) (u : Value), Done w0.drew W4 cm u C2 → W4.cell? ⟨g, 6, none⟩ = some cm ∧ W4.frozen? ⟨g, 6, none⟩ = false from fun W4 u hD => by
    have hr := (came_ok OK.out hD).1
    exact ⟨hr.cell 6, hr.frozen 6⟩)
  have BS := veil (show ∀ (m : Nat) (W : World) (u : Value), RGt w0.drew cm C2 g 6 m W u → W.cell? ⟨bs, 0, none⟩ = some (.pointer (some ⟨g, 0, none⟩)) from fun m W u hR =>
    (hR.row HB.out (Ty.ne (⟨_, HB.out⟩ : Ty w0.drew bs 24) OK.out.tg (by decide)) (fun e => (Ty.ne (⟨_, HB.out⟩ : Ty w0.drew bs 24) (OK.out.tc e) (by decide)) rfl)).cell 0)
  clear hcu OK0 HBS R20
  refine (wpIn_wide (n := 4)).1 ?_
  refine wpIn_region_any (by kernel_rfl) ?_
  refine anyIn_spine (valGa g p t cm) (RGt w0.drew cm C2 g 6) undef [6, 9] [3, 4, 5, 6, 7, 8, 9, 10, 11, 100000] depGa dclGa (by kernel_rfl) (by decide) rfl (by decide) (by decide) ?ord (by decide) ?h0 ?fix ?cal ?don
  case ord =>
    intro k i j h1 h2
    match k, h1, h2 with
    | 0, h1, h2 =>
      obtain rfl := Option.some.inj h1
      obtain rfl := Option.some.inj h2
      decide
    | 1, _, h2 => simp at h2
    | _ + 2, h1, _ => simp at h1
  case fix =>
    intro x W4 m2 ii d u hR hdi hni hdep hlo hhi
    match ii, hdi, hni, hdep, hhi with
    | 0, hdi, _, _, _ =>
      obtain rfl := Option.some.inj hdi
      exact OI_value rfl rfl (about_none (by intro c h; cases h)) (by intro c h; cases h) (.pointer (some ⟨g, 0, none⟩)) W4 (lgRun_cell 24 _ ⟨bs, 0, none⟩ _ _ rfl (by kernel_rfl) Try.underlying24 rfl _ (BS.out _ _ _ hR)) ⟨rfl, rfl⟩
    | 1, hdi, _, _, _ =>
      obtain rfl := Option.some.inj hdi
      exact OI_value rfl rfl (about_none (by intro c h; cases h)) (by intro c h; cases h) (.pointer (some ⟨g, 0, none⟩)) W4 (lgRun_cell 24 _ ⟨bs, 0, none⟩ _ _ rfl (by kernel_rfl) Try.underlying24 rfl _ (BS.out _ _ _ hR)) ⟨rfl, rfl⟩
    | 2, hdi, _, hdep, _ =>
      obtain rfl := Option.some.inj hdi
      rw [updV_self (show x 1 = _ from hdep 1 (by simp [depGa]) (by decide))]
      exact OI_value rfl rfl (about_none (by intro c h; cases h)) (by intro c h; cases h) (.pointer (some ⟨g, 0, none⟩)) W4 (by kernel_rfl) ⟨rfl, rfl⟩
    | 3, hdi, _, hdep, _ =>
      obtain rfl := Option.some.inj hdi
      rw [updV_self (show x 2 = _ from hdep 2 (by simp [depGa]) (by decide))]
      exact OI_value rfl rfl (about_none (by intro c h; cases h)) (by intro c h; cases h) (.pointer (some ⟨g, 6, none⟩)) W4 (by kernel_rfl) ⟨rfl, rfl⟩
    | 4, hdi, _, hdep, hhi =>
      obtain rfl := Option.some.inj hdi
      rw [updV_self (show x 3 = _ from hdep 3 (by simp [depGa]) (by decide))]
      exact OI_value rfl rfl (about_none (by intro c h; cases h)) (by intro c h; cases h) (cm) W4 (lgRun_cell 53 _ ⟨g, 6, none⟩ _ _ rfl (by kernel_rfl) Try.underlying53 rfl _ (by rw [hR.zero (hhi 0 6 rfl (by decide))]; exact C6.out)) ⟨rfl, rfl⟩
    | 5, hdi, _, _, hhi =>
      obtain rfl := Option.some.inj hdi
      exact OI_value rfl rfl (about_none (by intro c h; cases h)) (by intro c h; cases h) (.agg #[.int .u64 (p : Int), .int .u64 (t : Int)]) W4 (lgRun_row 60 _ rfl w.heap.size (by kernel_rfl) 60 #[.int .u64 (p : Int), .int .u64 (t : Int)] 2 _ Try.underlying60 (by kernel_rfl) rfl W4 (by rw [hR.zero (hhi 0 6 rfl (by decide))]; exact R2.out)) ⟨rfl, rfl⟩
    | 6, _, hni, _, _ => (exfalso; exact hni (by decide))
    | 7, hdi, _, hdep, _ =>
      obtain rfl := Option.some.inj hdi
      rw [updV_self (show x 0 = _ from hdep 0 (by simp [depGa]) (by decide))]
      exact OI_value rfl rfl (about_none (by intro c h; cases h)) (by intro c h; cases h) (.pointer (some ⟨g, 0, none⟩)) W4 (by kernel_rfl) ⟨rfl, rfl⟩
    | 8, hdi, _, hdep, _ =>
      obtain rfl := Option.some.inj hdi
      rw [updV_self (show x 7 = _ from hdep 7 (by simp [depGa]) (by decide))]
      exact OI_value rfl rfl (about_none (by intro c h; cases h)) (by intro c h; cases h) (.pointer (some ⟨g, 6, none⟩)) W4 (by kernel_rfl) ⟨rfl, rfl⟩
    | 9, _, hni, _, _ => (exfalso; exact hni (by decide))
    | _ + 10, hdi, _, _, _ => simp at hdi
  case cal =>
    intro x W4 k2 ii d u hR hk hdi hdep hu0 hup
    match k2, hk, hR, hu0, hup with
    | 0, hk, hR, hu0, hup =>
      obtain rfl := Option.some.inj hk
      obtain rfl := Option.some.inj hdi
      obtain rfl := hR
      rw [updV_self (show x 4 = _ from hdep 4 (by simp [depGa]) (by decide)), updV_self (show (updV x 4 _) 5 = _ from hdep 5 (by simp [depGa]) (by decide))]
      refine OI_call rfl rfl (by intro c h; cases h) 26 #[cm, .agg #[.int .u64 (p : Int), .int .u64 (t : Int)]] (fun _ _ => trivial) (by kernel_rfl) (by decide) ?_
      refine (callsIn_wide.2 CU.out).mono ?_
      rintro e w' ⟨u', rfl, hd⟩
      exact ⟨_, rfl, u', rfl, hd⟩
    | 1, hk, hR, hu0, hup =>
      obtain rfl := Option.some.inj hk
      obtain rfl := Option.some.inj hdi
      have h6 : x 6 = u := hup 0 6 rfl rfl
      rw [updV_self (show x 8 = _ from hdep 8 (by simp [depGa]) (by decide)), updV_self (show (updV x 8 _) 6 = u from h6)]
      have z1 := R1S.out W4 u hR
      refine OI_skip rfl rfl (about_none (by intro c h; cases h)) (by intro c h; cases h) _ (lgRun_store 53 _ _ ⟨g, 6, none⟩ u cm (RowO.one (Done.row hR)) rfl (by kernel_rfl) (by kernel_rfl) (by kernel_rfl) _ z1.1 z1.2) ⟨undef, (lgPut_none _ _).trans (put_far _ _ _ (by rw [puts_size]; exact Nat.le_of_ble_eq_true rfl)).symm, u, W4, hR, rfl⟩
    | _ + 2, hk, _, _, _ => simp at hk
  case h0 => exact rfl
  case don =>
    rintro x9 W9 u9 hR9 _ _
    obtain ⟨u1, W1, hD, rfl⟩ : ∃ (u1 : Value) (W1 : World), Done w0.drew W1 cm u1 C2 ∧ W9 = W1.setCell ⟨g, 6, none⟩ u1 := hR9
    simp only [putsV, Act.put, List.setIfInBounds_toArray, List.set_cons_succ, List.set_cons_zero, List.set_nil, Nat.reduceAdd]
    generalize x9 0 = z0, x9 1 = z1, x9 2 = z2, x9 3 = z3, x9 4 = z4, x9 5 = z5, x9 6 = z6, x9 7 = z7, x9 8 = z8, x9 9 = z9
    have HD := veil hD
    clear hD C6 R1S BS CU
    go_wp2_with fail
    have a := came_ok OK.out HD.out
    have z : RGt w0.drew cm C2 g 6 2 (W1.setCell ⟨g, 6, none⟩ u1) u1 := ⟨u1, W1, HD.out, rfl⟩
    obtain ⟨Q2, hQ2⟩ : ∃ Q2, W1.setCell ⟨g, 6, none⟩ u1 = Q2 := ⟨_, rfl⟩
    rw [hQ2]
    have hl2 : RowO Q2.drew 60 2 ls L.length (vr L) := a.2.2.same (fun k e => by rw [← hQ2]; exact Below.heap_setCell _ _ _ k (Ty.ne (Ty.row a.2.2 e) (⟨_, a.1⟩ : Ty W1 g 55) (by decide)))
    have hg2 : Row Q2.drew g 55 ((snC wr cm ls s).setIfInBounds 6 u1) := by rw [← hQ2]; exact a.1.set 6 u1
    have hb2 : Row Q2.drew bs 24 #[.pointer (some ⟨g, 0, none⟩)] := by rw [← hQ2]; exact z.row HB.out (Ty.ne (⟨_, HB.out⟩ : Ty w0.drew bs 24) OK.out.tg (by decide)) (fun e => (Ty.ne (⟨_, HB.out⟩ : Ty w0.drew bs 24) (OK.out.tc e) (by decide)) rfl)
    have hr2 : Row Q2.drew w.heap.size 60 #[.int .u64 (p : Int), .int .u64 (t : Int)] := by
      rw [← hQ2]
      exact z.row R2.out (fun e => absurd (HOWN.out g (.inl rfl)) (by omega)) (fun e => absurd (HOWN.out _ (.inr (.inr (.inl e)))) (Nat.lt_irrefl _))
    have hlg : ∀ k, ls.ownBlock = some k → k ≠ g := fun k e => Ty.ne (Ty.row hl2 e) (⟨_, hg2⟩ : Ty Q2.drew g 55) (by decide)
    have hlb : ls.ownBlock ≠ some bs := fun e => (Ty.ne (Ty.row hl2 e) (⟨_, hb2⟩ : Ty Q2.drew bs 24) (by decide)) rfl
    have hbg : bs ≠ g := Ty.ne (⟨_, HB.out⟩ : Ty w0.drew bs 24) OK.out.tg (by decide)
    obtain ⟨L2, hL2⟩ : ∃ L2, cut L (p, t) = L2 := ⟨_, rfl⟩
    have hcu := cut_any Q2.drew (r := (p, t)) hl2 (by have := OK.out.rep.topL.2; have := OK.out.rep.fine.len; omega) OK.out.rep.cL HPT.out
    rw [hL2] at hcu
    unfold rcA at hcu
    simp only at hcu
    have CU := veil hcu
    have C6 := veil (show Q2.drew.cell? ⟨g, 7, none⟩ = some ls from hg2.cell 7)
    have R1S := veil (show ∀ (W4 : World) (u : Value), Done Q2.drew W4 ls u L2 → W4.cell? ⟨g, 7, none⟩ = some ls ∧ W4.frozen? ⟨g, 7, none⟩ = false from fun W4 u hD => by
      have hr := hD.keep.row hg2 (fun e => hlg g e rfl)
      exact ⟨hr.cell 7, hr.frozen 7⟩)
    have BS := veil (show ∀ (m : Nat) (W : World) (u : Value), RGt Q2.drew ls L2 g 7 m W u → W.cell? ⟨bs, 0, none⟩ = some (.pointer (some ⟨g, 0, none⟩)) from fun m W u hR => (hR.row hb2 hbg hlb).cell 0)
    have R20 := R2
    have R2 := veil hr2
    clear hcu a z hl2 hg2 hb2 hr2 hlg hlb hbg
    refine (wpIn_wide (n := 4)).1 ?_
    refine wpIn_region_any (by kernel_rfl) ?_
    refine anyIn_spine (valGb g p t ls) (RGt Q2.drew ls L2 g 7) undef [6, 9] [12, 13, 14, 15, 16, 17, 18, 19, 20, 100000] depGb dclGb (by kernel_rfl) (by decide) rfl (by decide) (by decide) ?ord (by decide) ?h0 ?fix ?cal ?don
    case ord =>
      intro k i j h1 h2
      match k, h1, h2 with
      | 0, h1, h2 =>
        obtain rfl := Option.some.inj h1
        obtain rfl := Option.some.inj h2
        decide
      | 1, _, h2 => simp at h2
      | _ + 2, h1, _ => simp at h1
    case fix =>
      intro x W4 m2 ii d u hR hdi hni hdep hlo hhi
      match ii, hdi, hni, hdep, hhi with
      | 0, hdi, _, _, _ =>
        obtain rfl := Option.some.inj hdi
        exact OI_value rfl rfl (about_none (by intro c h; cases h)) (by intro c h; cases h) (.pointer (some ⟨g, 0, none⟩)) W4 (lgRun_cell 24 _ ⟨bs, 0, none⟩ _ _ rfl (by kernel_rfl) Try.underlying24 rfl _ (BS.out _ _ _ hR)) ⟨rfl, rfl⟩
      | 1, hdi, _, _, _ =>
        obtain rfl := Option.some.inj hdi
        exact OI_value rfl rfl (about_none (by intro c h; cases h)) (by intro c h; cases h) (.pointer (some ⟨g, 0, none⟩)) W4 (lgRun_cell 24 _ ⟨bs, 0, none⟩ _ _ rfl (by kernel_rfl) Try.underlying24 rfl _ (BS.out _ _ _ hR)) ⟨rfl, rfl⟩
      | 2, hdi, _, hdep, _ =>
        obtain rfl := Option.some.inj hdi
        rw [updV_self (show x 1 = _ from hdep 1 (by simp [depGb]) (by decide))]
        exact OI_value rfl rfl (about_none (by intro c h; cases h)) (by intro c h; cases h) (.pointer (some ⟨g, 0, none⟩)) W4 (by kernel_rfl) ⟨rfl, rfl⟩
      | 3, hdi, _, hdep, _ =>
        obtain rfl := Option.some.inj hdi
        rw [updV_self (show x 2 = _ from hdep 2 (by simp [depGb]) (by decide))]
        exact OI_value rfl rfl (about_none (by intro c h; cases h)) (by intro c h; cases h) (.pointer (some ⟨g, 7, none⟩)) W4 (by kernel_rfl) ⟨rfl, rfl⟩
      | 4, hdi, _, hdep, hhi =>
        obtain rfl := Option.some.inj hdi
        rw [updV_self (show x 3 = _ from hdep 3 (by simp [depGb]) (by decide))]
        exact OI_value rfl rfl (about_none (by intro c h; cases h)) (by intro c h; cases h) (ls) W4 (lgRun_cell 53 _ ⟨g, 7, none⟩ _ _ rfl (by kernel_rfl) Try.underlying53 rfl _ (by rw [hR.zero (hhi 0 6 rfl (by decide))]; exact C6.out)) ⟨rfl, rfl⟩
      | 5, hdi, _, _, hhi =>
        obtain rfl := Option.some.inj hdi
        exact OI_value rfl rfl (about_none (by intro c h; cases h)) (by intro c h; cases h) (.agg #[.int .u64 (p : Int), .int .u64 (t : Int)]) W4 (lgRun_row 60 _ rfl w.heap.size (by kernel_rfl) 60 #[.int .u64 (p : Int), .int .u64 (t : Int)] 2 _ Try.underlying60 (by kernel_rfl) rfl W4 (by rw [hR.zero (hhi 0 6 rfl (by decide))]; exact R2.out)) ⟨rfl, rfl⟩
      | 6, _, hni, _, _ => (exfalso; exact hni (by decide))
      | 7, hdi, _, hdep, _ =>
        obtain rfl := Option.some.inj hdi
        rw [updV_self (show x 0 = _ from hdep 0 (by simp [depGb]) (by decide))]
        exact OI_value rfl rfl (about_none (by intro c h; cases h)) (by intro c h; cases h) (.pointer (some ⟨g, 0, none⟩)) W4 (by kernel_rfl) ⟨rfl, rfl⟩
      | 8, hdi, _, hdep, _ =>
        obtain rfl := Option.some.inj hdi
        rw [updV_self (show x 7 = _ from hdep 7 (by simp [depGb]) (by decide))]
        exact OI_value rfl rfl (about_none (by intro c h; cases h)) (by intro c h; cases h) (.pointer (some ⟨g, 7, none⟩)) W4 (by kernel_rfl) ⟨rfl, rfl⟩
      | 9, _, hni, _, _ => (exfalso; exact hni (by decide))
      | _ + 10, hdi, _, _, _ => simp at hdi
    case cal =>
      intro x W4 k2 ii d u hR hk hdi hdep hu0 hup
      match k2, hk, hR, hu0, hup with
      | 0, hk, hR, hu0, hup =>
        obtain rfl := Option.some.inj hk
        obtain rfl := Option.some.inj hdi
        obtain rfl := hR
        rw [updV_self (show x 4 = _ from hdep 4 (by simp [depGb]) (by decide)), updV_self (show (updV x 4 _) 5 = _ from hdep 5 (by simp [depGb]) (by decide))]
        refine OI_call rfl rfl (by intro c h; cases h) 20 #[ls, .agg #[.int .u64 (p : Int), .int .u64 (t : Int)]] (fun _ _ => trivial) (by kernel_rfl) (by decide) ?_
        refine (callsIn_wide.2 CU.out).mono ?_
        rintro e w' ⟨u', rfl, hd⟩
        exact ⟨_, rfl, u', rfl, hd⟩
      | 1, hk, hR, hu0, hup =>
        obtain rfl := Option.some.inj hk
        obtain rfl := Option.some.inj hdi
        have h6 : x 6 = u := hup 0 6 rfl rfl
        rw [updV_self (show x 8 = _ from hdep 8 (by simp [depGb]) (by decide)), updV_self (show (updV x 8 _) 6 = u from h6)]
        have z1 := R1S.out W4 u hR
        refine OI_skip rfl rfl (about_none (by intro c h; cases h)) (by intro c h; cases h) _ (lgRun_store 53 _ _ ⟨g, 7, none⟩ u ls (RowO.one (Done.row hR)) rfl (by kernel_rfl) (by kernel_rfl) (by kernel_rfl) _ z1.1 z1.2) ⟨undef, (lgPut_none _ _).trans (put_far _ _ _ (by rw [puts_size]; exact Nat.le_of_ble_eq_true rfl)).symm, u, W4, hR, rfl⟩
      | _ + 2, hk, _, _, _ => simp at hk
    case h0 => exact rfl
    case don =>
      rintro y9 W8 u8 hR8 _ _
      obtain ⟨u2, W3, hE, rfl⟩ : ∃ (u2 : Value) (W3 : World), Done Q2.drew W3 ls u2 L2 ∧ W8 = W3.setCell ⟨g, 7, none⟩ u2 := hR8
      simp only [putsV, Act.put, List.setIfInBounds_toArray, List.set_cons_succ, List.set_cons_zero, List.set_nil, Nat.reduceAdd]
      have HE := veil hE
      clear hE C6 R1S BS CU
      go_wp2_with fail
      refine bodyPost_end (results_none rfl _ _ _) rfl ?_
      have kp1 : KeepP (OwnS g wr cm ls) w Q2 := by
        rw [← hQ2]
        exact onto (onto (KeepP.of_below (HA.out.drew : Below w.heap.size w w0.drew)) (HD.out.keep.mono (fun q e => (.inr (.inr (.inl e)) : OwnS g wr cm ls q))) (fun _ _ e => e)) (KeepP.setCell (st := OwnS g wr cm ls) (.inl rfl) W1 6 u1) (fun _ _ e => e)
      exact ⟨⟨_, rfl⟩, w0.drew, W1, Q2.drew, W3, u1, u2, (HA.out.drew : Below w.heap.size w w0.drew), hC2 ▸ HD.out, by rw [← hQ2]; rfl, hL2 ▸ HE.out, rfl,
        onto (onto (onto kp1 (keep_drew (OwnS g wr cm ls) Q2) (fun _ _ e => e)) (HE.out.keep.mono (fun q e => (.inr (.inr (.inr e)) : OwnS g wr cm ls q))) (fun _ _ e => e)) (KeepP.setCell (st := OwnS g wr cm ls) (.inl rfl) W3 7 u2) (fun _ _ e => e)⟩
end Sr
end Go.Proofs.Ytnlckmopgkabpaa
