/-
  Written by mksnlost.py: what did not come in is put down.
-/
import Derived.Test.YtnlckmopgkabpaaGsSnGot
namespace Go.Proofs.Ytnlckmopgkabpaa
open Go Go.RowKit

namespace Sr
open Sd
def RLt (q : World) (v : Value) (M L2 : List Rn) (g : Nat) : Nat → World → Value → Prop
  | 0, W, _ => W = q
  | 1, W, u => Done q W (.slice none 0 0) u M
  | 2, W, u => Done q W v u L2
  | _, W, _ => ∃ (u : Value) (W1 : World), Done q W1 v u L2 ∧ W = W1.setCell ⟨g, 7, none⟩ u
theorem RLt.zero {q : World} {v : Value} {M L2 : List Rn} {g k : Nat} {W : World} {u : Value} (h : RLt q v M L2 g k W u) (hk : k ≤ 0) : W = q := by
  obtain rfl : k = 0 := by omega
  exact h
theorem RLt.row {q : World} {v : Value} {M L2 : List Rn} {g k : Nat} {W : World} {u : Value} (h : RLt q v M L2 g k W u) {b : Nat} {T : TypeId} {cs : Array Value} (hb : Row q b T cs) (h1 : b ≠ g) (h2 : v.ownBlock ≠ some b) : Row W b T cs := by
  match k, h with
  | 0, h => exact (show W = q from h) ▸ hb
  | 1, h => exact (Done.keep h).row hb (fun e => by cases e)
  | 2, h => exact (Done.keep h).row hb h2
  | _ + 3, h =>
    obtain ⟨u, W1, hD, rfl⟩ := h
    exact (Below.heap_setCell _ _ _ b h1).trans (hD.keep.row hb h2)
/-- Ahead of the store the sender's own cells stand. -/
theorem RLt.own {q : World} {v : Value} {M L2 : List Rn} {g k : Nat} {W : World} {u : Value} (h : RLt q v M L2 g k W u) (hk : k ≤ 1) {cs : Array Value} {T : TypeId} (hb : Row q g T cs) : Row W g T cs := by
  match k, h with
  | 0, h => exact (show W = q from h) ▸ hb
  | 1, h => exact (Done.keep h).row hb (fun e => by cases e)
  | _ + 2, _ => omega
theorem missing_len {l : List Rn} (hc : Canon l) {r : Rn} (hr : r.1 ≤ r.2) : (missing l r).length ≤ l.length + 1 := by
  have h := (each_canon chg_cut (by' := mids l r) (fun a ha => Nat.le_of_lt (hc.pos a (mids_mem ha))) (add_laws (l := []) (r := r) trivial hr).1).2
  have := add_len r
  have h3 : (mids l r).length ≤ l.length := by unfold mids; rw [List.length_drop, List.length_take]; omega
  show (each cut (add [] r) (mids l r)).length ≤ _
  omega
def depLo : Nat → List Nat
  | 0 => []
  | 1 => []
  | 2 => [1]
  | 3 => [2]
  | 4 => [3]
  | 5 => []
  | 6 => [5]
  | 7 => [6]
  | 8 => [7]
  | 9 => []
  | 10 => [8, 9]
  | 11 => [4, 10]
  | 12 => [0]
  | 13 => [12]
  | 14 => [13, 11]
  | _ => []
def dclLo : Nat → List Nat
  | 2 => [1]
  | 3 => [1, 2]
  | 4 => [1, 2, 3]
  | 6 => [5]
  | 7 => [5, 6]
  | 8 => [5, 6, 7]
  | 10 => [5, 6, 7, 8, 9]
  | 11 => [1, 2, 3, 4, 5, 6, 7, 8, 9, 10]
  | 12 => [0]
  | 13 => [0, 12]
  | 14 => [0, 1, 2, 3, 4, 5, 6, 7, 8, 9, 10, 11, 12, 13]
  | _ => []
def valLo (g p t : Nat) (cm ls : Value) : Nat → Value
  | 0 => .pointer (some ⟨g, 0, none⟩)
  | 1 => .pointer (some ⟨g, 0, none⟩)
  | 2 => .pointer (some ⟨g, 0, none⟩)
  | 3 => .pointer (some ⟨g, 7, none⟩)
  | 4 => ls
  | 5 => .pointer (some ⟨g, 0, none⟩)
  | 6 => .pointer (some ⟨g, 0, none⟩)
  | 7 => .pointer (some ⟨g, 6, none⟩)
  | 8 => cm
  | 9 => .agg #[.int .u64 (p : Int), .int .u64 (t : Int)]
  | 12 => .pointer (some ⟨g, 0, none⟩)
  | 13 => .pointer (some ⟨g, 7, none⟩)
  | _ => undef
set_option maxHeartbeats 2000000 in
set_option maxRecDepth 20000 in
theorem lost1_any {w : World} {g bs p t : Nat} {wr cm ls : Value} {s : Snd} {C L : List Rn} (h : SnOk w g wr cm ls s C L) (hb : Row w bs 24 #[.pointer (some ⟨g, 0, none⟩)]) (hpt : p ≤ t) :
    Calls Try.prog 27 #[rcA (p, t), .pointer (some ⟨bs, 0, none⟩)] w fun e w' => (∃ v, e = .returned v) ∧ ∃ W3 u2, Done w W3 ls u2 (each add L (missing C (p, t))) ∧ w'.heap = (W3.setCell ⟨g, 7, none⟩ u2).heap ∧ KeepP (OwnS g wr cm ls) w w' := by
  unfold rcA
  simp only
  have ha := (Below.refl _ w).alloc (Nat.le_refl _) (.cells #[.int .u64 (p : Int), .int .u64 (t : Int)] 60)
  have HA := veil ha
  have OK0 := veil (h.below ha)
  have HBS := veil (hb.below ha hb.lt)
  have R20 := veil (Row.new w 60 #[.int .u64 (p : Int), .int .u64 (t : Int)])
  have HOWN := veil h.lt
  have HPT := veil hpt
  clear h hb ha hpt
  go_enter Try.func27, Try.ntmps27
  go_wp2_with fail
  generalize w.alloc (.cells #[.int .u64 (p : Int), .int .u64 (t : Int)] 60) = w0 at *
  have OK := veil (OK0.out.below (below_drewN (Below.refl _ w0) 1) : SnOk w0.drew _ _ _ _ _ _ _)
  have HB := veil (HBS.out.below (below_drewN (Below.refl _ w0) 1) HBS.out.lt : Row w0.drew _ _ _)
  have R2 := veil (R20.out.below (below_drewN (Below.refl _ w0) 1) R20.out.lt : Row w0.drew _ _ _)
  obtain ⟨M0, hM0⟩ : ∃ M, missing C (p, t) = M := ⟨_, rfl⟩
  obtain ⟨L2, hL2⟩ : ∃ L2, each add L M0 = L2 := ⟨_, rfl⟩
  have tC := OK.out.rep.topC.2
  have tL := OK.out.rep.topL.2
  have tb := OK.out.rep.fine.len
  have hcu := missing_any w0.drew (r := (p, t)) OK.out.crow (by omega) OK.out.rep.cC HPT.out
  have hml := missing_len OK.out.rep.cC (r := (p, t)) HPT.out
  have hmc := (missing_laws OK.out.rep.cC (r := (p, t)) HPT.out).1
  rw [hM0] at hcu hml hmc
  unfold rcA at hcu
  simp only at hcu
  have CU := veil hcu
  have CE := veil (show ∀ (W : World) (u : Value), Done w0.drew W (.slice none 0 0) u M0 → Calls Try.prog 28 #[ls, .func (.func 26) #[] #[], u] W (fun e w' => ∃ v', e = .returned v' ∧ Done w0.drew w' ls v' L2) from fun W u hD => by
    have hbw : Below w0.drew.heap.size w0.drew W := hD.keep.below (B := w0.drew.heap.size) (fun q hq => by cases hq) (Nat.le_refl _)
    have hen := each_any chg_add W (v := ls) (u := u) (l := L) (by' := M0) (OK.out.lrow.below hbw) hD.row (by omega) OK.out.rep.cL (fun r hr => Nat.le_of_lt (hmc.pos r hr)) (fun k hk e => by
      rcases hD.stay k hk with q | q
      · cases q
      · exact absurd (OK.out.lrow.lt k e) (by omega))
    refine hen.mono ?_
    rintro e w' ⟨v', rfl, hd⟩
    rw [hL2] at hd
    exact ⟨v', rfl, Done.behind hbw hd⟩)
  have RL := veil (show ∀ (m : Nat) (W : World) (u : Value), RLt w0.drew ls M0 L2 g m W u → m ≤ 1 → Row W g 55 (snC wr cm ls s) from fun m W u hR hm => hR.own hm OK.out.row)
  have R1S := veil (show ∀ (W4 : World) (u : Value), Done w0.drew W4 ls u L2 → W4.cell? ⟨g, 7, none⟩ = some ls ∧ W4.frozen? ⟨g, 7, none⟩ = false from fun W4 u hD => by
    have hr := hD.keep.row OK.out.row (fun e => (Ty.ne OK.out.tg (OK.out.tl e) (by decide)) rfl)
    exact ⟨hr.cell 7, hr.frozen 7⟩)
  have BS := veil (show ∀ (m : Nat) (W : World) (u : Value), RLt w0.drew ls M0 L2 g m W u → W.cell? ⟨bs, 0, none⟩ = some (.pointer (some ⟨g, 0, none⟩)) from fun m W u hR =>
    (hR.row HB.out (Ty.ne (⟨_, HB.out⟩ : Ty w0.drew bs 24) OK.out.tg (by decide)) (fun e => (Ty.ne (⟨_, HB.out⟩ : Ty w0.drew bs 24) (OK.out.tl e) (by decide)) rfl)).cell 0)
  clear hcu OK0 HBS R20 tC tL tb hml hmc
  refine (wpIn_wide (n := 4)).1 ?_
  refine wpIn_region_any (by kernel_rfl) ?_
  refine anyIn_spine (valLo g p t cm ls) (RLt w0.drew ls M0 L2 g) undef [10, 11, 14] [3, 4, 5, 6, 7, 8, 9, 10, 11, 12, 13, 14, 15, 16, 100000] depLo dclLo (by kernel_rfl) (by decide) rfl (by decide) (by decide) ?ord (by decide) ?h0 ?fix ?cal ?don
  case ord =>
    intro k i j h1 h2
    match k, h1, h2 with
    | 0, h1, h2 =>
      obtain rfl := Option.some.inj h1
      obtain rfl := Option.some.inj h2
      decide
    | 1, h1, h2 =>
      obtain rfl := Option.some.inj h1
      obtain rfl := Option.some.inj h2
      decide
    | 2, _, h2 => simp at h2
    | _ + 3, h1, _ => simp at h1
  case fix =>
    intro x W4 m2 ii d u hR hdi hni hdep hlo hhi
    match ii, hdi, hni, hdep, hhi with
    | 0, hdi, _, _, _ =>
      obtain rfl := Option.some.inj hdi
      exact OI_value rfl rfl (about_none (by intro c h; cases h)) (by intro c h; cases h) (.pointer (some ⟨g, 0, none⟩)) W4 (lgRun_cell 24 _ ⟨bs, 0, none⟩ _ _ rfl (by kernel_rfl) Try.underlying24 rfl _ (BS.out _ _ _ hR)) ⟨rfl, rfl⟩
    | 1, hdi, _, _, _ =>
      obtain rfl := Option.some.inj hdi
      exact OI_value rfl rfl (about_none (by intro c h; cases h)) (by intro c h; cases h) (.pointer (some ⟨g, 0, none⟩)) W4 (lgRun_cell 24 _ ⟨bs, 0, none⟩ _ _ rfl (by kernel_rfl) Try.underlying24 rfl _ (BS.out _ _ _ hR)) ⟨rfl, rfl⟩
    | 2, hdi, _, hdep, _ =>
      obtain rfl := Option.some.inj hdi
      rw [updV_self (show x 1 = _ from hdep 1 (by simp [depLo]) (by decide))]
      exact OI_value rfl rfl (about_none (by intro c h; cases h)) (by intro c h; cases h) (.pointer (some ⟨g, 0, none⟩)) W4 (by kernel_rfl) ⟨rfl, rfl⟩
    | 3, hdi, _, hdep, _ =>
      obtain rfl := Option.some.inj hdi
      rw [updV_self (show x 2 = _ from hdep 2 (by simp [depLo]) (by decide))]
      exact OI_value rfl rfl (about_none (by intro c h; cases h)) (by intro c h; cases h) (.pointer (some ⟨g, 7, none⟩)) W4 (by kernel_rfl) ⟨rfl, rfl⟩
    | 4, hdi, _, hdep, hhi =>
      obtain rfl := Option.some.inj hdi
      rw [updV_self (show x 3 = _ from hdep 3 (by simp [depLo]) (by decide))]
      exact OI_value rfl rfl (about_none (by intro c h; cases h)) (by intro c h; cases h) (ls) W4 (lgRun_cell 53 _ ⟨g, 7, none⟩ _ _ rfl (by kernel_rfl) Try.underlying53 rfl _ ((RL.out _ _ _ hR (hhi 1 11 rfl (by decide))).cell 7)) ⟨rfl, rfl⟩
    | 5, hdi, _, _, _ =>
      obtain rfl := Option.some.inj hdi
      exact OI_value rfl rfl (about_none (by intro c h; cases h)) (by intro c h; cases h) (.pointer (some ⟨g, 0, none⟩)) W4 (lgRun_cell 24 _ ⟨bs, 0, none⟩ _ _ rfl (by kernel_rfl) Try.underlying24 rfl _ (BS.out _ _ _ hR)) ⟨rfl, rfl⟩
    | 6, hdi, _, hdep, _ =>
      obtain rfl := Option.some.inj hdi
      rw [updV_self (show x 5 = _ from hdep 5 (by simp [depLo]) (by decide))]
      exact OI_value rfl rfl (about_none (by intro c h; cases h)) (by intro c h; cases h) (.pointer (some ⟨g, 0, none⟩)) W4 (by kernel_rfl) ⟨rfl, rfl⟩
    | 7, hdi, _, hdep, _ =>
      obtain rfl := Option.some.inj hdi
      rw [updV_self (show x 6 = _ from hdep 6 (by simp [depLo]) (by decide))]
      exact OI_value rfl rfl (about_none (by intro c h; cases h)) (by intro c h; cases h) (.pointer (some ⟨g, 6, none⟩)) W4 (by kernel_rfl) ⟨rfl, rfl⟩
    | 8, hdi, _, hdep, hhi =>
      obtain rfl := Option.some.inj hdi
      rw [updV_self (show x 7 = _ from hdep 7 (by simp [depLo]) (by decide))]
      exact OI_value rfl rfl (about_none (by intro c h; cases h)) (by intro c h; cases h) (cm) W4 (lgRun_cell 53 _ ⟨g, 6, none⟩ _ _ rfl (by kernel_rfl) Try.underlying53 rfl _ ((RL.out _ _ _ hR (Nat.le_trans (hhi 0 10 rfl (by decide)) (by decide))).cell 6)) ⟨rfl, rfl⟩
    | 9, hdi, _, _, hhi =>
      obtain rfl := Option.some.inj hdi
      exact OI_value rfl rfl (about_none (by intro c h; cases h)) (by intro c h; cases h) (.agg #[.int .u64 (p : Int), .int .u64 (t : Int)]) W4 (lgRun_row 60 _ rfl w.heap.size (by kernel_rfl) 60 #[.int .u64 (p : Int), .int .u64 (t : Int)] 2 _ Try.underlying60 (by kernel_rfl) rfl W4 (by rw [hR.zero (hhi 0 10 rfl (by decide))]; exact R2.out)) ⟨rfl, rfl⟩
    | 10, _, hni, _, _ => (exfalso; exact hni (by decide))
    | 11, _, hni, _, _ => (exfalso; exact hni (by decide))
    | 12, hdi, _, hdep, _ =>
      obtain rfl := Option.some.inj hdi
      rw [updV_self (show x 0 = _ from hdep 0 (by simp [depLo]) (by decide))]
      exact OI_value rfl rfl (about_none (by intro c h; cases h)) (by intro c h; cases h) (.pointer (some ⟨g, 0, none⟩)) W4 (by kernel_rfl) ⟨rfl, rfl⟩
    | 13, hdi, _, hdep, _ =>
      obtain rfl := Option.some.inj hdi
      rw [updV_self (show x 12 = _ from hdep 12 (by simp [depLo]) (by decide))]
      exact OI_value rfl rfl (about_none (by intro c h; cases h)) (by intro c h; cases h) (.pointer (some ⟨g, 7, none⟩)) W4 (by kernel_rfl) ⟨rfl, rfl⟩
    | 14, _, hni, _, _ => (exfalso; exact hni (by decide))
    | _ + 15, hdi, _, _, _ => simp at hdi
  case cal =>
    intro x W4 k2 ii d u hR hk hdi hdep hu0 hup
    match k2, hk, hR, hu0, hup with
    | 0, hk, hR, hu0, hup =>
      obtain rfl := Option.some.inj hk
      obtain rfl := Option.some.inj hdi
      obtain rfl := hR
      rw [updV_self (show x 8 = _ from hdep 8 (by simp [depLo]) (by decide)), updV_self (show (updV x 8 _) 9 = _ from hdep 9 (by simp [depLo]) (by decide))]
      refine OI_call rfl rfl (by intro c h; cases h) 29 #[cm, .agg #[.int .u64 (p : Int), .int .u64 (t : Int)]] (fun _ _ => trivial) (by kernel_rfl) (by decide) ?_
      refine (callsIn_wide.2 CU.out).mono ?_
      rintro e w' ⟨u', rfl, hd⟩
      exact ⟨_, rfl, u', rfl, hd⟩
    | 1, hk, hR, hu0, hup =>
      obtain rfl := Option.some.inj hk
      obtain rfl := Option.some.inj hdi
      have h10 : x 10 = u := hup 0 10 rfl rfl
      rw [updV_self (show x 4 = _ from hdep 4 (by simp [depLo]) (by decide)), updV_self (show (updV x 4 _) 10 = u from h10)]
      refine OI_call rfl rfl (by intro c h; cases h) 28 #[ls, .func (.func 26) #[] #[], u] (fun _ _ => trivial) (by kernel_rfl) (by decide) ?_
      refine (callsIn_wide.2 (CE.out W4 u hR)).mono ?_
      rintro e w' ⟨u', rfl, hd⟩
      exact ⟨_, rfl, u', rfl, hd⟩
    | 2, hk, hR, hu0, hup =>
      obtain rfl := Option.some.inj hk
      obtain rfl := Option.some.inj hdi
      have h11 : x 11 = u := hup 1 11 rfl rfl
      rw [updV_self (show x 13 = _ from hdep 13 (by simp [depLo]) (by decide)), updV_self (show (updV x 13 _) 11 = u from h11)]
      have z1 := R1S.out W4 u hR
      refine OI_skip rfl rfl (about_none (by intro c h; cases h)) (by intro c h; cases h) _ (lgRun_store 53 _ _ ⟨g, 7, none⟩ u ls (RowO.one (Done.row hR)) rfl (by kernel_rfl) (by kernel_rfl) (by kernel_rfl) _ z1.1 z1.2) ⟨undef, (lgPut_none _ _).trans (put_far _ _ _ (by rw [puts_size]; exact Nat.le_of_ble_eq_true rfl)).symm, u, W4, hR, rfl⟩
    | _ + 3, hk, _, _, _ => simp at hk
  case h0 => exact rfl
  case don =>
    rintro x9 W9 u9 hR9 _ _
    obtain ⟨u1, W1, hD, rfl⟩ : ∃ (u1 : Value) (W1 : World), Done w0.drew W1 ls u1 L2 ∧ W9 = W1.setCell ⟨g, 7, none⟩ u1 := hR9
    simp only [putsV, Act.put, List.setIfInBounds_toArray, List.set_cons_succ, List.set_cons_zero, List.set_nil, Nat.reduceAdd]
    have HD := veil hD
    clear hD CE RL R1S BS CU
    go_wp2_with fail
    refine bodyPost_end (results_none rfl _ _ _) rfl ?_
    have hz := Done.behind (HA.out.drew : Below w.heap.size w w0.drew) HD.out
    exact ⟨⟨_, rfl⟩, W1, u1, hM0 ▸ hL2 ▸ hz, rfl, onto (hz.keep.mono (fun q e => (.inr (.inr (.inr e)) : OwnS g wr cm ls q))) (KeepP.setCell (st := OwnS g wr cm ls) (.inl rfl) W1 7 u1) (fun _ _ e => e)⟩
end Sr
end Go.Proofs.Ytnlckmopgkabpaa
