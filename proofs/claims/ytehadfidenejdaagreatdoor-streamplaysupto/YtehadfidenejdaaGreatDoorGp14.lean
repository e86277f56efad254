/-
  Out of SrMiss, PcPlain, SdPlain.
-/
import Derived.Test.YtehadfidenejdaaGreatDoorGp13
import Derived.Test.YtehadfidenejdaaGreatDoorGp1

/-! Written by mksrmiss.py: the places of a run that are not among others. -/
namespace Go.Proofs.YtehadfidenejdaaGreatDoor
open Go Go.RowKit

namespace Sr
def RMi (q : World) (A0 M0 : List Rn) : Nat → World → Value → Prop
  | 0, W, _ => W = q
  | 1, W, u => Done q W (.slice none 0 0) u A0
  | _, W, u => Done q W (.slice none 0 0) u M0
theorem RMi.zero {q : World} {A0 M0 : List Rn} {k : Nat} {W : World} {u : Value} (h : RMi q A0 M0 k W u) (hk : k ≤ 0) : W = q := by
  obtain rfl : k = 0 := by omega
  exact h
theorem run_sliceV {P : Program} {a : Act} {o : Oper} (t : TypeId) (x lo hi : Operand) {v l h r : Value} {W : World} (ho : o.op = .slice t x (some lo) (some hi) none) (hx : a.eval x = v) (hl : a.eval lo = l) (hh : a.eval hi = h)
    (hr : (Instr.sliceAt t v (some l) (some h) none).run P W = .ok r W) : (execOp a.eval o).run P W = .ok (.value r) W := by
  unfold execOp
  simp [ho, hx, hl, hh, hr]
def depMi : Nat → List Nat
  | 0 => []
  | 1 => [0]
  | 2 => []
  | 3 => []
  | 4 => []
  | 5 => [2, 3, 4]
  | 6 => [1, 5]
  | 7 => [6]
  | _ => []
def dclMi : Nat → List Nat
  | 1 => [0]
  | 5 => [2, 3, 4]
  | 6 => [0, 1, 2, 3, 4, 5]
  | 7 => [0, 1, 2, 3, 4, 5, 6]
  | _ => []
def valMi (L : Value) (sa : Option Addr) (sc i j x1 y1 : Nat) : Nat → Value
  | 0 => .agg #[.int .u64 (x1 : Int), .int .u64 (y1 : Int)]
  | 2 => L
  | 3 => .int .i64 (i : Int)
  | 4 => .int .i64 (j : Int)
  | 5 => .slice sa (j - i) sc
  | _ => undef
set_option maxHeartbeats 1000000 in
set_option maxRecDepth 20000 in
theorem missing_any (w : World) {v : Value} {l : List Rn} {r : Rn} (h : RowO w 77 2 v l.length (vr l)) (hn : l.length ≤ 268435456) (hc : Canon l) (hr : r.1 ≤ r.2) :
    Calls Tryz.prog 50 #[v, rcA r] w fun e w' => ∃ v', e = .returned v' ∧ Done w w' (.slice none 0 0) v' (missing l r) := by
  obtain ⟨va, vc, hve, _, _⟩ := h.shape
  obtain ⟨n, hl⟩ : ∃ n, l.length = n := ⟨_, rfl⟩
  rw [hl] at hve
  have hb0 : Below w.heap.size w (w.alloc (.cells (rC2 r) 77)) := (Below.refl _ w).alloc (Nat.le_refl _) _
  have hlo := cnt_le (fun a => aheadB a r) l
  have hhi := hi_le aheadB l r
  have hlh := lo_le_hi aheadB l r
  have hrow := h.below hb0
  have hr0 : Row (w.alloc (.cells (rC2 r) 77)) w.heap.size 77 (rC2 r) := Row.new _ _ _
  have HN := near_any asks_ahead (w.alloc (.cells (rC2 r) 77)) (r := r) hrow rfl (by omega) hc (ups_ahead r)
  obtain ⟨sa, sc, s1, _, hsr, hso⟩ := sl_any (P := Tryz.prog) w 70 Tryz.underlying70 (by kernel_rfl) (show RowO w 77 2 v n (vr l) by rw [← hl]; exact h) hlh (by rw [← hl]; exact hhi)
  obtain ⟨M, hM⟩ : ∃ M, mids l r = M := ⟨_, rfl⟩
  have hMb : ∀ a ∈ M, a.1 ≤ a.2 := fun a ha => Nat.le_of_lt (hc.pos a (mids_mem (by rw [hM]; exact ha)))
  have lM : M.length = hi aheadB l r - lo aheadB l r := by rw [← hM]; unfold mids; rw [List.length_drop, List.length_take]; omega
  have vM : ((vr l).drop (lo aheadB l r * 2)).take ((hi aheadB l r - lo aheadB l r) * 2) = vr M := by
    rw [← hM]
    unfold mids
    rw [vr_drop, vr_take, List.drop_take, Nat.sub_mul]
  rw [vM] at hsr
  have hmis : missing l r = each cut (add [] r) M := by rw [← hM]; rfl
  rw [hmis]
  have cA := (add_laws (l := []) (r := r) trivial hr).1
  have lA := add_len r
  generalize hie : lo aheadB l r = i at *
  generalize hje : hi aheadB l r = j at *
  obtain ⟨A0, hA0⟩ : ∃ A0, add [] r = A0 := ⟨_, rfl⟩
  obtain ⟨M0, hM0⟩ : ∃ M0, each cut A0 M = M0 := ⟨_, rfl⟩
  have HA0 := add_any (v := .slice none 0 0) (l := []) (r := r) (w := w)
  rw [hA0, hM0]
  rw [hA0] at cA lA
  clear hmis vM hM hie hje HA0
  have HAD := fun W => add_any W (v := .slice none 0 0) (l := []) (r := r) (RowO.nil _ _ _) (by simp) trivial
  rw [hA0] at HAD
  obtain ⟨x1, y1⟩ := r
  have hr : x1 ≤ y1 := hr
  unfold rcA at HN HAD ⊢
  unfold rC2 at HN hrow hr0 hb0
  simp only at HN hrow hr0 hb0 HAD ⊢
  have HN := veil HN
  have HROW := veil hrow
  have HR0 := veil hr0
  have HB0 := veil hb0
  have HWB := veil (h.lt)
  generalize hW0 : w.alloc (.cells #[.int .u64 (x1 : Int), .int .u64 (y1 : Int)] 77) = W0 at *
  have HW0 := veil hW0
  have HSL := veil s1
  have HX := veil (show l.length = n ∧ n ≤ 268435456 ∧ i ≤ j ∧ j ≤ n ∧ M.length = j - i ∧ A0.length ≤ 1 ∧ Canon A0 ∧ (∀ a ∈ M, a.1 ≤ a.2) from ⟨hl, by omega, hlh, by omega, lM, lA, cA, hMb⟩)
  have HSR := veil (show ∀ W, RowO W 77 2 v l.length (vr l) → RowO W 77 2 (.slice sa (j - i) sc) M.length (vr M) from fun W hW => by rw [lM]; exact hsr W (by rw [← hl]; exact hW))
  have HSO := veil (show (Value.slice sa (j - i) sc).ownBlock = v.ownBlock from hso)
  have HM0 := veil hM0
  have HAD := veil HAD
  clear h hn hb0 hrow hr0 hW0 hl hr hc hlo hhi hlh s1 hsr hso hM0 hMb lM cA lA hA0
  subst hve
  go_enter Tryz.func50, Tryz.ntmps50
  go_wp2_with fail
  rw [HW0.out]
  refine HN.out.mono ?_
  rintro e1 w1 ⟨rfl, hb1⟩
  have HB1 := veil (HB0.out.trans (hb1.mono HB0.out.size))
  have HR1 := veil (show Row w1.drew w.heap.size 77 #[.int .u64 (x1 : Int), .int .u64 (y1 : Int)] from HR0.out.below hb1.drew HR0.out.lt)
  have HROW1 := veil (show RowO w1.drew 77 2 (.slice va n vc) l.length (vr l) from HROW.out.below hb1.drew)
  have HA := veil (HAD.out w1.drew)
  have HE := veil (show ∀ (W : World) (u : Value), Done w1.drew W (.slice none 0 0) u A0 → Calls Tryz.prog 49 #[u, .func (.func 38) #[] #[], .slice sa (j - i) sc] W (fun e w' => ∃ v', e = .returned v' ∧ Done w1.drew w' (.slice none 0 0) v' M0) from fun W u hD => by
    have hrw := HROW1.out.same (w' := W) (fun k hk => hD.keep.block k (HROW1.out.lt k hk) (fun e => by cases e))
    have hen := each_any chg_cut W (v := u) (u := .slice sa (j - i) sc) (l := A0) (by' := M) hD.row (HSR.out W hrw) (by have := HX.out; omega) HX.out.2.2.2.2.2.2.1 HX.out.2.2.2.2.2.2.2 (fun k hk e => by
      rw [HSO.out] at hk
      rcases hD.stay k e with q | q
      · cases q
      · exact absurd (HROW1.out.lt k hk) (by omega))
    refine hen.mono ?_
    rintro e w' ⟨v', rfl, hd⟩
    rw [HM0.out] at hd
    exact ⟨v', rfl, hD.trans hd⟩)
  clear hb1 HN HB0 HR0 HROW HW0 HAD
  go_wp2_with fail
  refine (wpIn_wide (n := 4)).1 ?_
  refine wpIn_region_any (by kernel_rfl) ?_
  refine anyIn_spine (valMi (.slice va n vc) sa sc i j x1 y1) (RMi w1.drew A0 M0) undef [1, 6, 7] [13, 14, 15, 16, 17, 18, 19, 4] depMi dclMi (by kernel_rfl) (by decide) rfl (by decide) (by decide) ?ord (by decide) ?h0 ?fix ?cal ?don
  case ord =>
    intro k i j h1 h2
    match k, h1, h2 with
    | 0, h1, h2 =>
      obtain rfl := Option.some.inj h1
      obtain rfl := Option.some.inj h2
      decide
    | 1, h1, h2 =>
      obtain rfl := Option.some.inj h1
      obtain rfl := Option.some.inj h2
      decide
    | 2, _, h2 => simp at h2
    | _ + 3, h1, _ => simp at h1
  case fix =>
    intro x W4 m2 ii d u hR hdi hni hdep hlo hhi
    match ii, hdi, hni, hdep, hhi with
    | 0, hdi, _, _, hhi =>
      obtain rfl := Option.some.inj hdi
      exact OI_value rfl rfl (about_none (by intro c h; cases h)) (by intro c h; cases h) (.agg #[.int .u64 (x1 : Int), .int .u64 (y1 : Int)]) W4 (lgRun_row 77 _ rfl w.heap.size (by kernel_rfl) 77 #[.int .u64 (x1 : Int), .int .u64 (y1 : Int)] 2 _ Tryz.underlying77 (by kernel_rfl) rfl W4 (by rw [hR.zero (hhi 0 1 rfl (by decide))]; exact HR1.out)) ⟨rfl, rfl⟩
    | 1, _, hni, _, _ => exact absurd (by decide) hni
    | 2, hdi, _, _, _ =>
      obtain rfl := Option.some.inj hdi
      exact OI_value rfl rfl (about_none (by intro c h; cases h)) (by intro c h; cases h) ((.slice va n vc)) W4 (by kernel_rfl) ⟨rfl, rfl⟩
    | 3, hdi, _, _, _ =>
      obtain rfl := Option.some.inj hdi
      exact OI_value rfl rfl (about_none (by intro c h; cases h)) (by intro c h; cases h) (.int .i64 (i : Int)) W4 (by kernel_rfl) ⟨rfl, rfl⟩
    | 4, hdi, _, _, _ =>
      obtain rfl := Option.some.inj hdi
      exact OI_value rfl rfl (about_none (by intro c h; cases h)) (by intro c h; cases h) (.int .i64 (j : Int)) W4 (by kernel_rfl) ⟨rfl, rfl⟩
    | 5, hdi, _, hdep, _ =>
      obtain rfl := Option.some.inj hdi
      rw [updV_self (show x 2 = _ from hdep 2 (by simp [depMi]) (by decide)), updV_self (show (updV x 2 _) 3 = _ from hdep 3 (by simp [depMi]) (by decide)), updV_self (show (updV (updV x 2 _) 3 _) 4 = _ from hdep 4 (by simp [depMi]) (by decide))]
      exact OI_value rfl rfl (about_none (by intro c h; cases h)) (by intro c h; cases h) (.slice sa (j - i) sc) W4 (run_sliceV 70 _ _ _ rfl (by kernel_rfl) (by kernel_rfl) (by kernel_rfl) (HSL.out _)) ⟨rfl, rfl⟩
    | 6, _, hni, _, _ => exact absurd (by decide) hni
    | 7, _, hni, _, _ => exact absurd (by decide) hni
    | _ + 8, hdi, _, _, _ => simp at hdi
  case cal =>
    intro x W4 k2 ii d u hR hk hdi hdep hu0 hup
    match k2, hk, hR, hu0, hup with
    | 0, hk, hR, hu0, hup =>
      obtain rfl := Option.some.inj hk
      obtain rfl := Option.some.inj hdi
      obtain rfl := hR
      rw [updV_self (show x 0 = _ from hdep 0 (by simp [depMi]) (by decide))]
      refine OI_call rfl rfl (by intro c h; cases h) 46 #[.slice none 0 0, .agg #[.int .u64 (x1 : Int), .int .u64 (y1 : Int)]] (fun _ _ => trivial) (by kernel_rfl) (by decide) ?_
      refine (callsIn_wide.2 HA.out).mono ?_
      rintro e w' ⟨u', rfl, hd⟩
      exact ⟨_, rfl, u', rfl, hd⟩
    | 1, hk, hR, hu0, hup =>
      obtain rfl := Option.some.inj hk
      obtain rfl := Option.some.inj hdi
      have h1 : x 1 = u := hup 0 1 rfl rfl
      rw [updV_self (show x 1 = u from h1), updV_self (show (updV x 1 _) 5 = _ from hdep 5 (by simp [depMi]) (by decide))]
      refine OI_call rfl rfl (by intro c h; cases h) 49 #[u, .func (.func 38) #[] #[], .slice sa (j - i) sc] (fun _ _ => trivial) (by kernel_rfl) (by decide) ?_
      refine (callsIn_wide.2 (HE.out W4 u hR)).mono ?_
      rintro e w' ⟨u', rfl, hd⟩
      exact ⟨_, rfl, u', rfl, hd⟩
    | 2, hk, hR, hu0, hup =>
      obtain rfl := Option.some.inj hk
      obtain rfl := Option.some.inj hdi
      rw [updV_self (show x 6 = u from hup 1 6 rfl rfl)]
      exact OI_value rfl rfl (about_none (by intro c h; cases h)) (by intro c h; cases h) u _ (by kernel_rfl) ⟨u, rfl, hR⟩
    | _ + 3, hk, _, _, _ => simp at hk
  case h0 => exact rfl
  case don =>
    rintro x9 W9 u9 hD9 _ hl9
    have h7 : x9 7 = u9 := hl9 2 7 rfl rfl
    simp only [putsV, Act.put, List.setIfInBounds_toArray, List.set_cons_succ, List.set_cons_zero, Nat.reduceAdd]
    rw [h7]
    generalize x9 0 = z0, x9 1 = z1, x9 2 = z2, x9 3 = z3, x9 4 = z4, x9 5 = z5, x9 6 = z6
    clear h7 hl9
    have hD9 : Done w1.drew W9 (.slice none 0 0) u9 M0 := hD9
    have HD := veil (Done.behind (HB1.out.drew) hD9)
    clear hD9
    go_wp2_with fail
    go_ret
    exact ⟨u9, rfl, HD.out⟩
end Sr
end Go.Proofs.YtehadfidenejdaaGreatDoor

/-! Pieces, plainly: what is held by its place, what is put and taken: no program in sight. -/
namespace Go.Proofs.YtehadfidenejdaaGreatDoor
open Go

/-- Pieces as they stand. -/
structure PS where
  room : Nat
  read : Nat
  come : Nat
  known : Bool
  f : Nat → Option By
structure PS.Fine (S : PS) : Prop where
  room : S.room ≤ 1048576
  rc : S.read ≤ S.come
  come : S.come ≤ 4611686018427387903
  hi : S.come ≤ S.read + S.room
  held : ∀ x, S.f x ≠ none → S.read ≤ x ∧ x < S.come

namespace Pc
/-- How many are held of so many places from one on. -/
def cnt (f : Nat → Option By) (a : Nat) : Nat → Nat
  | 0 => 0
  | n + 1 => cnt f a n + (if (f (a + n)).isSome then 1 else 0)
theorem cnt_le (f : Nat → Option By) (a : Nat) : ∀ n, cnt f a n ≤ n
  | 0 => Nat.le_refl _
  | n + 1 => by
    have := cnt_le f a n
    unfold cnt
    split <;> omega
/-- What the bytes b at a place make of what is held, between two places. -/
def holdK (f : Nat → Option By) (lo k p : Nat) (b : List By) (x : Nat) : Option By :=
  if lo ≤ x ∧ x < k ∧ f x = none then some (gb b (x - p)) else f x
/-- How what is put is refused. -/
def putE (S : PS) (p n : Nat) (last : Bool) : Nat :=
  if 4611686018427387903 < p ∨ 4611686018427387903 < p + n then 1
  else if S.known = true ∧ S.come < p + n ∨ last = true ∧ p + n < S.come then 8
  else if S.read + S.room < p + n then 6 else 0
/-- What becomes of what was put. -/
def putS (S : PS) (p : Nat) (b : List By) (last : Bool) : PS :=
  { S with come := max S.come (p + b.length), known := S.known || last, f := holdK S.f (max p S.read) (p + b.length) p b }
def put (S : PS) (p : Nat) (b : List By) (last : Bool) : PS := if putE S p b.length last = 0 then putS S p b last else S
/-- What can be taken from a place on, so many at most. -/
def takeL (f : Nat → Option By) (r n : Nat) : List By :=
  match n with
  | 0 => []
  | n + 1 => match f r with
    | none => []
    | some x => x :: takeL f (r + 1) n
termination_by n
theorem take_zero (f : Nat → Option By) (r : Nat) : takeL f r 0 = [] := by rw [takeL]
theorem take_none {f : Nat → Option By} {r : Nat} (h : f r = none) (n : Nat) : takeL f r n = [] := by
  cases n with
  | zero => exact take_zero f r
  | succ n => rw [takeL]; simp [h]
/-- Where so many were taken. -/
def mid (S : PS) (j : Nat) : PS := { S with read := S.read + j, f := fun x => if x < S.read + j then none else S.f x }
def ended (S : PS) : Bool := S.known && S.read == S.come
/-- Of which nothing came. -/
def newS (room : Nat) : PS := ⟨room, 0, 0, false, fun _ => none⟩
theorem new_fine {room : Nat} (h : room ≤ 1048576) : (newS room).Fine := ⟨h, Nat.le_refl _, by show (0 : Nat) ≤ _; omega, by show (0 : Nat) ≤ 0 + room; omega, fun x hx => absurd rfl hx⟩
end Pc
end Go.Proofs.YtehadfidenejdaaGreatDoor

/-! A stream's end that sends, plainly: what is written, taken, came in and was lost, byte by byte. No program in sight. -/
namespace Go.Proofs.YtehadfidenejdaaGreatDoor.Sd
open Go

/-- A sender as it stands: of each byte (and of the end) 0: it waits, 1: it was sent, 2: it is lost, 3: it came in there. -/
structure Snd where
  id : Nat
  credit : Nat
  b : List By
  how : Nat → Nat
  fresh : Nat
  last : Bool
  fin : Nat
  reset : Bool
structure Fine (s : Snd) : Prop where
  id : s.id ≤ 4611686018427387903
  credit : s.credit ≤ 4611686018427387903
  len : s.b.length ≤ 1048576
  fr : s.fresh ≤ s.b.length
  off : ∀ i, s.fresh ≤ i → s.how i = 0
  on : ∀ i, i < s.fresh → s.how i = 1 ∨ s.how i = 2 ∨ s.how i = 3
  fin : s.fin ≤ 3
  ended : s.fin ≠ 0 → s.last = true ∧ s.fresh = s.b.length

def new (id credit : Nat) : Snd := ⟨id, credit, [], fun _ => 0, 0, false, 0, false⟩
theorem new_fine {id credit : Nat} (h1 : id ≤ 4611686018427387903) (h2 : credit ≤ 4611686018427387903) : Fine (new id credit) :=
  ⟨h1, h2, Nat.zero_le _, Nat.le_refl _, fun _ _ => rfl, fun _ hi => absurd hi (Nat.not_lt_zero _), Nat.zero_le _, fun h => absurd rfl h⟩

/-- How what is written is refused. -/
def writeE (s : Snd) (n : Nat) : Nat := if s.last = true ∨ s.reset = true then 9 else if 1048576 < s.b.length + n then 3 else 0
def write (s : Snd) (b : List By) (last : Bool) : Snd := if writeE s b.length = 0 then { s with b := s.b ++ b, last := last } else s
theorem writeE_zero {s : Snd} {n : Nat} (h : writeE s n = 0) : s.last = false ∧ s.reset = false ∧ s.b.length + n ≤ 1048576 := by
  unfold writeE at h
  split at h
  · cases h
  · rename_i c
    split at h
    · cases h
    · simp only [not_or, Bool.not_eq_true] at c
      exact ⟨c.1, c.2, by omega⟩
theorem write_fine {s : Snd} (hs : Fine s) (b : List By) (last : Bool) : Fine (write s b last) := by
  unfold write
  split
  · rename_i h
    obtain ⟨h1, h2, h3⟩ := writeE_zero h
    obtain ⟨a1, a2, a3, a4, a5, a6, a7, a8⟩ := hs
    exact ⟨a1, a2, by simpa using h3, by show s.fresh ≤ (s.b ++ b).length; simp; omega, a5, a6, a7, fun h => absurd (a8 h).1 (by rw [h1]; simp)⟩
  · exact hs

/-- The first byte that is lost, of k bytes from i on, or behind them. -/
def first (h : Nat → Nat) : Nat → Nat → Nat
  | i, 0 => i
  | i, k + 1 => if h i = 2 then i else first h (i + 1) k
theorem first_le (h : Nat → Nat) : ∀ (k i : Nat), i ≤ first h i k ∧ first h i k ≤ i + k
  | 0, i => ⟨Nat.le_refl _, Nat.le_refl _⟩
  | k + 1, i => by
    unfold first
    have := first_le h k (i + 1)
    split <;> omega
theorem first_none (h : Nat → Nat) : ∀ (k i j : Nat), i ≤ j → j < first h i k → h j ≠ 2
  | 0, i, j, h1, h2 => by unfold first at h2; omega
  | k + 1, i, j, h1, h2 => by
    unfold first at h2
    split at h2
    · omega
    · rename_i c
      by_cases e : j = i
      · rw [e]; exact c
      · exact first_none h k (i + 1) j (by omega) h2
theorem first_some (h : Nat → Nat) : ∀ (k i : Nat), first h i k < i + k → h (first h i k) = 2
  | 0, i, h1 => by unfold first at h1; omega
  | k + 1, i, h1 => by
    unfold first at h1 ⊢
    split
    · assumption
    · rename_i c
      rw [if_neg c] at h1
      exact first_some h k (i + 1) (by omega)
/-- It is the one that these two laws tell. -/
theorem first_is {h : Nat → Nat} {k i x : Nat} (h1 : i ≤ x) (h2 : x ≤ i + k) (h3 : ∀ j, i ≤ j → j < x → h j ≠ 2) (h4 : x < i + k → h x = 2) : first h i k = x := by
  have a := first_le h k i
  have b := first_none h k i
  have c := first_some h k i
  rcases Nat.lt_trichotomy (first h i k) x with e | e | e
  · exact absurd (c (by omega)) (h3 _ a.1 e)
  · exact e
  · exact absurd (h4 (by omega)) (b x h1 e)
/-- The end of a run of lost bytes, of k bytes from i on. -/
def run (h : Nat → Nat) : Nat → Nat → Nat
  | i, 0 => i
  | i, k + 1 => if h i = 2 then run h (i + 1) k else i
theorem run_le (h : Nat → Nat) : ∀ (k i : Nat), i ≤ run h i k ∧ run h i k ≤ i + k
  | 0, i => ⟨Nat.le_refl _, Nat.le_refl _⟩
  | k + 1, i => by
    unfold run
    have := run_le h k (i + 1)
    split <;> omega
theorem run_all (h : Nat → Nat) : ∀ (k i j : Nat), i ≤ j → j < run h i k → h j = 2
  | 0, i, j, h1, h2 => by unfold run at h2; omega
  | k + 1, i, j, h1, h2 => by
    unfold run at h2
    split at h2
    · rename_i c
      by_cases e : j = i
      · rw [e]; exact c
      · exact run_all h k (i + 1) j (by omega) h2
    · omega
theorem run_end (h : Nat → Nat) : ∀ (k i : Nat), run h i k < i + k → h (run h i k) ≠ 2
  | 0, i, h1 => by unfold run at h1; omega
  | k + 1, i, h1 => by
    unfold run at h1 ⊢
    split
    · rename_i c
      rw [if_pos c] at h1
      exact run_end h k (i + 1) (by omega)
    · assumption
theorem run_is {h : Nat → Nat} {k i x : Nat} (h1 : i ≤ x) (h2 : x ≤ i + k) (h3 : ∀ j, i ≤ j → j < x → h j = 2) (h4 : x < i + k → h x ≠ 2) : run h i k = x := by
  have a := run_le h k i
  have b := run_all h k i
  have c := run_end h k i
  rcases Nat.lt_trichotomy (run h i k) x with e | e | e
  · exact absurd (h3 _ a.1 e) (c (by omega))
  · exact e
  · exact absurd (b x h1 e) (h4 (by omega))
theorem run_pos {h : Nat → Nat} {k i : Nat} (hk : 0 < k) (hi : h i = 2) : i < run h i k := by
  cases k with
  | zero => omega
  | succ k =>
    unfold run
    rw [if_pos hi]
    have := run_le h k (i + 1)
    omega

/-- How many bytes may be sent that were not. -/
def more (s : Snd) (n : Int) (fr : Nat) : Nat := min (min (min (s.b.length - s.fresh) n.toNat) fr) (s.credit - s.fresh)
/-- From where, to where the bytes are that are taken next. -/
def span (s : Snd) (n : Int) (fr : Nat) : Option (Nat × Nat) :=
  if s.reset = true ∨ n < 0 then none
  else if 0 < n ∧ first s.how 0 s.fresh < s.fresh then some (first s.how 0 s.fresh, run s.how (first s.how 0 s.fresh) (min n.toNat (s.fresh - first s.how 0 s.fresh)))
  else if 0 < more s n fr then some (s.fresh, s.fresh + more s n fr)
  else if s.last = true ∧ s.fresh = s.b.length ∧ ¬ first s.how 0 s.fresh < s.fresh ∧ (s.fin = 0 ∨ s.fin = 2) then some (s.b.length, s.b.length)
  else none
/-- What becomes of a sender that told its bytes from one place to another. -/
def tell (s : Snd) (p q : Nat) : Snd :=
  { s with how := fun i => if p ≤ i ∧ i < q then 1 else s.how i, fresh := max s.fresh q, fin := if s.last = true ∧ q = s.b.length then (if s.fin = 3 then 3 else 1) else s.fin }
def take (s : Snd) (n : Int) (fr : Nat) : Snd := match span s n fr with
  | none => s
  | some (p, q) => tell s p q
def cut (b : List By) (p q : Nat) : List By := (b.drop p).take (q - p)
theorem cut_length {b : List By} {p q : Nat} (h1 : p ≤ q) (h2 : q ≤ b.length) : (cut b p q).length = q - p := by
  unfold cut
  rw [List.length_take, List.length_drop]
  omega
def finB (s : Snd) (q : Nat) : Bool := s.last && decide (q = s.b.length)

/-- What a span that is taken keeps to. -/
structure Spans (s : Snd) (n : Int) (fr : Nat) (p q : Nat) : Prop where
  live : s.reset = false
  le : p ≤ q
  top : q ≤ s.b.length
  low : p ≤ s.fresh
  most : ((q : Int) - p ≤ n)
  how : ∀ i, p ≤ i → i < q → s.how i = 0 ∨ s.how i = 2
  new : s.fresh < q → p = s.fresh ∧ q - s.fresh ≤ fr ∧ q ≤ s.credit
  one : p < q ∨ (p = q ∧ q = s.b.length ∧ s.fresh = s.b.length ∧ s.last = true ∧ (s.fin = 0 ∨ s.fin = 2))
theorem span_some {s : Snd} (hs : Fine s) {n : Int} {fr p q : Nat} (h : span s n fr = some (p, q)) : Spans s n fr p q := by
  unfold span at h
  split at h
  · cases h
  rename_i c0
  simp only [not_or, Bool.not_eq_true] at c0
  obtain ⟨c1, c2⟩ := c0
  have hl := first_le s.how s.fresh 0
  split at h
  · rename_i c3
    simp only [Option.some.injEq, Prod.mk.injEq] at h
    obtain ⟨rfl, rfl⟩ := h
    have hf := first_some s.how s.fresh 0 (by omega)
    have hr := run_le s.how (min n.toNat (s.fresh - first s.how 0 s.fresh)) (first s.how 0 s.fresh)
    have hp := run_pos (k := min n.toNat (s.fresh - first s.how 0 s.fresh)) (by omega) hf
    have := hs.fr
    exact ⟨c1, by omega, by omega, by omega, by omega, fun i h1 h2 => .inr (run_all s.how _ _ i h1 h2), fun h => by omega, .inl hp⟩
  · split at h
    · rename_i c3 c4
      simp only [Option.some.injEq, Prod.mk.injEq] at h
      obtain ⟨rfl, rfl⟩ := h
      have hm : more s n fr ≤ s.b.length - s.fresh ∧ more s n fr ≤ n.toNat ∧ more s n fr ≤ fr ∧ more s n fr ≤ s.credit - s.fresh := by unfold more; omega
      have := hs.fr
      exact ⟨c1, by omega, by omega, Nat.le_refl _, by omega, fun i h1 _ => .inl (hs.off i h1), fun _ => ⟨rfl, by omega, by omega⟩, .inl (by omega)⟩
    · split at h
      · rename_i c3 c4 c5
        simp only [Option.some.injEq, Prod.mk.injEq] at h
        obtain ⟨rfl, rfl⟩ := h
        exact ⟨c1, Nat.le_refl _, Nat.le_refl _, by omega, by omega, fun i h1 h2 => by omega, fun h => by omega, .inr ⟨rfl, rfl, c5.2.1, c5.1, c5.2.2.2⟩⟩
      · cases h
theorem tell_fine {s : Snd} (hs : Fine s) {n : Int} {fr p q : Nat} (h : Spans s n fr p q) : Fine (tell s p q) := by
  obtain ⟨a1, a2, a3, a4, a5, a6, a7, a8⟩ := hs
  obtain ⟨_, h1, h2, h3, _, h4, h5, h6⟩ := h
  refine ⟨a1, a2, a3, by show max _ _ ≤ s.b.length; omega, fun i hi => ?_, fun i hi => ?_, ?_, fun hf => ?_⟩
  · have hi : max s.fresh q ≤ i := hi
    show (if p ≤ i ∧ i < q then 1 else s.how i) = 0
    rw [if_neg (by omega)]
    exact a5 i (by omega)
  · have hi : i < max s.fresh q := hi
    show (if p ≤ i ∧ i < q then 1 else s.how i) = 1 ∨ (if p ≤ i ∧ i < q then 1 else s.how i) = 2 ∨ (if p ≤ i ∧ i < q then 1 else s.how i) = 3
    by_cases c : p ≤ i ∧ i < q
    · rw [if_pos c]; exact .inl rfl
    · rw [if_neg c]
      refine a6 i ?_
      by_cases c2 : s.fresh < q
      · have := (h5 c2).1; omega
      · omega
  · show (if _ then (if _ then 3 else 1) else s.fin) ≤ 3
    split
    · split <;> omega
    · exact a7
  · show s.last = true ∧ max s.fresh q = s.b.length
    have hf : (if s.last = true ∧ q = s.b.length then (if s.fin = 3 then 3 else 1) else s.fin) ≠ 0 := hf
    by_cases c : s.last = true ∧ q = s.b.length
    · exact ⟨c.1, by omega⟩
    · rw [if_neg c] at hf
      have := a8 hf
      exact ⟨this.1, by omega⟩
/-- Is a frame its? -/
def Mine (s : Snd) (p : Nat) (d : List By) (fin : Bool) : Prop :=
  p ≤ s.fresh ∧ d.length ≤ s.fresh - p ∧ d = cut s.b p (p + d.length) ∧ (fin = true → s.last = true ∧ s.fin ≠ 0 ∧ p + d.length = s.b.length)
instance (s : Snd) (p : Nat) (d : List By) (fin : Bool) : Decidable (Mine s p d fin) := by unfold Mine; infer_instance
def got (s : Snd) (p n : Nat) (fin : Bool) : Snd :=
  if s.reset = true then s else { s with how := fun i => if p ≤ i ∧ i < p + n then 3 else s.how i, fin := if fin = true then 3 else s.fin }
def lost (s : Snd) (p n : Nat) (fin : Bool) : Snd :=
  if s.reset = true then s else { s with how := fun i => if (p ≤ i ∧ i < p + n) ∧ s.how i ≠ 3 then 2 else s.how i, fin := if fin = true ∧ s.fin ≠ 3 then 2 else s.fin }
theorem got_fine {s : Snd} (hs : Fine s) {p : Nat} {d : List By} {fin : Bool} (h : Mine s p d fin) : Fine (got s p d.length fin) := by
  unfold got
  split
  · exact hs
  · obtain ⟨a1, a2, a3, a4, a5, a6, a7, a8⟩ := hs
    obtain ⟨h1, h2, _, h3⟩ := h
    refine ⟨a1, a2, a3, a4, fun i hi => ?_, fun i hi => ?_, ?_, fun hf => ?_⟩
    · have hi : s.fresh ≤ i := hi
      show (if _ then 3 else s.how i) = 0
      rw [if_neg (by omega)]
      exact a5 i hi
    · show (if p ≤ i ∧ i < p + d.length then 3 else s.how i) = 1 ∨ (if p ≤ i ∧ i < p + d.length then 3 else s.how i) = 2 ∨ (if p ≤ i ∧ i < p + d.length then 3 else s.how i) = 3
      split
      · exact .inr (.inr rfl)
      · exact a6 i hi
    · show (if _ then 3 else s.fin) ≤ 3
      split <;> omega
    · show s.last = true ∧ s.fresh = s.b.length
      have hf : (if fin = true then 3 else s.fin) ≠ 0 := hf
      by_cases c : fin = true
      · exact a8 (h3 c).2.1
      · rw [if_neg c] at hf; exact a8 hf
theorem lost_fine {s : Snd} (hs : Fine s) {p : Nat} {d : List By} {fin : Bool} (h : Mine s p d fin) : Fine (lost s p d.length fin) := by
  unfold lost
  split
  · exact hs
  · obtain ⟨a1, a2, a3, a4, a5, a6, a7, a8⟩ := hs
    obtain ⟨h1, h2, _, h3⟩ := h
    refine ⟨a1, a2, a3, a4, fun i hi => ?_, fun i hi => ?_, ?_, fun hf => ?_⟩
    · have hi : s.fresh ≤ i := hi
      show (if _ then 2 else s.how i) = 0
      rw [if_neg (by omega)]
      exact a5 i hi
    · show (if (p ≤ i ∧ i < p + d.length) ∧ s.how i ≠ 3 then 2 else s.how i) = 1 ∨ (if (p ≤ i ∧ i < p + d.length) ∧ s.how i ≠ 3 then 2 else s.how i) = 2 ∨ (if (p ≤ i ∧ i < p + d.length) ∧ s.how i ≠ 3 then 2 else s.how i) = 3
      split
      · exact .inr (.inl rfl)
      · exact a6 i hi
    · show (if _ then 2 else s.fin) ≤ 3
      split <;> omega
    · show s.last = true ∧ s.fresh = s.b.length
      have hf : (if fin = true ∧ s.fin ≠ 3 then 2 else s.fin) ≠ 0 := hf
      by_cases c : fin = true ∧ s.fin ≠ 3
      · exact a8 (h3 c.1).2.1
      · rw [if_neg c] at hf; exact a8 hf
def raise (s : Snd) (c : Nat) : Snd := if 4611686018427387903 < c then s else { s with credit := max s.credit c }
theorem raise_fine {s : Snd} (hs : Fine s) (c : Nat) : Fine (raise s c) := by
  unfold raise
  split
  · exact hs
  · obtain ⟨a1, a2, a3, a4, a5, a6, a7, a8⟩ := hs
    exact ⟨a1, by show max _ _ ≤ _; omega, a3, a4, a5, a6, a7, a8⟩
/-- Have all of the first k bytes come in there? -/
def allIn (h : Nat → Nat) : Nat → Bool
  | 0 => true
  | k + 1 => allIn h k && h k == 3
theorem allIn_iff (h : Nat → Nat) : ∀ k, allIn h k = true ↔ ∀ i, i < k → h i = 3
  | 0 => ⟨fun _ i hi => absurd hi (Nat.not_lt_zero _), fun _ => rfl⟩
  | k + 1 => by
    unfold allIn
    rw [Bool.and_eq_true, allIn_iff h k, beq_iff_eq]
    constructor
    · rintro ⟨h1, h2⟩ i hi
      by_cases e : i = k
      · rw [e]; exact h2
      · exact h1 i (by omega)
    · intro h1
      exact ⟨fun i hi => h1 i (by omega), h1 k (by omega)⟩
def done (s : Snd) : Bool := !s.reset && s.fin == 3 && allIn s.how s.b.length
def reset (s : Snd) : Snd := { s with reset := true }
theorem reset_fine {s : Snd} (hs : Fine s) : Fine (reset s) := by
  obtain ⟨a1, a2, a3, a4, a5, a6, a7, a8⟩ := hs
  exact ⟨a1, a2, a3, a4, a5, a6, a7, a8⟩
def resetE (s : Snd) : Nat := if s.reset = true ∨ done s = true then 9 else 0
end Go.Proofs.YtehadfidenejdaaGreatDoor.Sd
