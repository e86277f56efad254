/-
  Out of SrSnd, ShaPlain, ShaSched, ShaFurther, ShaPrimes, ShaPad, ShaChPlain, SnMem, ChaSl.
-/
import Derived.Test.YtehadfidenejdaaGreatDoorGp14
import Derived.Test.YtehadfidenejdaaGreatDoorGp8
import Derived.Test.YtehadfidenejdaaGreatDoorGp1
import Derived.Laws.AppendOwn
import Derived.Laws.AppendOwnNone
import Derived.OwnWalk
import Derived.RangeFuncBox
import Derived.Maps.AppendAt
import Derived.Below
import Derived.Lib.AppendZeros
import Derived.WalkKit
import Derived.WalkSpells
import Derived.WalkLawsBesides

/-! A sender whose places (its bytes, and its end behind them) are told as runs: of those that came, of those that are lost. Plainly. -/
namespace Go.Proofs.YtehadfidenejdaaGreatDoor.Sr
open Go Sd

/-- How a place stands: a byte's, or the end's behind the last one. -/
def hw (s : Snd) (x : Nat) : Nat := if x = s.b.length then s.fin else s.how x
/-- How many places were sent. -/
def sn (s : Snd) : Nat := if s.fin = 0 then s.fresh else s.b.length + 1
structure Rep (s : Snd) (C L : List Rn) : Prop where
  fine : Fine s
  cr : s.fresh ≤ s.credit
  cC : Canon C
  cL : Canon L
  hC : ∀ x, Has C x ↔ hw s x = 3
  hL : ∀ x, Has L x ↔ hw s x = 2
  rs : s.reset = true → done { s with reset := false } = false
theorem hw_byte {s : Snd} {x : Nat} (hx : x < s.b.length) : hw s x = s.how x := by unfold hw; rw [if_neg (by omega)]
theorem hw_end {s : Snd} : hw s s.b.length = s.fin := by unfold hw; rw [if_pos rfl]
theorem hw_top {s : Snd} (h : Fine s) {x : Nat} (hx : hw s x ≠ 0) : x < s.b.length + 1 ∧ x < sn s := by
  have := h.fr
  unfold hw at hx
  unfold sn
  by_cases c : x = s.b.length
  · rw [if_pos c] at hx
    rw [if_neg hx]; omega
  · rw [if_neg c] at hx
    have : x < s.fresh := by
      rcases Nat.lt_or_ge x s.fresh with h1 | h1
      · exact h1
      · exact absurd (h.off x h1) hx
    split <;> omega
theorem Rep.topC {s : Snd} {C L : List Rn} (h : Rep s C L) : (∀ r ∈ C, r.2 ≤ s.b.length + 1) ∧ C.length ≤ s.b.length + 1 :=
  canon_top h.cC fun x hx => (hw_top h.fine (by rw [(h.hC x).1 hx]; decide)).1
theorem Rep.topL {s : Snd} {C L : List Rn} (h : Rep s C L) : (∀ r ∈ L, r.2 ≤ s.b.length + 1) ∧ L.length ≤ s.b.length + 1 :=
  canon_top h.cL fun x hx => (hw_top h.fine (by rw [(h.hL x).1 hx]; decide)).1
theorem new_rep {id credit : Nat} (h1 : id ≤ 4611686018427387903) (h2 : credit ≤ 4611686018427387903) : Rep (new id credit) [] [] :=
  ⟨new_fine h1 h2, Nat.zero_le _, trivial, trivial, fun x => ⟨fun h => absurd h has_nil, fun h => by unfold hw new at h; simp at h⟩, fun x => ⟨fun h => absurd h has_nil, fun h => by unfold hw new at h; simp at h⟩, fun h => by cases h⟩
theorem write_rep {s : Snd} {C L : List Rn} (h : Rep s C L) (b : List By) (last : Bool) : Rep (write s b last) C L := by
  have hf := write_fine h.fine b last
  by_cases e : writeE s b.length = 0
  · obtain ⟨h1, h2, h3⟩ := writeE_zero e
    have hw' : write s b last = { s with b := s.b ++ b, last := last } := by unfold write; rw [if_pos e]
    have f0 : s.fin = 0 := by
      rcases Nat.eq_zero_or_pos s.fin with h | h4
      · exact h
      · have := (h.fine.ended (by omega)).1; rw [h1] at this; cases this
    have same : ∀ x, hw (write s b last) x = hw s x := by
      intro x
      rw [hw']
      unfold hw
      show (if x = (s.b ++ b).length then s.fin else s.how x) = _
      have := h.fine.fr
      by_cases c : x = s.b.length
      · rw [if_pos c]
        split
        · rfl
        · rw [h.fine.off x (by omega), f0]
      · rw [if_neg c]
        split
        · rename_i c2
          rw [List.length_append] at c2
          rw [h.fine.off x (by omega), f0]
        · rfl
    refine ⟨hf, by rw [hw']; exact h.cr, h.cC, h.cL, fun x => by rw [same]; exact h.hC x, fun x => by rw [same]; exact h.hL x, fun h5 => ?_⟩
    rw [hw'] at h5
    have h5 : s.reset = true := h5
    rw [h2] at h5; cases h5
  · have : write s b last = s := by unfold write; rw [if_neg e]
    rw [this]; exact h

/-- The program's own search: what is told next. -/
def bytesFrom (s : Snd) (from' count : Nat) : Rn :=
  if count = 0 then (0, 0) else if s.last = true ∧ min (from' + count) s.b.length = s.b.length then (from', s.b.length + 1) else (from', min (from' + count) s.b.length)
def next (s : Snd) (L : List Rn) (n fr : Nat) : Rn :=
  if (fst L).1 < min (fst L).2 s.b.length then bytesFrom s (fst L).1 (min n ((fst L).2 - (fst L).1))
  else if 0 < min (min (min n fr) (s.b.length - s.fresh)) (s.credit - s.fresh) then bytesFrom s s.fresh (min (min (min n fr) (s.b.length - s.fresh)) (s.credit - s.fresh))
  else if s.last = true ∧ (sn s = s.b.length ∨ fst L = (s.b.length, s.b.length + 1)) then (s.b.length, s.b.length + 1)
  else (0, 0)
/-- The places of what is told from one place to another. -/
def plc (s : Snd) (p q : Nat) : Rn := (p, if s.last = true ∧ q = s.b.length then s.b.length + 1 else q)
theorem bytesFrom_plc {s : Snd} {p c : Nat} (hc : 0 < c) : bytesFrom s p c = plc s p (min (p + c) s.b.length) := by
  unfold bytesFrom plc
  rw [if_neg (by omega)]
  split <;> rfl
theorem plc_lt {s : Snd} {p q : Nat} (h1 : p < q) (_ : q ≤ s.b.length) : p < (plc s p q).2 := by
  unfold plc
  show p < (if s.last = true ∧ q = s.b.length then s.b.length + 1 else q)
  split <;> omega
theorem fst_first {s : Snd} {C L : List Rn} (h : Rep s C L) :
    ((fst L).1 < min (fst L).2 s.b.length ↔ first s.how 0 s.fresh < s.fresh) ∧
    ((fst L).1 < min (fst L).2 s.b.length → (fst L).1 = first s.how 0 s.fresh ∧ ∀ k, 0 < k → min ((fst L).1 + min k ((fst L).2 - (fst L).1)) s.b.length = run s.how (first s.how 0 s.fresh) (min k (s.fresh - first s.how 0 s.fresh))) := by
  have hfr := h.fine.fr
  have hl := first_le s.how s.fresh 0
  by_cases e : L = []
  · subst e
    have hn : first s.how 0 s.fresh = s.fresh := first_is (Nat.zero_le _) (by omega) (fun j _ hj hc => has_nil ((h.hL j).2 (by rw [hw_byte (by omega)]; exact hc))) (fun h1 => by omega)
    rw [hn]
    show ((0 : Nat) < min 0 _ ↔ _) ∧ ((0 : Nat) < min 0 _ → _)
    exact ⟨by omega, fun h1 => by omega⟩
  · obtain ⟨h1, h2, h3, h4⟩ := fst_laws h.cL e
    have hp := h3 (fst L).1 (Nat.le_refl _) h1
    have hp2 := (h.hL _).1 hp
    have htop := (hw_top h.fine (x := (fst L).1) (by rw [hp2]; decide)).1
    have hno : ∀ x, x < (fst L).1 → x < s.b.length → s.how x ≠ 2 := fun x hx hb hc => h2 x hx ((h.hL x).2 (by rw [hw_byte hb]; exact hc))
    by_cases c : (fst L).1 < s.b.length
    · have hp3 : s.how (fst L).1 = 2 := by rw [← hw_byte c]; exact hp2
      have hpf : (fst L).1 < s.fresh := by
        rcases Nat.lt_or_ge (fst L).1 s.fresh with h5 | h5
        · exact h5
        · rw [h.fine.off _ h5] at hp3; cases hp3
      have ef : first s.how 0 s.fresh = (fst L).1 := first_is (Nat.zero_le _) (by omega) (fun j _ hj => hno j hj (by omega)) (fun _ => hp3)
      rw [ef]
      refine ⟨⟨fun _ => hpf, fun _ => by omega⟩, fun _ => ⟨rfl, fun k hk => ?_⟩⟩
      refine (run_is (by omega) ?_ ?_ ?_).symm
      · have : ∀ x, x < (fst L).2 → (fst L).1 ≤ x → x < s.b.length → x < s.fresh := fun x hx h5 h6 => by
          rcases Nat.lt_or_ge x s.fresh with h7 | h7
          · exact h7
          · have h8 := (h.hL x).1 (h3 x h5 hx)
            rw [hw_byte h6, h.fine.off x h7] at h8; cases h8
        have h9 := this (min (fst L).2 s.b.length - 1) (by omega) (by omega) (by omega)
        omega
      · intro j h5 h6
        have h7 := (h.hL j).1 (h3 j h5 (by omega))
        rwa [hw_byte (by omega)] at h7
      · intro h5 h6
        have h7 : min ((fst L).1 + min k ((fst L).2 - (fst L).1)) s.b.length = (fst L).2 := by omega
        rw [h7] at h6 h5
        refine h4 ((h.hL _).2 ?_)
        rw [hw_byte (by omega)]; exact h6
    · have hn : first s.how 0 s.fresh = s.fresh := first_is (Nat.zero_le _) (by omega) (fun j _ hj => hno j (by omega) (by omega)) (fun h5 => by omega)
      rw [hn]
      exact ⟨by omega, fun h5 => by omega⟩
/-- The program's search finds the span. -/
theorem next_span {s : Snd} {C L : List Rn} (h : Rep s C L) (hr : s.reset = false) {n : Nat} (fr : Nat) :
    (span s n fr = none → next s L n fr = (0, 0)) ∧ (∀ p q, span s n fr = some (p, q) → next s L n fr = plc s p q ∧ p < (plc s p q).2) := by
  obtain ⟨f1, f2⟩ := fst_first h
  have hfr := h.fine.fr
  have hm : more s n fr = min (min (min n fr) (s.b.length - s.fresh)) (s.credit - s.fresh) := by unfold more; omega
  unfold next span
  rw [if_neg (by rw [hr]; simp), ← hm]
  by_cases c1 : (fst L).1 < min (fst L).2 s.b.length
  · rw [if_pos c1]
    have c2 := f1.1 c1
    obtain ⟨e1, e2⟩ := f2 c1
    rcases Nat.eq_zero_or_pos n with h0 | h0
    · subst h0
      have : ¬ (0 < ((0 : Nat) : Int) ∧ first s.how 0 s.fresh < s.fresh) := by omega
      rw [if_neg this, if_neg (by rw [hm]; omega), if_neg (by rintro ⟨_, _, h, _⟩; exact h c2)]
      refine ⟨fun _ => by unfold bytesFrom; rw [if_pos (by omega)], fun p q h => by cases h⟩
    · rw [if_pos ⟨by omega, c2⟩]
      refine ⟨fun h => (by cases h), fun p q hpq => ?_⟩
      simp only [Option.some.injEq, Prod.mk.injEq] at hpq
      obtain ⟨rfl, rfl⟩ := hpq
      have e3 := e2 n h0
      have hnn : ((n : Int)).toNat = n := by omega
      rw [hnn, bytesFrom_plc (by omega), e3, e1]
      exact ⟨rfl, plc_lt (by omega) (by omega)⟩
  · rw [if_neg c1, if_neg (by rintro ⟨_, h⟩; exact c1 (f1.2 h))]
    by_cases c2 : 0 < more s n fr
    · rw [if_pos c2, if_pos c2]
      refine ⟨fun h => (by cases h), fun p q hpq => ?_⟩
      simp only [Option.some.injEq, Prod.mk.injEq] at hpq
      obtain ⟨rfl, rfl⟩ := hpq
      rw [bytesFrom_plc c2, show min (s.fresh + more s n fr) s.b.length = s.fresh + more s n fr by omega]
      exact ⟨rfl, plc_lt (by omega) (by omega)⟩
    · rw [if_neg c2, if_neg c2]
      have hfin := h.fine.fin
      have key : (s.last = true ∧ (sn s = s.b.length ∨ fst L = (s.b.length, s.b.length + 1))) ↔ (s.last = true ∧ s.fresh = s.b.length ∧ ¬ first s.how 0 s.fresh < s.fresh ∧ (s.fin = 0 ∨ s.fin = 2)) := by
        refine and_congr_right fun _ => ?_
        rw [← f1]
        constructor
        · rintro (h1 | h1)
          · unfold sn at h1
            split at h1
            · exact ⟨h1, c1, .inl (by assumption)⟩
            · omega
          · have hne : L ≠ [] := by rintro rfl; have : ((0 : Nat), (0 : Nat)) = _ := h1; simp at this
            obtain ⟨h2, _, h3, _⟩ := fst_laws h.cL hne
            have h4 := (h.hL _).1 (h3 s.b.length (by rw [h1]; exact Nat.le_refl _) (by rw [h1]; exact Nat.lt_succ_self _))
            rw [hw_end] at h4
            exact ⟨(h.fine.ended (by omega)).2, c1, .inr h4⟩
        · rintro ⟨h1, _, h2 | h2⟩
          · left; unfold sn; rw [if_pos h2]; exact h1
          · right
            have hh : Has L s.b.length := (h.hL _).2 (by rw [hw_end]; exact h2)
            have hne : L ≠ [] := by rintro rfl; exact has_nil hh
            obtain ⟨h3, h4, h5, h6⟩ := fst_laws h.cL hne
            have h7 : ¬ s.b.length < (fst L).1 := fun h8 => h4 _ h8 hh
            have h9 := (hw_top h.fine (x := (fst L).2 - 1) (by rw [(h.hL _).1 (h5 ((fst L).2 - 1) (by omega) (by omega))]; decide)).1
            have h10 : (fst L).1 = s.b.length := by
              rcases Nat.lt_or_ge (fst L).1 s.b.length with h | h
              · exact absurd (show (fst L).1 < min (fst L).2 s.b.length by omega) c1
              · omega
            refine Prod.ext h10 ?_
            show (fst L).2 = s.b.length + 1
            omega
      by_cases c3 : s.last = true ∧ (sn s = s.b.length ∨ fst L = (s.b.length, s.b.length + 1))
      · rw [if_pos c3, if_pos (key.1 c3)]
        refine ⟨fun h => (by cases h), fun p q hpq => ?_⟩
        simp only [Option.some.injEq, Prod.mk.injEq] at hpq
        obtain ⟨rfl, rfl⟩ := hpq
        unfold plc
        rw [if_pos ⟨c3.1, rfl⟩]
        exact ⟨rfl, Nat.lt_succ_self _⟩
      · rw [if_neg c3, if_neg (fun h => c3 (key.2 h))]
        exact ⟨fun _ => rfl, fun p q h => (by cases h)⟩
/-- What is told is sent, and not lost. -/
theorem tell_rep {s : Snd} {C L : List Rn} (h : Rep s C L) {n : Int} {fr p q : Nat} (sp : Spans s n fr p q) :
    Rep (tell s p q) C (cut L (plc s p q)) ∧ sn (tell s p q) = max (sn s) (plc s p q).2 := by
  have hf := tell_fine h.fine sp
  have hle := sp.le
  have htop := sp.top
  have hfr := h.fine.fr
  have hend := h.fine.ended
  have hfin := h.fine.fin
  have hp2 : (plc s p q).2 = if s.last = true ∧ q = s.b.length then s.b.length + 1 else q := rfl
  obtain ⟨c1, c2⟩ := cut_laws h.cL (r := plc s p q) (by show p ≤ _; rw [hp2]; split <;> omega)
  have hq : ∀ x, (p ≤ x ∧ x < (plc s p q).2) ↔ (p ≤ x ∧ x < q) ∨ (s.last = true ∧ q = s.b.length ∧ x = s.b.length) := by
    intro x
    rw [hp2]
    split
    · rename_i c
      constructor
      · intro h1
        by_cases e : x = s.b.length
        · exact .inr ⟨c.1, c.2, e⟩
        · exact .inl (by omega)
      · rintro (h1 | h1)
        · omega
        · omega
    · rename_i c
      constructor
      · exact .inl
      · rintro (h1 | ⟨h1, h2, _⟩)
        · exact h1
        · exact absurd ⟨h1, h2⟩ c
  have hwt : ∀ x, hw (tell s p q) x = if p ≤ x ∧ x < (plc s p q).2 then (if hw s x = 3 then 3 else 1) else hw s x := by
    intro x
    unfold hw
    show (if x = s.b.length then (if s.last = true ∧ q = s.b.length then (if s.fin = 3 then 3 else 1) else s.fin) else (if p ≤ x ∧ x < q then 1 else s.how x)) = _
    by_cases e : x = s.b.length
    · rw [if_pos e, if_pos e]
      by_cases c : s.last = true ∧ q = s.b.length
      · rw [if_pos c, if_pos ((hq x).2 (.inr ⟨c.1, c.2, e⟩))]
      · rw [if_neg c, if_neg (fun h1 => by
          rcases (hq x).1 h1 with h2 | h2
          · omega
          · exact c ⟨h2.1, h2.2.1⟩)]
    · rw [if_neg e, if_neg e]
      by_cases c : p ≤ x ∧ x < q
      · rw [if_pos c, if_pos ((hq x).2 (.inl c)), if_neg (by rcases sp.how x c.1 c.2 with h | h <;> rw [h] <;> decide)]
      · rw [if_neg c, if_neg (fun h1 => by
          rcases (hq x).1 h1 with h2 | h2
          · exact c h2
          · exact e h2.2.2)]
  refine ⟨⟨hf, ?_, h.cC, c1, fun x => ?_, fun x => ?_, fun h1 => ?_⟩, ?_⟩
  · show max s.fresh q ≤ s.credit
    have := h.cr
    by_cases c : s.fresh < q
    · have := (sp.new c).2.2; omega
    · omega
  · rw [h.hC, hwt]
    split
    · split
      · simp [*]
      · simp [*]
    · rfl
  · rw [c2, h.hL, hwt]
    show _ ∧ ¬ (p ≤ x ∧ x < (plc s p q).2) ↔ _
    split
    · rename_i c
      constructor
      · intro h1; exact absurd c h1.2
      · intro h1; split at h1 <;> cases h1
    · rename_i c
      exact ⟨fun h1 => h1.1, fun h1 => ⟨h1, c⟩⟩
  · have h1 : s.reset = true := h1
    rw [sp.live] at h1; cases h1
  · unfold sn
    rw [hp2]
    show (if (if s.last = true ∧ q = s.b.length then (if s.fin = 3 then 3 else 1) else s.fin) = 0 then max s.fresh q else s.b.length + 1) = _
    by_cases c : s.last = true ∧ q = s.b.length
    · rw [if_pos c, if_pos c, if_neg (by split <;> decide)]
      split <;> omega
    · rw [if_neg c, if_neg c]
      split <;> omega
/-- The places of a frame. -/
def plF (p n : Nat) (fin : Bool) : Rn := (p, if fin = true then p + n + 1 else p + n)
theorem got_rep {s : Snd} {C L : List Rn} (h : Rep s C L) (hr : s.reset = false) {p : Nat} {d : List By} {fin : Bool} (hm : Mine s p d fin) :
    Rep (got s p d.length fin) (add C (plF p d.length fin)) (cut L (plF p d.length fin)) ∧ sn (got s p d.length fin) = sn s := by
  have hf := got_fine h.fine hm
  have hg : got s p d.length fin = { s with how := fun i => if p ≤ i ∧ i < p + d.length then 3 else s.how i, fin := if fin = true then 3 else s.fin } := by
    unfold got; rw [if_neg (by rw [hr]; simp)]
  obtain ⟨m1, m2, m3, m4⟩ := hm
  have hp1 : (plF p d.length fin).1 = p := rfl
  have hp2 : (plF p d.length fin).2 = if fin = true then p + d.length + 1 else p + d.length := rfl
  have hle : (plF p d.length fin).1 ≤ (plF p d.length fin).2 := by rw [hp1, hp2]; split <;> omega
  have hfr := h.fine.fr
  obtain ⟨a1, a2⟩ := add_laws h.cC hle
  obtain ⟨c1, c2⟩ := cut_laws h.cL hle
  rw [hp1] at a2 c2
  have hwt : ∀ x, hw (got s p d.length fin) x = if p ≤ x ∧ x < (plF p d.length fin).2 then 3 else hw s x := by
    intro x
    rw [hg, hp2]
    unfold hw
    show (if x = s.b.length then (if fin = true then 3 else s.fin) else (if p ≤ x ∧ x < p + d.length then 3 else s.how x)) = _
    by_cases e : fin = true
    · have := (m4 e).2.2
      rw [if_pos e, if_pos e]
      by_cases e2 : x = s.b.length
      · rw [if_pos e2, if_pos (by omega)]
      · rw [if_neg e2, if_neg e2]
        by_cases c : p ≤ x ∧ x < p + d.length
        · rw [if_pos c, if_pos (by omega)]
        · rw [if_neg c, if_neg (by omega)]
    · rw [if_neg e, if_neg e]
      by_cases e2 : x = s.b.length
      · rw [if_pos e2, if_pos e2, if_neg (by omega)]
      · rw [if_neg e2, if_neg e2]
  refine ⟨⟨hf, by rw [hg]; exact h.cr, a1, c1, fun x => ?_, fun x => ?_, fun h1 => ?_⟩, ?_⟩
  · rw [a2, h.hC, hwt]
    split
    · rename_i c
      exact ⟨fun _ => rfl, fun _ => .inr c⟩
    · rename_i c
      exact ⟨fun h1 => h1.elim id (fun h2 => absurd h2 c), .inl⟩
  · rw [c2, h.hL, hwt]
    split
    · rename_i c
      constructor
      · intro h1; exact absurd c h1.2
      · intro h1; cases h1
    · rename_i c
      exact ⟨fun h1 => h1.1, fun h1 => ⟨h1, c⟩⟩
  · rw [hg] at h1
    have h1 : s.reset = true := h1
    rw [hr] at h1; cases h1
  · rw [hg]
    unfold sn
    show (if (if fin = true then 3 else s.fin) = 0 then s.fresh else s.b.length + 1) = _
    by_cases e : fin = true
    · rw [if_pos e, if_neg (by decide), if_neg (m4 e).2.1]
    · rw [if_neg e]
theorem lost_rep {s : Snd} {C L : List Rn} (h : Rep s C L) (hr : s.reset = false) {p : Nat} {d : List By} {fin : Bool} (hm : Mine s p d fin) :
    Rep (lost s p d.length fin) C (each add L (missing C (plF p d.length fin))) ∧ sn (lost s p d.length fin) = sn s := by
  have hf := lost_fine h.fine hm
  have hg : lost s p d.length fin = { s with how := fun i => if (p ≤ i ∧ i < p + d.length) ∧ s.how i ≠ 3 then 2 else s.how i, fin := if fin = true ∧ s.fin ≠ 3 then 2 else s.fin } := by
    unfold lost; rw [if_neg (by rw [hr]; simp)]
  obtain ⟨m1, m2, m3, m4⟩ := hm
  have hp1 : (plF p d.length fin).1 = p := rfl
  have hp2 : (plF p d.length fin).2 = if fin = true then p + d.length + 1 else p + d.length := rfl
  have hle : (plF p d.length fin).1 ≤ (plF p d.length fin).2 := by rw [hp1, hp2]; split <;> omega
  have hfr := h.fine.fr
  obtain ⟨a1, a2⟩ := missing_laws h.cC hle
  rw [hp1] at a2
  obtain ⟨c1, c2⟩ := each_add h.cL (fun r hr => Nat.le_of_lt (a1.pos r hr))
  have hwt : ∀ x, hw (lost s p d.length fin) x = if (p ≤ x ∧ x < (plF p d.length fin).2) ∧ hw s x ≠ 3 then 2 else hw s x := by
    intro x
    rw [hg, hp2]
    unfold hw
    show (if x = s.b.length then (if fin = true ∧ s.fin ≠ 3 then 2 else s.fin) else (if (p ≤ x ∧ x < p + d.length) ∧ s.how x ≠ 3 then 2 else s.how x)) = _
    by_cases e : fin = true
    · have := (m4 e).2.2
      rw [if_pos e]
      by_cases e2 : x = s.b.length
      · rw [if_pos e2, if_pos e2]
        by_cases c : s.fin = 3
        · rw [if_neg (by rintro ⟨_, h⟩; exact h c), if_neg (by rintro ⟨_, h⟩; exact h c)]
        · rw [if_pos ⟨e, c⟩, if_pos ⟨by omega, c⟩]
      · rw [if_neg e2, if_neg e2]
        by_cases c : (p ≤ x ∧ x < p + d.length) ∧ s.how x ≠ 3
        · rw [if_pos c, if_pos ⟨by omega, c.2⟩]
        · rw [if_neg c, if_neg (fun h => c ⟨by omega, h.2⟩)]
    · rw [if_neg e]
      by_cases e2 : x = s.b.length
      · rw [if_pos e2, if_pos e2, if_neg (fun h => e h.1), if_neg (fun h => by omega)]
      · rw [if_neg e2, if_neg e2]
  refine ⟨⟨hf, by rw [hg]; exact h.cr, h.cC, c1, fun x => ?_, fun x => ?_, fun h1 => ?_⟩, ?_⟩
  · rw [h.hC, hwt]
    split
    · rename_i c
      exact ⟨fun h1 => absurd h1 c.2, fun h1 => by cases h1⟩
    · rfl
  · rw [c2, a2, h.hL, h.hC, hwt]
    split
    · rename_i c
      exact ⟨fun _ => rfl, fun _ => .inr c⟩
    · rename_i c
      exact ⟨fun h1 => h1.elim id (fun h2 => absurd h2 c), .inl⟩
  · rw [hg] at h1
    have h1 : s.reset = true := h1
    rw [hr] at h1; cases h1
  · rw [hg]
    unfold sn
    show (if (if fin = true ∧ s.fin ≠ 3 then 2 else s.fin) = 0 then s.fresh else s.b.length + 1) = _
    by_cases e : fin = true ∧ s.fin ≠ 3
    · rw [if_pos e, if_neg (by decide), if_neg (m4 e.1).2.1]
    · rw [if_neg e]
theorem raise_rep {s : Snd} {C L : List Rn} (h : Rep s C L) (c : Nat) : Rep (raise s c) C L := by
  have hf := raise_fine h.fine c
  unfold raise at hf ⊢
  split
  · exact h
  · rename_i e
    rw [if_neg e] at hf
    exact ⟨hf, Nat.le_trans h.cr (Nat.le_max_left _ _), h.cC, h.cL, h.hC, h.hL, h.rs⟩
theorem reset_rep {s : Snd} {C L : List Rn} (h : Rep s C L) (he : resetE s = 0) : Rep (reset s) C L := by
  have hn : ¬ (s.reset = true ∨ done s = true) := fun c => by unfold resetE at he; rw [if_pos c] at he; cases he
  simp only [not_or, Bool.not_eq_true] at hn
  refine ⟨reset_fine h.fine, h.cr, h.cC, h.cL, h.hC, h.hL, fun _ => ?_⟩
  have : ({ reset s with reset := false } : Snd) = s := by
    unfold Sd.reset
    cases s
    simp at hn ⊢
    exact hn.1
  rw [this]; exact hn.2
/-- Did all come in there: the first run of what came is all there is. -/
theorem done_rep {s : Snd} {C L : List Rn} (h : Rep s C L) : done s = decide (fst C = (0, s.b.length + 1)) := by
  have key : fst C = (0, s.b.length + 1) ↔ s.fin = 3 ∧ ∀ i, i < s.b.length → s.how i = 3 := by
    constructor
    · intro e
      have hne : C ≠ [] := by rintro rfl; have : ((0 : Nat), (0 : Nat)) = _ := e; simp at this
      obtain ⟨_, _, h3, _⟩ := fst_laws h.cC hne
      rw [e] at h3
      have h4 : ∀ x, x < s.b.length + 1 → hw s x = 3 := fun x hx => (h.hC x).1 (h3 x (Nat.zero_le _) hx)
      refine ⟨by rw [← hw_end]; exact h4 _ (by omega), fun i hi => by rw [← hw_byte hi]; exact h4 i (by omega)⟩
    · rintro ⟨h1, h2⟩
      have hall : ∀ x, x < s.b.length + 1 → Has C x := fun x hx => (h.hC x).2 (by
        by_cases c : x = s.b.length
        · rw [c, hw_end]; exact h1
        · rw [hw_byte (by omega)]; exact h2 x (by omega))
      have hne : C ≠ [] := by rintro rfl; exact has_nil (hall 0 (by omega))
      obtain ⟨h3, h4, h5, h6⟩ := fst_laws h.cC hne
      have h7 := h.topC.1 (fst C) (by cases C with | nil => exact absurd rfl hne | cons a l => exact List.mem_cons_self ..)
      have h8 : ¬ 0 < (fst C).1 := fun h9 => h4 0 h9 (hall 0 (by omega))
      have h9 : ¬ (fst C).2 < s.b.length + 1 := fun h10 => h6 (hall _ h10)
      exact Prod.ext (by show (fst C).1 = 0; omega) (by show (fst C).2 = s.b.length + 1; omega)
  have hd : done { s with reset := false } = decide (fst C = (0, s.b.length + 1)) := by
    rw [Bool.eq_iff_iff, decide_eq_true_eq, key]
    unfold done
    simp only [Bool.not_false, Bool.true_and, Bool.and_eq_true, beq_iff_eq]
    rw [allIn_iff]
  rw [← hd]
  cases e : s.reset with
  | false => congr 1; cases s; simp at e; simp [e]
  | true =>
    rw [h.rs e]
    unfold done
    rw [e]; rfl
end Go.Proofs.YtehadfidenejdaaGreatDoor.Sr

/-! SHA-256 on lists of words and bytes: no program in sight. -/
namespace Go.Proofs.YtehadfidenejdaaGreatDoor
open Go

/-- The bits of f where e's are set, else those of g; those that at least two of a, b, c have. -/
def ch (e f g : Wd) : Wd := xr (an e f) (an (nt e) g)
def maj (a b c : Wd) : Wd := xr (xr (an a b) (an a c)) (an b c)
/-- Three taken against one another. -/
def S1 (e : Wd) : Wd := xr (xr (rr e 6) (rr e 11)) (rr e 25)
def S0 (a : Wd) : Wd := xr (xr (rr a 2) (rr a 13)) (rr a 22)
def s1 (x : Wd) : Wd := xr (xr (rr x 17) (rr x 19)) (sr x 10)
def s0 (y : Wd) : Wd := xr (xr (rr y 7) (rr y 18)) (sr y 3)
def T1 (e f g h kw : Wd) : Wd := ad (ad (ad h (S1 e)) (ch e f g)) kw
def T2 (a b c : Wd) : Wd := ad (S0 a) (maj a b c)
end Go.Proofs.YtehadfidenejdaaGreatDoor

/-! The words of a block, on lists: no program in sight. -/
namespace Go.Proofs.YtehadfidenejdaaGreatDoor
open Go

/-- A byte as a word. -/
def ex (b : By) : Wd := b.setWidth 32
/-- The word that bytes make, the highest first. -/
def wordUp (l : List By) : Wd := l.foldl (fun w c => oo (sl w 8) (ex c)) 0
/-- The words when i bytes have come. -/
def parts (b : List By) (i : Nat) : List Wd := (List.range 64).map fun q => wordUp ((b.drop (4 * q)).take (min 4 (i - 4 * q)))
end Go.Proofs.YtehadfidenejdaaGreatDoor

/-! A state, a block further, on lists: no program in sight. -/
namespace Go.Proofs.YtehadfidenejdaaGreatDoor
open Go

end Go.Proofs.YtehadfidenejdaaGreatDoor

/-! The first 64 primes, their roots, and how they are found: no program in sight. -/
namespace Go.Proofs.YtehadfidenejdaaGreatDoor
open Go

end Go.Proofs.YtehadfidenejdaaGreatDoor

/-! The blocks of bytes, on lists: no program in sight. -/
namespace Go.Proofs.YtehadfidenejdaaGreatDoor
open Go

/-- How many bytes 00 stand behind the byte 80. -/
def padZ (n : Nat) : Nat := (119 - n % 64) % 64
/-- How many blocks. -/
def nb (b : List By) : Nat := (b.length + padZ b.length + 9) / 64
end Go.Proofs.YtehadfidenejdaaGreatDoor

/-! Bytes appended to a row of the call's own. -/
namespace Go.Proofs.YtehadfidenejdaaGreatDoor
open Go Go.RowKit

/-- The cells of bytes, as a list. -/
def vb (b : List By) : List Value := b.map fun c => .int .u8 (v8 c)
theorem vb_length (b : List By) : (vb b).length = b.length := by simp [vb]
theorem vb_append (a b : List By) : vb (a ++ b) = vb a ++ vb b := by simp [vb]
theorem vb_get (b : List By) (j : Nat) (h : j < b.length) : (vb b)[j]? = some (.int .u8 (v8 (gb b j))) := by
  unfold vb gb
  rw [List.getElem?_map, List.getElem?_eq_getElem h]
  rfl
theorem vb_get' (b : List By) (j : Nat) (u : Value) (h : (vb b)[j]? = some u) : j < b.length ∧ u = .int .u8 (v8 (gb b j)) := by
  have hj : j < b.length := by
    rcases Nat.lt_or_ge j b.length with h1 | h1
    · exact h1
    · rw [List.getElem?_eq_none (by rw [vb_length]; exact h1)] at h; cases h
  rw [vb_get b j hj] at h
  exact ⟨hj, (Option.some.inj h).symm⟩
theorem vb_one (b : List By) : ∀ u ∈ vb b, u.oneCell' = true := by
  intro u hu
  unfold vb at hu
  obtain ⟨c, _, rfl⟩ := List.mem_map.1 hu
  rfl
/-- A row of the call's own, at least one byte. -/
structure OwnB (w : World) (base g n cap : Nat) (b : List By) : Prop where
  len : b.length = n
  row : w.ownsRow base 5 1 (.slice (some ⟨g, 0, none⟩) n cap) n (vb b)
theorem add_off (g j : Nat) : (⟨g, 0, none⟩ : Addr).add j = ⟨g, j, none⟩ := by
  unfold Addr.add
  split
  · rename_i h; rw [h]
  · simp
theorem OwnB.cell {w : World} {base g n cap : Nat} {b : List By} (h : OwnB w base g n cap b) {j : Nat} (hj : j < n) : w.cell? ⟨g, j, none⟩ = some (.int .u8 (v8 (gb b j))) := by
  have := h.row.cells (g := g) rfl j _ (vb_get b j (by rw [h.len]; exact hj))
  rw [add_off] at this
  exact this
theorem OwnB.lt {w : World} {base g n cap : Nat} {b : List By} (h : OwnB w base g n cap b) : base ≤ g ∧ g < w.heap.size := h.row.lt g rfl
theorem OwnB.same {w w' : World} {base g n cap : Nat} {b : List By} (h : OwnB w base g n cap b) (hh : w'.heap[g]? = w.heap[g]?) : OwnB w' base g n cap b := ⟨h.len, by
  obtain ⟨h1, h2⟩ := h.row
  refine ⟨h1, ?_⟩
  rcases h2 with ⟨h3, h4⟩ | ⟨g', c', cur, h3, h4, h5, h6⟩
  · exact .inl ⟨h3, h4⟩
  · refine .inr ⟨g', c', cur, h3, h4, ?_, h6⟩
    rw [← h5]
    have e : g' = g := by injection h3 with e1; injection e1 with e2; injection e2 with e3; exact e3.symm
    subst e
    exact hh⟩
theorem OwnB.below {w w' : World} {base g n cap : Nat} {b : List By} (h : OwnB w base g n cap b) (hb : Below w.heap.size w w') : OwnB w' base g n cap b := by
  have hg := h.lt.2
  obtain ⟨_, _, _, _, hh⟩ := hb
  exact h.same (hh g hg)
theorem OwnB.other {w : World} {base g n cap : Nat} {b : List By} (h : OwnB w base g n cap b) {g' : Nat} (hg : g ≠ g') (j : Nat) (v : Value) : OwnB (w.setCell ⟨g', j, none⟩ v) base g n cap b :=
  h.same (Below.heap_setCell _ _ _ g hg)
section
variable {P : Program} {ops : Array Oper} {rest : List Oper} {o : Oper} {a : Act} {w : World} {Q : Exit → Act → World → Prop}
end
end Go.Proofs.YtehadfidenejdaaGreatDoor

/-! A sender of the program in memory. -/
namespace Go.Proofs.YtehadfidenejdaaGreatDoor
open Go Go.RowKit

namespace Sr
open Sd
def snC (wr cm ls : Value) (s : Snd) : Array Value :=
  #[.bool true, .int .u64 (s.id : Int), .int .u64 (s.credit : Int), wr, .bool s.last, .int .u64 (sn s : Int), cm, ls, .bool s.reset]
structure SnOk (w : World) (g : Nat) (wr cm ls : Value) (s : Snd) (C L : List Rn) : Prop where
  row : Row w g 72 (snC wr cm ls s)
  wrow : RowO w 5 1 wr s.b.length (vb s.b)
  crow : RowO w 77 2 cm C.length (vr C)
  lrow : RowO w 77 2 ls L.length (vr L)
  cl : ∀ k, cm.ownBlock = some k → ls.ownBlock ≠ some k
  rep : Rep s C L
/-- A block's type. -/
def Ty (W : World) (b : Nat) (T : TypeId) : Prop := ∃ cur, W.heap[b]? = some (.cells cur T (0, 0))
theorem Ty.ne {W : World} {b b' : Nat} {T T' : TypeId} (h : Ty W b T) (h' : Ty W b' T') (n : T ≠ T') : b ≠ b' := by
  intro e
  subst e
  obtain ⟨c, h⟩ := h
  obtain ⟨c', h'⟩ := h'
  have := h.symm.trans h'
  injection this with this
  injection this with _ this
  exact n this
theorem Ty.row {w : World} {n z : Nat} {e : TypeId} {v : Value} {xs : List Value} (h : RowO w e z v n xs) {k : Nat} (hk : v.ownBlock = some k) : Ty w k e := by
  rcases h.2 with ⟨rfl, _⟩ | ⟨g, o, c, cur, rfl, h5, _⟩
  · cases hk
  · injection hk with hk
    subst hk
    exact ⟨cur, h5⟩
/-- The blocks of a sender. -/
def OwnS (g : Nat) (wr cm ls : Value) (k : Nat) : Prop := k = g ∨ wr.ownBlock = some k ∨ cm.ownBlock = some k ∨ ls.ownBlock = some k
theorem SnOk.lt {w : World} {g : Nat} {wr cm ls : Value} {s : Snd} {C L : List Rn} (h : SnOk w g wr cm ls s C L) : ∀ k, OwnS g wr cm ls k → k < w.heap.size := by
  rintro k (rfl | e | e | e)
  · exact h.row.lt
  · exact h.wrow.lt k e
  · exact h.crow.lt k e
  · exact h.lrow.lt k e
theorem SnOk.same {w w' : World} {g : Nat} {wr cm ls : Value} {s : Snd} {C L : List Rn} (h : SnOk w g wr cm ls s C L) (hk : ∀ k, OwnS g wr cm ls k → w'.heap[k]? = w.heap[k]?) : SnOk w' g wr cm ls s C L :=
  ⟨(hk g (.inl rfl)).trans h.row, h.wrow.same (fun k e => hk k (.inr (.inl e))), h.crow.same (fun k e => hk k (.inr (.inr (.inl e)))), h.lrow.same (fun k e => hk k (.inr (.inr (.inr e)))), h.cl, h.rep⟩
theorem SnOk.below {w w' : World} {g : Nat} {wr cm ls : Value} {s : Snd} {C L : List Rn} (h : SnOk w g wr cm ls s C L) (hb : Below w.heap.size w w') : SnOk w' g wr cm ls s C L :=
  h.same (fun k e => hb.block k (h.lt k e))
section
variable {w : World} {g : Nat} {wr cm ls : Value} {s : Snd} {C L : List Rn}
theorem SnOk.tw (h : SnOk w g wr cm ls s C L) {k : Nat} (e : wr.ownBlock = some k) : Ty w k 5 := Ty.row h.wrow e
theorem SnOk.tc (h : SnOk w g wr cm ls s C L) {k : Nat} (e : cm.ownBlock = some k) : Ty w k 77 := Ty.row h.crow e
theorem SnOk.tl (h : SnOk w g wr cm ls s C L) {k : Nat} (e : ls.ownBlock = some k) : Ty w k 77 := Ty.row h.lrow e
theorem SnOk.tg (h : SnOk w g wr cm ls s C L) : Ty w g 72 := ⟨_, h.row⟩
/-- A sender as it stands, and which blocks are its. -/
def SnS (w : World) (g : Nat) (s : Snd) (own : Nat → Prop) : Prop := ∃ wr cm ls C L, SnOk w g wr cm ls s C L ∧ (∀ k, OwnS g wr cm ls k → own k) ∧ (∀ k, own k → k < w.heap.size)
/-- What a call leaves: which blocks it may write, and which are the sender's then. -/
def After (own : Nat → Prop) (w w' : World) (own' : Nat → Prop) : Prop := KeepP own w w' ∧ ∀ k, own' k → own k ∨ w.heap.size ≤ k
theorem SnS.below {w w' : World} {own : Nat → Prop} (h : SnS w g s own) (hb : Below w.heap.size w w') : SnS w' g s own := by
  obtain ⟨wr, cm, ls, C, L, h1, h2, h3⟩ := h
  exact ⟨wr, cm, ls, C, L, h1.below hb, h2, fun k e => Nat.lt_of_lt_of_le (h3 k e) hb.size⟩
theorem SnS.keep {w w' : World} {own st : Nat → Prop} (h : SnS w g s own) (hk : KeepP st w w') (hs : ∀ k, own k → ¬ st k) : SnS w' g s own := by
  obtain ⟨wr, cm, ls, C, L, h1, h2, h3⟩ := h
  exact ⟨wr, cm, ls, C, L, h1.same (fun k e => hk.block k (h1.lt k e) (hs k (h2 k e))), h2, fun k e => Nat.lt_of_lt_of_le (h3 k e) hk.size⟩
theorem After.same {own : Nat → Prop} {w w' : World} (hb : Below w.heap.size w w') : After own w w' own := ⟨KeepP.of_below hb, fun _ h => .inl h⟩

theorem field_two (x y : Int) (W : World) : (Instr.field 77 (.agg #[.int .u64 x, .int .u64 y]) 1).run Tryz.prog W = .ok (.int .u64 y) W := by kernel_rfl
/-- Is there a sender. -/
theorem there_yes (h : SnOk w g wr cm ls s C L) : Calls Tryz.prog 31 #[.pointer (some ⟨g, 0, none⟩)] w fun e w' => e = .returned (.bool true) ∧ w' = w := by
  have c0 := h.row.cell 0
  clear h
  unfold snC at c0
  go_enter Tryz.func31, Tryz.ntmps31
  go_wp2
  go_ret
  exact ⟨rfl, rfl⟩
theorem there_nil (w : World) : Calls Tryz.prog 31 #[.pointer none] w fun e w' => e = .returned (.bool false) ∧ w' = w := by
  go_enter Tryz.func31, Tryz.ntmps31
  go_wp2
  go_ret
  exact ⟨rfl, rfl⟩
theorem size_any (h : SnOk w g wr cm ls s C L) : Calls Tryz.prog 34 #[.pointer (some ⟨g, 0, none⟩)] w fun e w' => e = .returned (.int .u64 (s.b.length : Int)) ∧ w' = w := by
  have c3 := h.row.cell 3
  obtain ⟨va, vc, hv, _, _⟩ := h.wrow.shape
  have hn := h.rep.fine.len
  have w1 : IntKind.u64.wrap (s.b.length : Int) = (s.b.length : Int) := by rw [IntKind.wrap_u64]; omega
  clear h hn
  unfold snC at c3
  rw [hv] at c3
  go_enter Tryz.func34, Tryz.ntmps34
  go_wp2
  go_ret
  exact ⟨rfl, rfl⟩
theorem end_any (h : SnOk w g wr cm ls s C L) : Calls Tryz.prog 33 #[.pointer (some ⟨g, 0, none⟩)] w fun e w' => e = .returned (rcA (s.b.length, s.b.length + 1)) ∧ Below w.heap.size w w' := by
  obtain ⟨n, hn⟩ : ∃ n, s.b.length = n := ⟨_, rfl⟩
  have hb0 : Below w.heap.size w (w.alloc (.cells #[.int .u64 0, .int .u64 0] 77)) := (Below.refl _ w).alloc (Nat.le_refl _) _
  have S1 := size_any (h.below hb0)
  rw [hn] at S1 ⊢
  have hl := h.rep.fine.len
  rw [hn] at hl
  obtain ⟨n1, hn1⟩ : ∃ n1, n1 = n + 1 := ⟨_, rfl⟩
  rw [← hn1]
  have w1 : IntKind.u64.wrap ((n : Int) + 1) = (n1 : Int) := by rw [IntKind.wrap_u64]; omega
  have q1 : Row (w.alloc (.cells #[.int .u64 0, .int .u64 0] 77)) w.heap.size 77 #[.int .u64 0, .int .u64 0] := Row.new _ _ _
  have Q1 := veil q1
  have HB := veil hb0
  have S1 := veil S1
  clear h hb0 hl hn hn1 q1
  go_enter Tryz.func33, Tryz.ntmps33
  go_wp2_with fail
  generalize w.alloc (.cells #[.int .u64 0, .int .u64 0] 77) = w0 at *
  have c0 := Q1.out.cell 0
  have c1 := Q1.out.cell 1
  have f0 := Q1.out.frozen 0
  have f1 := Q1.out.frozen 1
  refine S1.out.mono ?_
  rintro e1 w1 ⟨rfl, rfl⟩
  go_wp2_with fail
  refine S1.out.mono ?_
  rintro e1 w1 ⟨rfl, rfl⟩
  go_wp2
  refine bodyPost_ret (results_cell_row rfl _ _ w.heap.size 77 #[.int .u64 (n : Int), .int .u64 (n1 : Int)] (0, 0) _ rfl ((Q1.out.set 0 _).set 1 _) Tryz.underlying77 rfl (by kernel_rfl)) rfl ⟨rfl, ?_⟩
  exact (HB.out.setCell (p := ⟨w.heap.size, 0, none⟩) (Nat.le_refl _) _).setCell (p := ⟨w.heap.size, 1, none⟩) (Nat.le_refl _) _
theorem fresh_any (h : SnOk w g wr cm ls s C L) : Calls Tryz.prog 9 #[.pointer (some ⟨g, 0, none⟩)] w fun e w' => e = .returned (.int .u64 (s.fresh : Int)) ∧ Below w.heap.size w w' := by
  have T1 := veil (there_yes h)
  have S1 := veil (fun q => size_any (h.below ((below_drewN (Below.refl _ w) q))))
  have c5 := h.row.cell 5
  have hl := h.rep.fine.len
  have hf := h.rep.fine.fr
  have hm : min (sn s : Int) (s.b.length : Int) = (s.fresh : Int) := by
    unfold sn
    split
    · omega
    · rename_i e; have := (h.rep.fine.ended e).2; omega
  clear h hl hf
  unfold snC at c5
  obtain ⟨n, hn⟩ : ∃ n, s.b.length = n := ⟨_, rfl⟩
  obtain ⟨m, hm2⟩ : ∃ m, sn s = m := ⟨_, rfl⟩
  obtain ⟨f, hf2⟩ : ∃ f, s.fresh = f := ⟨_, rfl⟩
  rw [hn] at S1 hm
  rw [hm2] at hm
  rw [hm2] at c5
  rw [hf2] at hm ⊢
  clear hn hm2 hf2
  go_enter Tryz.func9, Tryz.ntmps9
  go_wp2_with fail
  refine T1.out.mono ?_
  rintro e1 w1 ⟨rfl, rfl⟩
  go_wp2_with fail
  go_quiet (first | (go_at_call 34; exact Calls.quiet_of_same (S1.out _)))
  go_wp2_with fail
  go_ret
  exact ⟨rfl, below_drewN (Below.refl _ _) _⟩
theorem done_any (h : SnOk w g wr cm ls s C L) : Calls Tryz.prog 8 #[.pointer (some ⟨g, 0, none⟩)] w fun e w' => e = .returned (.bool (done s)) ∧ Below w.heap.size w w' := by
  have T1 := veil (there_yes h)
  have F1 := veil (first_any w h.crow)
  have E1 := veil (fun W (hb : Below w.heap.size w W) => end_any (h.below hb))
  have c6 := h.row.cell 6
  have hd := done_rep h.rep
  have hd2 : done s = (decide (((fst C).1 : Int) = 0) && decide (((fst C).2 : Int) = ((s.b.length + 1 : Nat) : Int))) := by
    rw [hd, Bool.eq_iff_iff, Bool.and_eq_true, decide_eq_true_eq, decide_eq_true_eq, decide_eq_true_eq, Prod.ext_iff]
    show ((fst C).1 = 0 ∧ (fst C).2 = s.b.length + 1) ↔ _
    omega
  rw [hd2]
  unfold snC at c6
  unfold rcA at F1 E1
  obtain ⟨a, ha⟩ : ∃ a, (fst C).1 = a := ⟨_, rfl⟩
  obtain ⟨b, hb⟩ : ∃ b, (fst C).2 = b := ⟨_, rfl⟩
  obtain ⟨n1, hn⟩ : ∃ n1, s.b.length + 1 = n1 := ⟨_, rfl⟩
  rw [ha, hb] at F1 ⊢
  rw [hn]
  simp only [hn] at E1
  have fe := field_two
  clear h hd hd2 ha hb hn
  go_enter Tryz.func8, Tryz.ntmps8
  go_wp2_with fail
  refine T1.out.mono ?_
  rintro e1 w1 ⟨rfl, rfl⟩
  go_wp2_with fail
  refine F1.out.mono ?_
  rintro e1 w2 ⟨rfl, hb2⟩
  have HB2 := veil hb2
  clear hb2
  go_wp2_with fail
  refine (E1.out w2 HB2.out).mono ?_
  rintro e1 w3 ⟨rfl, hb3⟩
  have HB3 := veil (HB2.out.trans (hb3.mono HB2.out.size))
  clear hb3
  obtain ⟨d, hd⟩ : ∃ d, (decide ((a : Int) = 0) && decide ((b : Int) = (n1 : Int))) = d := ⟨_, rfl⟩
  by_cases q1 : (a : Int) = 0
  · by_cases q2 : (b : Int) = (n1 : Int)
    · have hd3 : d = true := by rw [← hd]; simp [q1, q2]
      have HD := veil (hd.trans hd3)
      clear hd hd3
      go_wp2_with fail
      go_ret
      exact ⟨by rw [HD.out]; rfl, HB3.out⟩
    · have hd3 : d = false := by rw [← hd]; simp [q2]
      have HD := veil (hd.trans hd3)
      clear hd hd3
      go_wp2_with fail
      go_ret
      exact ⟨by rw [HD.out]; rfl, HB3.out⟩
  · have hd3 : d = false := by rw [← hd]; simp; intro e; exact absurd (by omega) q1
    have HD := veil (hd.trans hd3)
    clear hd hd3
    go_wp2_with fail
    go_ret
    exact ⟨by rw [HD.out]; rfl, HB3.out⟩
end
end Sr
end Go.Proofs.YtehadfidenejdaaGreatDoor

/-! Slices of bytes, as the walks ask them. Written by mkcha.py. -/
namespace Go.Proofs.YtehadfidenejdaaGreatDoor
open Go Go.RowKit

/-- A slice of bytes, and what lies in it. -/
structure SL where
  a : Option Addr
  len : Nat
  cap : Nat
  g : Nat
  off : Nat
  b : List By
def SL.v (s : SL) : Value := .slice s.a s.len s.cap
structure SL.Ok (w : World) (s : SL) : Prop where
  hb : s.b.length = s.len
  hcap : s.len ≤ s.cap
  nil : s.a = none → s.len = 0 ∧ s.cap = 0
  at_ : 0 < s.len → s.a = some ⟨s.g, s.off, none⟩
  lt : 0 < s.len → s.g < w.heap.size
  cell : ∀ j : Nat, j < s.len → w.cell? ⟨s.g, s.off + j, none⟩ = some (.int .u8 (v8 (gb s.b j)))
theorem SL.Ok.same {w w' : World} {s : SL} (h : s.Ok w) (hs : 0 < s.len → w'.heap[s.g]? = w.heap[s.g]?) (hz : w.heap.size ≤ w'.heap.size) : s.Ok w' :=
  ⟨h.hb, h.hcap, h.nil, h.at_, fun p => Nat.lt_of_lt_of_le (h.lt p) hz, fun j hj => (World.cell?_of_block (a := ⟨s.g, s.off + j, none⟩) (hs (by omega))).trans (h.cell j hj)⟩
theorem SL.Ok.below {w w' : World} {s : SL} (h : s.Ok w) (hb : Below w.heap.size w w') : s.Ok w' := h.same (fun p => hb.block _ (h.lt p)) hb.size
theorem SL.Ok.alloc {w : World} {s : SL} (h : s.Ok w) (o : Obj) : s.Ok (w.alloc o) := h.below ((Below.refl _ w).alloc (Nat.le_refl _) o)

/-- A row of the call's own, as a slice. -/
theorem SL.of_own {w : World} {base : Nat} {v : Value} {n : Nat} {xs : List By} (h : w.ownsRow base 5 1 v n (vb xs)) : ∃ s : SL, s.v = v ∧ s.len = n ∧ s.b = xs ∧ s.Ok w ∧ (0 < n → base ≤ s.g) := by
  have hl : xs.length = n := by have := h.1; rw [vb_length] at this; omega
  rcases h.2 with ⟨rfl, rfl⟩ | ⟨g, cap, cur, rfl, hg, hh, hn, _, _, _⟩
  · exact ⟨⟨none, 0, 0, 0, 0, xs⟩, rfl, rfl, rfl, ⟨hl, Nat.le_refl _, fun _ => ⟨rfl, rfl⟩, fun p => absurd p (Nat.lt_irrefl _), fun p => absurd p (Nat.lt_irrefl _), fun j hj => absurd hj (Nat.not_lt_zero _)⟩, fun p => absurd p (Nat.lt_irrefl _)⟩
  · refine ⟨⟨some ⟨g, 0, none⟩, n, cap, g, 0, xs⟩, rfl, rfl, rfl, ⟨hl, hn, fun e => (by simp at e), fun _ => rfl, fun _ => (Array.getElem?_eq_some_iff.1 hh).1, fun j hj => ?_⟩, fun _ => hg⟩
    have := h.cells (g := g) rfl j _ (vb_get xs j (by rw [hl]; exact hj))
    rw [add_off] at this
    rw [Nat.zero_add]
    exact this

section
variable {P : Program} {ops : Array Oper} {rest : List Oper} {o : Oper} {a : Act} {w : World} {Q : Exit → Act → World → Prop}
end
section
variable {P : Program} {a : Act} {w : World}
end
end Go.Proofs.YtehadfidenejdaaGreatDoor
