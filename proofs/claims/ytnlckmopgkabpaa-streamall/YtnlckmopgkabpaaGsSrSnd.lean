/-
  A sender whose places (its bytes, and its end behind them) are told as runs: of those that came, of those that are lost. Plainly.
-/
import Derived.Test.YtnlckmopgkabpaaGs6
import Derived.Test.YtnlckmopgkabpaaGs18
namespace Go.Proofs.Ytnlckmopgkabpaa.Sr
open Go Sd

/-- How a place stands: a byte's, or the end's behind the last one. -/
def hw (s : Snd) (x : Nat) : Nat := if x = s.b.length then s.fin else s.how x
/-- How many places were sent. -/
def sn (s : Snd) : Nat := if s.fin = 0 then s.fresh else s.b.length + 1
structure Rep (s : Snd) (C L : List Rn) : Prop where
  fine : Fine s
  cr : s.fresh ≤ s.credit
  cC : Canon C
  cL : Canon L
  hC : ∀ x, Has C x ↔ hw s x = 3
  hL : ∀ x, Has L x ↔ hw s x = 2
  rs : s.reset = true → done { s with reset := false } = false
theorem hw_byte {s : Snd} {x : Nat} (hx : x < s.b.length) : hw s x = s.how x := by unfold hw; rw [if_neg (by omega)]
theorem hw_end {s : Snd} : hw s s.b.length = s.fin := by unfold hw; rw [if_pos rfl]
theorem hw_top {s : Snd} (h : Fine s) {x : Nat} (hx : hw s x ≠ 0) : x < s.b.length + 1 ∧ x < sn s := by
  have := h.fr
  unfold hw at hx
  unfold sn
  by_cases c : x = s.b.length
  · rw [if_pos c] at hx
    rw [if_neg hx]; omega
  · rw [if_neg c] at hx
    have : x < s.fresh := by
      rcases Nat.lt_or_ge x s.fresh with h1 | h1
      · exact h1
      · exact absurd (h.off x h1) hx
    split <;> omega
theorem Rep.topC {s : Snd} {C L : List Rn} (h : Rep s C L) : (∀ r ∈ C, r.2 ≤ s.b.length + 1) ∧ C.length ≤ s.b.length + 1 :=
  canon_top h.cC fun x hx => (hw_top h.fine (by rw [(h.hC x).1 hx]; decide)).1
theorem Rep.topL {s : Snd} {C L : List Rn} (h : Rep s C L) : (∀ r ∈ L, r.2 ≤ s.b.length + 1) ∧ L.length ≤ s.b.length + 1 :=
  canon_top h.cL fun x hx => (hw_top h.fine (by rw [(h.hL x).1 hx]; decide)).1
theorem new_rep {id credit : Nat} (h1 : id ≤ 4611686018427387903) (h2 : credit ≤ 4611686018427387903) : Rep (new id credit) [] [] :=
  ⟨new_fine h1 h2, Nat.zero_le _, trivial, trivial, fun x => ⟨fun h => absurd h has_nil, fun h => by unfold hw new at h; simp at h⟩, fun x => ⟨fun h => absurd h has_nil, fun h => by unfold hw new at h; simp at h⟩, fun h => by cases h⟩
theorem write_rep {s : Snd} {C L : List Rn} (h : Rep s C L) (b : List By) (last : Bool) : Rep (write s b last) C L := by
  have hf := write_fine h.fine b last
  by_cases e : writeE s b.length = 0
  · obtain ⟨h1, h2, h3⟩ := writeE_zero e
    have hw' : write s b last = { s with b := s.b ++ b, last := last } := by unfold write; rw [if_pos e]
    have f0 : s.fin = 0 := by
      rcases Nat.eq_zero_or_pos s.fin with h | h4
      · exact h
      · have := (h.fine.ended (by omega)).1; rw [h1] at this; cases this
    have same : ∀ x, hw (write s b last) x = hw s x := by
      intro x
      rw [hw']
      unfold hw
      show (if x = (s.b ++ b).length then s.fin else s.how x) = _
      have := h.fine.fr
      by_cases c : x = s.b.length
      · rw [if_pos c]
        split
        · rfl
        · rw [h.fine.off x (by omega), f0]
      · rw [if_neg c]
        split
        · rename_i c2
          rw [List.length_append] at c2
          rw [h.fine.off x (by omega), f0]
        · rfl
    refine ⟨hf, by rw [hw']; exact h.cr, h.cC, h.cL, fun x => by rw [same]; exact h.hC x, fun x => by rw [same]; exact h.hL x, fun h5 => ?_⟩
    rw [hw'] at h5
    have h5 : s.reset = true := h5
    rw [h2] at h5; cases h5
  · have : write s b last = s := by unfold write; rw [if_neg e]
    rw [this]; exact h

/-- The program's own search: what is told next. -/
def bytesFrom (s : Snd) (from' count : Nat) : Rn :=
  if count = 0 then (0, 0) else if s.last = true ∧ min (from' + count) s.b.length = s.b.length then (from', s.b.length + 1) else (from', min (from' + count) s.b.length)
def next (s : Snd) (L : List Rn) (n fr : Nat) : Rn :=
  if (fst L).1 < min (fst L).2 s.b.length then bytesFrom s (fst L).1 (min n ((fst L).2 - (fst L).1))
  else if 0 < min (min (min n fr) (s.b.length - s.fresh)) (s.credit - s.fresh) then bytesFrom s s.fresh (min (min (min n fr) (s.b.length - s.fresh)) (s.credit - s.fresh))
  else if s.last = true ∧ (sn s = s.b.length ∨ fst L = (s.b.length, s.b.length + 1)) then (s.b.length, s.b.length + 1)
  else (0, 0)
/-- The places of what is told from one place to another. -/
def plc (s : Snd) (p q : Nat) : Rn := (p, if s.last = true ∧ q = s.b.length then s.b.length + 1 else q)
theorem bytesFrom_plc {s : Snd} {p c : Nat} (hc : 0 < c) : bytesFrom s p c = plc s p (min (p + c) s.b.length) := by
  unfold bytesFrom plc
  rw [if_neg (by omega)]
  split <;> rfl
theorem plc_lt {s : Snd} {p q : Nat} (h1 : p < q) (_ : q ≤ s.b.length) : p < (plc s p q).2 := by
  unfold plc
  show p < (if s.last = true ∧ q = s.b.length then s.b.length + 1 else q)
  split <;> omega
theorem fst_first {s : Snd} {C L : List Rn} (h : Rep s C L) :
    ((fst L).1 < min (fst L).2 s.b.length ↔ first s.how 0 s.fresh < s.fresh) ∧
    ((fst L).1 < min (fst L).2 s.b.length → (fst L).1 = first s.how 0 s.fresh ∧ ∀ k, 0 < k → min ((fst L).1 + min k ((fst L).2 - (fst L).1)) s.b.length = run s.how (first s.how 0 s.fresh) (min k (s.fresh - first s.how 0 s.fresh))) := by
  have hfr := h.fine.fr
  have hl := first_le s.how s.fresh 0
  by_cases e : L = []
  · subst e
    have hn : first s.how 0 s.fresh = s.fresh := first_is (Nat.zero_le _) (by omega) (fun j _ hj hc => has_nil ((h.hL j).2 (by rw [hw_byte (by omega)]; exact hc))) (fun h1 => by omega)
    rw [hn]
    show ((0 : Nat) < min 0 _ ↔ _) ∧ ((0 : Nat) < min 0 _ → _)
    exact ⟨by omega, fun h1 => by omega⟩
  · obtain ⟨h1, h2, h3, h4⟩ := fst_laws h.cL e
    have hp := h3 (fst L).1 (Nat.le_refl _) h1
    have hp2 := (h.hL _).1 hp
    have htop := (hw_top h.fine (x := (fst L).1) (by rw [hp2]; decide)).1
    have hno : ∀ x, x < (fst L).1 → x < s.b.length → s.how x ≠ 2 := fun x hx hb hc => h2 x hx ((h.hL x).2 (by rw [hw_byte hb]; exact hc))
    by_cases c : (fst L).1 < s.b.length
    · have hp3 : s.how (fst L).1 = 2 := by rw [← hw_byte c]; exact hp2
      have hpf : (fst L).1 < s.fresh := by
        rcases Nat.lt_or_ge (fst L).1 s.fresh with h5 | h5
        · exact h5
        · rw [h.fine.off _ h5] at hp3; cases hp3
      have ef : first s.how 0 s.fresh = (fst L).1 := first_is (Nat.zero_le _) (by omega) (fun j _ hj => hno j hj (by omega)) (fun _ => hp3)
      rw [ef]
      refine ⟨⟨fun _ => hpf, fun _ => by omega⟩, fun _ => ⟨rfl, fun k hk => ?_⟩⟩
      refine (run_is (by omega) ?_ ?_ ?_).symm
      · have : ∀ x, x < (fst L).2 → (fst L).1 ≤ x → x < s.b.length → x < s.fresh := fun x hx h5 h6 => by
          rcases Nat.lt_or_ge x s.fresh with h7 | h7
          · exact h7
          · have h8 := (h.hL x).1 (h3 x h5 hx)
            rw [hw_byte h6, h.fine.off x h7] at h8; cases h8
        have h9 := this (min (fst L).2 s.b.length - 1) (by omega) (by omega) (by omega)
        omega
      · intro j h5 h6
        have h7 := (h.hL j).1 (h3 j h5 (by omega))
        rwa [hw_byte (by omega)] at h7
      · intro h5 h6
        have h7 : min ((fst L).1 + min k ((fst L).2 - (fst L).1)) s.b.length = (fst L).2 := by omega
        rw [h7] at h6 h5
        refine h4 ((h.hL _).2 ?_)
        rw [hw_byte (by omega)]; exact h6
    · have hn : first s.how 0 s.fresh = s.fresh := first_is (Nat.zero_le _) (by omega) (fun j _ hj => hno j (by omega) (by omega)) (fun h5 => by omega)
      rw [hn]
      exact ⟨by omega, fun h5 => by omega⟩
/-- The program's search finds the span. -/
theorem next_span {s : Snd} {C L : List Rn} (h : Rep s C L) (hr : s.reset = false) {n : Nat} (fr : Nat) :
    (span s n fr = none → next s L n fr = (0, 0)) ∧ (∀ p q, span s n fr = some (p, q) → next s L n fr = plc s p q ∧ p < (plc s p q).2) := by
  obtain ⟨f1, f2⟩ := fst_first h
  have hfr := h.fine.fr
  have hm : more s n fr = min (min (min n fr) (s.b.length - s.fresh)) (s.credit - s.fresh) := by unfold more; omega
  unfold next span
  rw [if_neg (by rw [hr]; simp), ← hm]
  by_cases c1 : (fst L).1 < min (fst L).2 s.b.length
  · rw [if_pos c1]
    have c2 := f1.1 c1
    obtain ⟨e1, e2⟩ := f2 c1
    rcases Nat.eq_zero_or_pos n with h0 | h0
    · subst h0
      have : ¬ (0 < ((0 : Nat) : Int) ∧ first s.how 0 s.fresh < s.fresh) := by omega
      rw [if_neg this, if_neg (by rw [hm]; omega), if_neg (by rintro ⟨_, _, h, _⟩; exact h c2)]
      refine ⟨fun _ => by unfold bytesFrom; rw [if_pos (by omega)], fun p q h => by cases h⟩
    · rw [if_pos ⟨by omega, c2⟩]
      refine ⟨fun h => (by cases h), fun p q hpq => ?_⟩
      simp only [Option.some.injEq, Prod.mk.injEq] at hpq
      obtain ⟨rfl, rfl⟩ := hpq
      have e3 := e2 n h0
      have hnn : ((n : Int)).toNat = n := by omega
      rw [hnn, bytesFrom_plc (by omega), e3, e1]
      exact ⟨rfl, plc_lt (by omega) (by omega)⟩
  · rw [if_neg c1, if_neg (by rintro ⟨_, h⟩; exact c1 (f1.2 h))]
    by_cases c2 : 0 < more s n fr
    · rw [if_pos c2, if_pos c2]
      refine ⟨fun h => (by cases h), fun p q hpq => ?_⟩
      simp only [Option.some.injEq, Prod.mk.injEq] at hpq
      obtain ⟨rfl, rfl⟩ := hpq
      rw [bytesFrom_plc c2, show min (s.fresh + more s n fr) s.b.length = s.fresh + more s n fr by omega]
      exact ⟨rfl, plc_lt (by omega) (by omega)⟩
    · rw [if_neg c2, if_neg c2]
      have hfin := h.fine.fin
      have key : (s.last = true ∧ (sn s = s.b.length ∨ fst L = (s.b.length, s.b.length + 1))) ↔ (s.last = true ∧ s.fresh = s.b.length ∧ ¬ first s.how 0 s.fresh < s.fresh ∧ (s.fin = 0 ∨ s.fin = 2)) := by
        refine and_congr_right fun _ => ?_
        rw [← f1]
        constructor
        · rintro (h1 | h1)
          · unfold sn at h1
            split at h1
            · exact ⟨h1, c1, .inl (by assumption)⟩
            · omega
          · have hne : L ≠ [] := by rintro rfl; have : ((0 : Nat), (0 : Nat)) = _ := h1; simp at this
            obtain ⟨h2, _, h3, _⟩ := fst_laws h.cL hne
            have h4 := (h.hL _).1 (h3 s.b.length (by rw [h1]; exact Nat.le_refl _) (by rw [h1]; exact Nat.lt_succ_self _))
            rw [hw_end] at h4
            exact ⟨(h.fine.ended (by omega)).2, c1, .inr h4⟩
        · rintro ⟨h1, _, h2 | h2⟩
          · left; unfold sn; rw [if_pos h2]; exact h1
          · right
            have hh : Has L s.b.length := (h.hL _).2 (by rw [hw_end]; exact h2)
            have hne : L ≠ [] := by rintro rfl; exact has_nil hh
            obtain ⟨h3, h4, h5, h6⟩ := fst_laws h.cL hne
            have h7 : ¬ s.b.length < (fst L).1 := fun h8 => h4 _ h8 hh
            have h9 := (hw_top h.fine (x := (fst L).2 - 1) (by rw [(h.hL _).1 (h5 ((fst L).2 - 1) (by omega) (by omega))]; decide)).1
            have h10 : (fst L).1 = s.b.length := by
              rcases Nat.lt_or_ge (fst L).1 s.b.length with h | h
              · exact absurd (show (fst L).1 < min (fst L).2 s.b.length by omega) c1
              · omega
            refine Prod.ext h10 ?_
            show (fst L).2 = s.b.length + 1
            omega
      by_cases c3 : s.last = true ∧ (sn s = s.b.length ∨ fst L = (s.b.length, s.b.length + 1))
      · rw [if_pos c3, if_pos (key.1 c3)]
        refine ⟨fun h => (by cases h), fun p q hpq => ?_⟩
        simp only [Option.some.injEq, Prod.mk.injEq] at hpq
        obtain ⟨rfl, rfl⟩ := hpq
        unfold plc
        rw [if_pos ⟨c3.1, rfl⟩]
        exact ⟨rfl, Nat.lt_succ_self _⟩
      · rw [if_neg c3, if_neg (fun h => c3 (key.2 h))]
        exact ⟨fun _ => rfl, fun p q h => (by cases h)⟩
/-- What is told is sent, and not lost. -/
theorem tell_rep {s : Snd} {C L : List Rn} (h : Rep s C L) {n : Int} {fr p q : Nat} (sp : Spans s n fr p q) :
    Rep (tell s p q) C (cut L (plc s p q)) ∧ sn (tell s p q) = max (sn s) (plc s p q).2 := by
  have hf := tell_fine h.fine sp
  have hle := sp.le
  have htop := sp.top
  have hfr := h.fine.fr
  have hend := h.fine.ended
  have hfin := h.fine.fin
  have hp2 : (plc s p q).2 = if s.last = true ∧ q = s.b.length then s.b.length + 1 else q := rfl
  obtain ⟨c1, c2⟩ := cut_laws h.cL (r := plc s p q) (by show p ≤ _; rw [hp2]; split <;> omega)
  have hq : ∀ x, (p ≤ x ∧ x < (plc s p q).2) ↔ (p ≤ x ∧ x < q) ∨ (s.last = true ∧ q = s.b.length ∧ x = s.b.length) := by
    intro x
    rw [hp2]
    split
    · rename_i c
      constructor
      · intro h1
        by_cases e : x = s.b.length
        · exact .inr ⟨c.1, c.2, e⟩
        · exact .inl (by omega)
      · rintro (h1 | h1)
        · omega
        · omega
    · rename_i c
      constructor
      · exact .inl
      · rintro (h1 | ⟨h1, h2, _⟩)
        · exact h1
        · exact absurd ⟨h1, h2⟩ c
  have hwt : ∀ x, hw (tell s p q) x = if p ≤ x ∧ x < (plc s p q).2 then (if hw s x = 3 then 3 else 1) else hw s x := by
    intro x
    unfold hw
    show (if x = s.b.length then (if s.last = true ∧ q = s.b.length then (if s.fin = 3 then 3 else 1) else s.fin) else (if p ≤ x ∧ x < q then 1 else s.how x)) = _
    by_cases e : x = s.b.length
    · rw [if_pos e, if_pos e]
      by_cases c : s.last = true ∧ q = s.b.length
      · rw [if_pos c, if_pos ((hq x).2 (.inr ⟨c.1, c.2, e⟩))]
      · rw [if_neg c, if_neg (fun h1 => by
          rcases (hq x).1 h1 with h2 | h2
          · omega
          · exact c ⟨h2.1, h2.2.1⟩)]
    · rw [if_neg e, if_neg e]
      by_cases c : p ≤ x ∧ x < q
      · rw [if_pos c, if_pos ((hq x).2 (.inl c)), if_neg (by rcases sp.how x c.1 c.2 with h | h <;> rw [h] <;> decide)]
      · rw [if_neg c, if_neg (fun h1 => by
          rcases (hq x).1 h1 with h2 | h2
          · exact c h2
          · exact e h2.2.2)]
  refine ⟨⟨hf, ?_, h.cC, c1, fun x => ?_, fun x => ?_, fun h1 => ?_⟩, ?_⟩
  · show max s.fresh q ≤ s.credit
    have := h.cr
    by_cases c : s.fresh < q
    · have := (sp.new c).2.2; omega
    · omega
  · rw [h.hC, hwt]
    split
    · split
      · simp [*]
      · simp [*]
    · rfl
  · rw [c2, h.hL, hwt]
    show _ ∧ ¬ (p ≤ x ∧ x < (plc s p q).2) ↔ _
    split
    · rename_i c
      constructor
      · intro h1; exact absurd c h1.2
      · intro h1; split at h1 <;> cases h1
    · rename_i c
      exact ⟨fun h1 => h1.1, fun h1 => ⟨h1, c⟩⟩
  · have h1 : s.reset = true := h1
    rw [sp.live] at h1; cases h1
  · unfold sn
    rw [hp2]
    show (if (if s.last = true ∧ q = s.b.length then (if s.fin = 3 then 3 else 1) else s.fin) = 0 then max s.fresh q else s.b.length + 1) = _
    by_cases c : s.last = true ∧ q = s.b.length
    · rw [if_pos c, if_pos c, if_neg (by split <;> decide)]
      split <;> omega
    · rw [if_neg c, if_neg c]
      split <;> omega
/-- The places of a frame. -/
def plF (p n : Nat) (fin : Bool) : Rn := (p, if fin = true then p + n + 1 else p + n)
theorem got_rep {s : Snd} {C L : List Rn} (h : Rep s C L) (hr : s.reset = false) {p : Nat} {d : List By} {fin : Bool} (hm : Mine s p d fin) :
    Rep (got s p d.length fin) (add C (plF p d.length fin)) (cut L (plF p d.length fin)) ∧ sn (got s p d.length fin) = sn s := by
  have hf := got_fine h.fine hm
  have hg : got s p d.length fin = { s with how := fun i => if p ≤ i ∧ i < p + d.length then 3 else s.how i, fin := if fin = true then 3 else s.fin } := by
    unfold got; rw [if_neg (by rw [hr]; simp)]
  obtain ⟨m1, m2, m3, m4⟩ := hm
  have hp1 : (plF p d.length fin).1 = p := rfl
  have hp2 : (plF p d.length fin).2 = if fin = true then p + d.length + 1 else p + d.length := rfl
  have hle : (plF p d.length fin).1 ≤ (plF p d.length fin).2 := by rw [hp1, hp2]; split <;> omega
  have hfr := h.fine.fr
  obtain ⟨a1, a2⟩ := add_laws h.cC hle
  obtain ⟨c1, c2⟩ := cut_laws h.cL hle
  rw [hp1] at a2 c2
  have hwt : ∀ x, hw (got s p d.length fin) x = if p ≤ x ∧ x < (plF p d.length fin).2 then 3 else hw s x := by
    intro x
    rw [hg, hp2]
    unfold hw
    show (if x = s.b.length then (if fin = true then 3 else s.fin) else (if p ≤ x ∧ x < p + d.length then 3 else s.how x)) = _
    by_cases e : fin = true
    · have := (m4 e).2.2
      rw [if_pos e, if_pos e]
      by_cases e2 : x = s.b.length
      · rw [if_pos e2, if_pos (by omega)]
      · rw [if_neg e2, if_neg e2]
        by_cases c : p ≤ x ∧ x < p + d.length
        · rw [if_pos c, if_pos (by omega)]
        · rw [if_neg c, if_neg (by omega)]
    · rw [if_neg e, if_neg e]
      by_cases e2 : x = s.b.length
      · rw [if_pos e2, if_pos e2, if_neg (by omega)]
      · rw [if_neg e2, if_neg e2]
  refine ⟨⟨hf, by rw [hg]; exact h.cr, a1, c1, fun x => ?_, fun x => ?_, fun h1 => ?_⟩, ?_⟩
  · rw [a2, h.hC, hwt]
    split
    · rename_i c
      exact ⟨fun _ => rfl, fun _ => .inr c⟩
    · rename_i c
      exact ⟨fun h1 => h1.elim id (fun h2 => absurd h2 c), .inl⟩
  · rw [c2, h.hL, hwt]
    split
    · rename_i c
      constructor
      · intro h1; exact absurd c h1.2
      · intro h1; cases h1
    · rename_i c
      exact ⟨fun h1 => h1.1, fun h1 => ⟨h1, c⟩⟩
  · rw [hg] at h1
    have h1 : s.reset = true := h1
    rw [hr] at h1; cases h1
  · rw [hg]
    unfold sn
    show (if (if fin = true then 3 else s.fin) = 0 then s.fresh else s.b.length + 1) = _
    by_cases e : fin = true
    · rw [if_pos e, if_neg (by decide), if_neg (m4 e).2.1]
    · rw [if_neg e]
theorem lost_rep {s : Snd} {C L : List Rn} (h : Rep s C L) (hr : s.reset = false) {p : Nat} {d : List By} {fin : Bool} (hm : Mine s p d fin) :
    Rep (lost s p d.length fin) C (each add L (missing C (plF p d.length fin))) ∧ sn (lost s p d.length fin) = sn s := by
  have hf := lost_fine h.fine hm
  have hg : lost s p d.length fin = { s with how := fun i => if (p ≤ i ∧ i < p + d.length) ∧ s.how i ≠ 3 then 2 else s.how i, fin := if fin = true ∧ s.fin ≠ 3 then 2 else s.fin } := by
    unfold lost; rw [if_neg (by rw [hr]; simp)]
  obtain ⟨m1, m2, m3, m4⟩ := hm
  have hp1 : (plF p d.length fin).1 = p := rfl
  have hp2 : (plF p d.length fin).2 = if fin = true then p + d.length + 1 else p + d.length := rfl
  have hle : (plF p d.length fin).1 ≤ (plF p d.length fin).2 := by rw [hp1, hp2]; split <;> omega
  have hfr := h.fine.fr
  obtain ⟨a1, a2⟩ := missing_laws h.cC hle
  rw [hp1] at a2
  obtain ⟨c1, c2⟩ := each_add h.cL (fun r hr => Nat.le_of_lt (a1.pos r hr))
  have hwt : ∀ x, hw (lost s p d.length fin) x = if (p ≤ x ∧ x < (plF p d.length fin).2) ∧ hw s x ≠ 3 then 2 else hw s x := by
    intro x
    rw [hg, hp2]
    unfold hw
    show (if x = s.b.length then (if fin = true ∧ s.fin ≠ 3 then 2 else s.fin) else (if (p ≤ x ∧ x < p + d.length) ∧ s.how x ≠ 3 then 2 else s.how x)) = _
    by_cases e : fin = true
    · have := (m4 e).2.2
      rw [if_pos e]
      by_cases e2 : x = s.b.length
      · rw [if_pos e2, if_pos e2]
        by_cases c : s.fin = 3
        · rw [if_neg (by rintro ⟨_, h⟩; exact h c), if_neg (by rintro ⟨_, h⟩; exact h c)]
        · rw [if_pos ⟨e, c⟩, if_pos ⟨by omega, c⟩]
      · rw [if_neg e2, if_neg e2]
        by_cases c : (p ≤ x ∧ x < p + d.length) ∧ s.how x ≠ 3
        · rw [if_pos c, if_pos ⟨by omega, c.2⟩]
        · rw [if_neg c, if_neg (fun h => c ⟨by omega, h.2⟩)]
    · rw [if_neg e]
      by_cases e2 : x = s.b.length
      · rw [if_pos e2, if_pos e2, if_neg (fun h => e h.1), if_neg (fun h => by omega)]
      · rw [if_neg e2, if_neg e2]
  refine ⟨⟨hf, by rw [hg]; exact h.cr, h.cC, c1, fun x => ?_, fun x => ?_, fun h1 => ?_⟩, ?_⟩
  · rw [h.hC, hwt]
    split
    · rename_i c
      exact ⟨fun h1 => absurd h1 c.2, fun h1 => by cases h1⟩
    · rfl
  · rw [c2, a2, h.hL, h.hC, hwt]
    split
    · rename_i c
      exact ⟨fun _ => rfl, fun _ => .inr c⟩
    · rename_i c
      exact ⟨fun h1 => h1.elim id (fun h2 => absurd h2 c), .inl⟩
  · rw [hg] at h1
    have h1 : s.reset = true := h1
    rw [hr] at h1; cases h1
  · rw [hg]
    unfold sn
    show (if (if fin = true ∧ s.fin ≠ 3 then 2 else s.fin) = 0 then s.fresh else s.b.length + 1) = _
    by_cases e : fin = true ∧ s.fin ≠ 3
    · rw [if_pos e, if_neg (by decide), if_neg (m4 e.1).2.1]
    · rw [if_neg e]
theorem raise_rep {s : Snd} {C L : List Rn} (h : Rep s C L) (c : Nat) : Rep (raise s c) C L := by
  have hf := raise_fine h.fine c
  unfold raise at hf ⊢
  split
  · exact h
  · rename_i e
    rw [if_neg e] at hf
    exact ⟨hf, Nat.le_trans h.cr (Nat.le_max_left _ _), h.cC, h.cL, h.hC, h.hL, h.rs⟩
/-- Did all come in there: the first run of what came is all there is. -/
theorem done_rep {s : Snd} {C L : List Rn} (h : Rep s C L) : done s = decide (fst C = (0, s.b.length + 1)) := by
  have key : fst C = (0, s.b.length + 1) ↔ s.fin = 3 ∧ ∀ i, i < s.b.length → s.how i = 3 := by
    constructor
    · intro e
      have hne : C ≠ [] := by rintro rfl; have : ((0 : Nat), (0 : Nat)) = _ := e; simp at this
      obtain ⟨_, _, h3, _⟩ := fst_laws h.cC hne
      rw [e] at h3
      have h4 : ∀ x, x < s.b.length + 1 → hw s x = 3 := fun x hx => (h.hC x).1 (h3 x (Nat.zero_le _) hx)
      refine ⟨by rw [← hw_end]; exact h4 _ (by omega), fun i hi => by rw [← hw_byte hi]; exact h4 i (by omega)⟩
    · rintro ⟨h1, h2⟩
      have hall : ∀ x, x < s.b.length + 1 → Has C x := fun x hx => (h.hC x).2 (by
        by_cases c : x = s.b.length
        · rw [c, hw_end]; exact h1
        · rw [hw_byte (by omega)]; exact h2 x (by omega))
      have hne : C ≠ [] := by rintro rfl; exact has_nil (hall 0 (by omega))
      obtain ⟨h3, h4, h5, h6⟩ := fst_laws h.cC hne
      have h7 := h.topC.1 (fst C) (by cases C with | nil => exact absurd rfl hne | cons a l => exact List.mem_cons_self ..)
      have h8 : ¬ 0 < (fst C).1 := fun h9 => h4 0 h9 (hall 0 (by omega))
      have h9 : ¬ (fst C).2 < s.b.length + 1 := fun h10 => h6 (hall _ h10)
      exact Prod.ext (by show (fst C).1 = 0; omega) (by show (fst C).2 = s.b.length + 1; omega)
  have hd : done { s with reset := false } = decide (fst C = (0, s.b.length + 1)) := by
    rw [Bool.eq_iff_iff, decide_eq_true_eq, key]
    unfold done
    simp only [Bool.not_false, Bool.true_and, Bool.and_eq_true, beq_iff_eq]
    rw [allIn_iff]
  rw [← hd]
  cases e : s.reset with
  | false => congr 1; cases s; simp at e; simp [e]
  | true =>
    rw [h.rs e]
    unfold done
    rw [e]; rfl
end Go.Proofs.Ytnlckmopgkabpaa.Sr
