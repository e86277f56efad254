/-
  The program's ledger in the chapter's words.
-/
import Derived.Test.YtohoieleakieeaaGe6
namespace Go.Proofs.Ytohoieleakieeaa
open Go Go.RowKit

structure LOk (c : Nat) (w : World) (g : Nat) (v : Value) (s : Lg.Led) : Prop where
  ld : LdOk w g v (ml s)
  fit : Lg.Fit c s
  sane : Sane s
theorem LOk.below {c : Nat} {w w' : World} {g : Nat} {v : Value} {s : Lg.Led} (h : LOk c w g v s) (hb : Below w.heap.size w w') : LOk c w' g v s := ⟨h.ld.below hb, h.fit, h.sane⟩
theorem LOk.fits {c : Nat} {w : World} {g : Nat} {v : Value} {s : Lg.Led} (h : LOk c w g v s) (hc : c ≤ 2000) : Fits (ml s) := ml_fits h.fit hc
theorem LOk.win {c : Nat} {w : World} {g : Nat} {v : Value} {s : Lg.Led} (h : LOk c w g v s) : 0 < (ml s).win := by have := h.fit.winL; show 0 < s.win; omega
/-- Blocks of the ledger stay, or are new. -/
def Stay (v v' : Value) (w : World) : Prop := ∀ k, v'.ownBlock = some k → v.ownBlock = some k ∨ w.heap.size ≤ k
theorem led_new (w : World) : Calls Try.prog 6 #[] w fun e w' => ∃ g, e = .returned (.pointer (some ⟨g, 0, none⟩)) ∧ w.heap.size ≤ g ∧ LOk 0 w' g (.slice none 0 0) Lg.new ∧ Below w.heap.size w w' :=
  (ledNew_any w).mono (by
    rintro e w' ⟨g, rfl, h1, h2, h3⟩
    exact ⟨g, rfl, h1, ⟨h2, Lg.Fit.new, Sane.new⟩, h3⟩)
theorem led_sent {c : Nat} {w : World} {g : Nat} {v : Value} {s : Lg.Led} (h : LOk c w g v s) (hc : c < 2000) (n : Nat) (size : Int) (now : Nat) (asks : Bool) :
    Calls Try.prog 7 #[.pointer (some ⟨g, 0, none⟩), .int .u64 (n : Int), .int .i64 size, .int .u64 (now : Int), .bool asks] w fun e w' => e = .returned (.int .i64 (Lg.sentE s n size now)) ∧ ∃ v', LOk (c + 1) w' g v' (Lg.sent s n size now asks) ∧ KeepL g v w w' ∧ Stay v v' w := by
  have hf := h.fits (by omega)
  have hl : s.way.length < 1048576 := by have := hf.len; have : s.way.length ≤ 2000 := this; omega
  have ha : (ml s).ask ≤ 3000000 := by
    have := asum_le s.way (fun p hp => (h.fit.size p hp).2)
    have : (ml s).ask = Lg.asum s.way := rfl
    have := hf.len
    have : s.way.length ≤ 2000 := this
    omega
  refine (sent_any g v (ml s) n size now asks w h.ld h.win hf.len ha).mono ?_
  rintro e w' ⟨v', hc1 | hc1, hk, hs⟩
  · obtain ⟨ho, rfl, hL⟩ := hc1
    have hE := (sent_ok hl).1 ho
    rw [ml_sent asks hE] at hL
    exact ⟨by rw [hE], v', ⟨hL, h.fit.sent n size now asks, h.sane.sent n size now asks⟩, hk, hs⟩
  · obtain ⟨ho, rfl, hL⟩ := hc1
    have hE : ¬ Lg.sentE s n size now = 0 := fun q => ho ((sent_ok hl).2 q)
    have he : Lg.sent s n size now asks = s := by unfold Lg.sent; rw [if_neg hE]
    exact ⟨by rw [sentE_one hl hE], v', ⟨by rw [he]; exact hL, h.fit.sent n size now asks, h.sane.sent n size now asks⟩, hk, hs⟩
theorem led_lose {c : Nat} {w : World} {g : Nat} {v : Value} {s : Lg.Led} (h : LOk c w g v s) (hc : c ≤ 2000) (now : Nat) :
    Calls Try.prog 9 #[.pointer (some ⟨g, 0, none⟩), .int .u64 (now : Int)] w fun e w' => ∃ u v', e = .returned (.tuple #[u, .int .i64 (Lg.loseE s now)]) ∧ w'.ownsRow w.heap.size 27 1 u (Lg.loseL s now).length (vnum (Lg.loseL s now)) ∧ LOk c w' g v' (Lg.lose s now) ∧ KeepL g v w w' ∧ v'.ownBlock = v.ownBlock := by
  have hf := h.fits hc
  by_cases ht : Lg.timeOk s now
  · refine (loseTop_yes g v (ml s) now w h.ld hf ⟨ht.2, ht.1⟩).mono ?_
    rintro e w' ⟨u, v', rfl, ho, hL, hk, hv⟩
    have e0 : atM (ml s) now = ml { s with now := now } := rfl
    rw [e0] at ho hL
    have hl := ml_lose { s with now := now }
    have hlen : ((ml { s with now := now }).way.filter (lostX (ml { s with now := now }))).length = (Lg.loseL s now).length := by
      unfold Lg.loseL
      rw [if_pos ht, hl.2]
      unfold Lg.lostL
      rw [List.length_map]
    have hmap : ((ml { s with now := now }).way.filter (lostX (ml { s with now := now }))).map (·.num) = Lg.loseL s now := by
      unfold Lg.loseL
      rw [if_pos ht, hl.2]
      rfl
    rw [hlen, hmap] at ho
    have hlo : Lg.lose s now = Lg.losing { s with now := now } now := by unfold Lg.lose; rw [if_pos ht]
    have hE : Lg.loseE s now = 0 := if_pos ht
    refine ⟨u, v', by rw [hE], ho, ⟨?_, h.fit.lose now, ?_⟩, hk, hv⟩
    · rw [hlo, ← hl.1]; exact hL
    · rw [hlo]; exact (h.sane.of (s' := { s with now := now }) rfl rfl).lose now
  · refine (loseTop_no g v (ml s) now w h.ld h.win (fun q => ht ⟨q.2, q.1⟩)).mono ?_
    rintro e w' ⟨rfl, rfl⟩
    have hlo : Lg.lose s now = s := if_neg ht
    have hE : Lg.loseE s now = 1 := if_neg ht
    have hL : Lg.loseL s now = [] := if_neg ht
    rw [hE, hL, hlo]
    exact ⟨_, v, rfl, World.ownsRow_nil _ _ _ _, h, KeepP.refl _ _, rfl⟩
theorem led_answer {c : Nat} {w : World} {g : Nat} {v : Value} {s : Lg.Led} (h : LOk c w g v s) (hc : c ≤ 2000) (r : RL) (hr : r.Ok w) (hsep : 0 < r.len → r.g ≠ g ∧ v.ownBlock ≠ some r.g) (delay now : Nat) :
    Calls Try.prog 8 #[.pointer (some ⟨g, 0, none⟩), .slice r.a r.len r.cap, .int .u64 (delay : Int), .int .u64 (now : Int)] w fun e w' => ∃ u1 u2 v', e = .returned (.tuple #[u1, u2, .int .i64 (Lg.ansE s r.l delay now)]) ∧ w'.ownsRow w.heap.size 27 1 u1 (Lg.ansGot s r.l delay now).length (vnum (Lg.ansGot s r.l delay now)) ∧ w'.ownsRow w.heap.size 27 1 u2 (Lg.ansLost s r.l delay now).length (vnum (Lg.ansLost s r.l delay now)) ∧ (∀ k, u1.ownBlock = some k → u2.ownBlock ≠ some k) ∧ LOk c w' g v' (Lg.answer s r.l delay now) ∧ KeepL g v w w' ∧ v'.ownBlock = v.ownBlock := by
  have hf := h.fits hc
  have no : ∀ (E : Int), E ≠ 0 → Lg.ansE s r.l delay now = E → ∀ (e : Ending) (w' : World), (e = .returned (.tuple #[.slice none 0 0, .slice none 0 0, .int .i64 E]) ∧ Below w.heap.size w w') → ∃ u1 u2 v', e = .returned (.tuple #[u1, u2, .int .i64 (Lg.ansE s r.l delay now)]) ∧ w'.ownsRow w.heap.size 27 1 u1 (Lg.ansGot s r.l delay now).length (vnum (Lg.ansGot s r.l delay now)) ∧ w'.ownsRow w.heap.size 27 1 u2 (Lg.ansLost s r.l delay now).length (vnum (Lg.ansLost s r.l delay now)) ∧ (∀ k, u1.ownBlock = some k → u2.ownBlock ≠ some k) ∧ LOk c w' g v' (Lg.answer s r.l delay now) ∧ KeepL g v w w' ∧ v'.ownBlock = v.ownBlock := by
    rintro E hE he e w' ⟨rfl, hb⟩
    have h0 : ¬ Lg.ansE s r.l delay now = 0 := by rw [he]; exact hE
    have h1 : Lg.ansGot s r.l delay now = [] := if_neg h0
    have h2 : Lg.ansLost s r.l delay now = [] := if_neg (fun q => h0 q.1)
    have h3 : Lg.answer s r.l delay now = s := if_neg h0
    rw [h1, h2, h3, he]
    exact ⟨_, _, v, rfl, World.ownsRow_nil _ _ _ _, World.ownsRow_nil _ _ _ _, (fun k q => by cases q), h.below hb, KeepP.of_below hb, rfl⟩
  by_cases h0 : r.len = 0
  · refine (ans_no0 g v (ml s) r delay now w h.ld h.win hr h0).mono (no 1 (by decide) (ansE_one (fun q => q.ne (List.eq_nil_of_length_eq_zero (hr.hb.trans h0)))))
  have h0' : 0 < r.len := by omega
  have hne : r.l ≠ [] := fun q => by have := hr.hb; rw [q] at this; simp at this; omega
  rcases Classical.em (Rg.setOk r.l) with h1 | h1
  rotate_left
  · exact (ans_no1 g v (ml s) r delay now w h.ld h.win hr h0' h1).mono (no 1 (by decide) (ansE_one (fun q => h1 q.set)))
  by_cases h2 : delay ≤ 1099511627775
  · by_cases h3 : (ml s).now ≤ now ∧ now ≤ 1099511627775
    · have hok : AnsOk (ml s) r.l delay now := ⟨hne, h1, h2, h3⟩
      by_cases h4 : lastOf r.l < (ml s).next
      · refine (ans_yes g v (ml s) r delay now w h.ld hf hr (hsep h0') h0' h1 h2 h3 h4).mono ?_
        rintro e w' ⟨u1, u2, v', rfl, o1, o2, ap, hL, hk, hv⟩
        obtain ⟨m1, m2, m3, m4⟩ := ml_answer h.sane hok h4
        have l1 : ((ml s).way.filter (hitX r.l)).length = (Lg.ansGot s r.l delay now).length := by rw [← m2, List.length_map]
        have l2 : (ansL (ml s) r.l delay now).length = (Lg.ansLost s r.l delay now).length := by rw [← m3, List.length_map]
        rw [l1, m2] at o1
        rw [l2, m3] at o2
        rw [m1] at hL
        exact ⟨u1, u2, v', by rw [ansE_zero hok h4], o1, o2, ap, ⟨hL, h.fit.answer r.l delay now, m4⟩, hk, hv⟩
      · have h64 : r.len ≤ 64 := by rw [← hr.hb]; exact h1.1
        exact (ans_no4 g v (ml s) r delay now w h.ld h.win hr h0' h1 h2 h3 (by omega) h64).mono (no 9 (by decide) (ansE_nine hok h4))
    · exact (ans_no3 g v (ml s) r delay now w h.ld h.win hr h0' h1 h2 h3).mono (no 1 (by decide) (ansE_one (fun q => h3 q.now)))
  · exact (ans_no2 g v (ml s) r delay now w h.ld h.win hr h0' h1 (by omega)).mono (no 1 (by decide) (ansE_one (fun q => h2 q.delay)))
end Go.Proofs.Ytohoieleakieeaa
