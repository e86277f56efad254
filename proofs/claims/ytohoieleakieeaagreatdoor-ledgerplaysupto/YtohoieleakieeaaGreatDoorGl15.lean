/-
  Out of LgLed, LgLives.
-/
import Derived.Test.YtohoieleakieeaaGreatDoorGl10

/-! The program's ledger in the chapter's words. -/
namespace Go.Proofs.YtohoieleakieeaaGreatDoor
open Go Go.RowKit

structure LOk (c : Nat) (w : World) (g : Nat) (v : Value) (s : Lg.Led) : Prop where
  ld : LdOk w g v (ml s)
  fit : Lg.Fit c s
  sane : Sane s
theorem LOk.below {c : Nat} {w w' : World} {g : Nat} {v : Value} {s : Lg.Led} (h : LOk c w g v s) (hb : Below w.heap.size w w') : LOk c w' g v s := ⟨h.ld.below hb, h.fit, h.sane⟩
theorem LOk.fits {c : Nat} {w : World} {g : Nat} {v : Value} {s : Lg.Led} (h : LOk c w g v s) (hc : c ≤ 2000) : Fits (ml s) := ml_fits h.fit hc
theorem LOk.win {c : Nat} {w : World} {g : Nat} {v : Value} {s : Lg.Led} (h : LOk c w g v s) : 0 < (ml s).win := by have := h.fit.winL; show 0 < s.win; omega
/-- Blocks of the ledger stay, or are new. -/
def Stay (v v' : Value) (w : World) : Prop := ∀ k, v'.ownBlock = some k → v.ownBlock = some k ∨ w.heap.size ≤ k
theorem led_new (w : World) : Calls Tryz.prog 5 #[] w fun e w' => ∃ g, e = .returned (.pointer (some ⟨g, 0, none⟩)) ∧ w.heap.size ≤ g ∧ LOk 0 w' g (.slice none 0 0) Lg.new ∧ Below w.heap.size w w' :=
  (ledNew_any w).mono (by
    rintro e w' ⟨g, rfl, h1, h2, h3⟩
    exact ⟨g, rfl, h1, ⟨h2, Lg.Fit.new, Sane.new⟩, h3⟩)
theorem led_sent {c : Nat} {w : World} {g : Nat} {v : Value} {s : Lg.Led} (h : LOk c w g v s) (hc : c < 2000) (n : Nat) (size : Int) (now : Nat) (asks : Bool) :
    Calls Tryz.prog 7 #[.pointer (some ⟨g, 0, none⟩), .int .u64 (n : Int), .int .i64 size, .int .u64 (now : Int), .bool asks] w fun e w' => e = .returned (.int .i64 (Lg.sentE s n size now)) ∧ ∃ v', LOk (c + 1) w' g v' (Lg.sent s n size now asks) ∧ KeepL g v w w' ∧ Stay v v' w := by
  have hf := h.fits (by omega)
  have hl : s.way.length < 1048576 := by have := hf.len; have : s.way.length ≤ 2000 := this; omega
  have ha : (ml s).ask ≤ 3000000 := by
    have := asum_le s.way (fun p hp => (h.fit.size p hp).2)
    have : (ml s).ask = Lg.asum s.way := rfl
    have := hf.len
    have : s.way.length ≤ 2000 := this
    omega
  refine (sent_any g v (ml s) n size now asks w h.ld h.win hf.len ha).mono ?_
  rintro e w' ⟨v', hc1 | hc1, hk, hs⟩
  · obtain ⟨ho, rfl, hL⟩ := hc1
    have hE := (sent_ok hl).1 ho
    rw [ml_sent asks hE] at hL
    exact ⟨by rw [hE], v', ⟨hL, h.fit.sent n size now asks, h.sane.sent n size now asks⟩, hk, hs⟩
  · obtain ⟨ho, rfl, hL⟩ := hc1
    have hE : ¬ Lg.sentE s n size now = 0 := fun q => ho ((sent_ok hl).2 q)
    have he : Lg.sent s n size now asks = s := by unfold Lg.sent; rw [if_neg hE]
    exact ⟨by rw [sentE_one hl hE], v', ⟨by rw [he]; exact hL, h.fit.sent n size now asks, h.sane.sent n size now asks⟩, hk, hs⟩
theorem led_lose {c : Nat} {w : World} {g : Nat} {v : Value} {s : Lg.Led} (h : LOk c w g v s) (hc : c ≤ 2000) (now : Nat) :
    Calls Tryz.prog 16 #[.pointer (some ⟨g, 0, none⟩), .int .u64 (now : Int)] w fun e w' => ∃ u v', e = .returned (.tuple #[u, .int .i64 (Lg.loseE s now)]) ∧ w'.ownsRow w.heap.size 23 1 u (Lg.loseL s now).length (vnum (Lg.loseL s now)) ∧ LOk c w' g v' (Lg.lose s now) ∧ KeepL g v w w' ∧ v'.ownBlock = v.ownBlock := by
  have hf := h.fits hc
  by_cases ht : Lg.timeOk s now
  · refine (loseTop_yes g v (ml s) now w h.ld hf ⟨ht.2, ht.1⟩).mono ?_
    rintro e w' ⟨u, v', rfl, ho, hL, hk, hv⟩
    have e0 : atM (ml s) now = ml { s with now := now } := rfl
    rw [e0] at ho hL
    have hl := ml_lose { s with now := now }
    have hlen : ((ml { s with now := now }).way.filter (lostX (ml { s with now := now }))).length = (Lg.loseL s now).length := by
      unfold Lg.loseL
      rw [if_pos ht, hl.2]
      unfold Lg.lostL
      rw [List.length_map]
    have hmap : ((ml { s with now := now }).way.filter (lostX (ml { s with now := now }))).map (·.num) = Lg.loseL s now := by
      unfold Lg.loseL
      rw [if_pos ht, hl.2]
      rfl
    rw [hlen, hmap] at ho
    have hlo : Lg.lose s now = Lg.losing { s with now := now } now := by unfold Lg.lose; rw [if_pos ht]
    have hE : Lg.loseE s now = 0 := if_pos ht
    refine ⟨u, v', by rw [hE], ho, ⟨?_, h.fit.lose now, ?_⟩, hk, hv⟩
    · rw [hlo, ← hl.1]; exact hL
    · rw [hlo]; exact (h.sane.of (s' := { s with now := now }) rfl rfl).lose now
  · refine (loseTop_no g v (ml s) now w h.ld h.win (fun q => ht ⟨q.2, q.1⟩)).mono ?_
    rintro e w' ⟨rfl, rfl⟩
    have hlo : Lg.lose s now = s := if_neg ht
    have hE : Lg.loseE s now = 1 := if_neg ht
    have hL : Lg.loseL s now = [] := if_neg ht
    rw [hE, hL, hlo]
    exact ⟨_, v, rfl, World.ownsRow_nil _ _ _ _, h, KeepP.refl _ _, rfl⟩
theorem led_answer {c : Nat} {w : World} {g : Nat} {v : Value} {s : Lg.Led} (h : LOk c w g v s) (hc : c ≤ 2000) (r : RL) (hr : r.Ok w) (hsep : 0 < r.len → r.g ≠ g ∧ v.ownBlock ≠ some r.g) (delay now : Nat) :
    Calls Tryz.prog 10 #[.pointer (some ⟨g, 0, none⟩), .slice r.a r.len r.cap, .int .u64 (delay : Int), .int .u64 (now : Int)] w fun e w' => ∃ u1 u2 v', e = .returned (.tuple #[u1, u2, .int .i64 (Lg.ansE s r.l delay now)]) ∧ w'.ownsRow w.heap.size 23 1 u1 (Lg.ansGot s r.l delay now).length (vnum (Lg.ansGot s r.l delay now)) ∧ w'.ownsRow w.heap.size 23 1 u2 (Lg.ansLost s r.l delay now).length (vnum (Lg.ansLost s r.l delay now)) ∧ (∀ k, u1.ownBlock = some k → u2.ownBlock ≠ some k) ∧ LOk c w' g v' (Lg.answer s r.l delay now) ∧ KeepL g v w w' ∧ v'.ownBlock = v.ownBlock := by
  have hf := h.fits hc
  have no : ∀ (E : Int), E ≠ 0 → Lg.ansE s r.l delay now = E → ∀ (e : Ending) (w' : World), (e = .returned (.tuple #[.slice none 0 0, .slice none 0 0, .int .i64 E]) ∧ Below w.heap.size w w') → ∃ u1 u2 v', e = .returned (.tuple #[u1, u2, .int .i64 (Lg.ansE s r.l delay now)]) ∧ w'.ownsRow w.heap.size 23 1 u1 (Lg.ansGot s r.l delay now).length (vnum (Lg.ansGot s r.l delay now)) ∧ w'.ownsRow w.heap.size 23 1 u2 (Lg.ansLost s r.l delay now).length (vnum (Lg.ansLost s r.l delay now)) ∧ (∀ k, u1.ownBlock = some k → u2.ownBlock ≠ some k) ∧ LOk c w' g v' (Lg.answer s r.l delay now) ∧ KeepL g v w w' ∧ v'.ownBlock = v.ownBlock := by
    rintro E hE he e w' ⟨rfl, hb⟩
    have h0 : ¬ Lg.ansE s r.l delay now = 0 := by rw [he]; exact hE
    have h1 : Lg.ansGot s r.l delay now = [] := if_neg h0
    have h2 : Lg.ansLost s r.l delay now = [] := if_neg (fun q => h0 q.1)
    have h3 : Lg.answer s r.l delay now = s := if_neg h0
    rw [h1, h2, h3, he]
    exact ⟨_, _, v, rfl, World.ownsRow_nil _ _ _ _, World.ownsRow_nil _ _ _ _, (fun k q => by cases q), h.below hb, KeepP.of_below hb, rfl⟩
  by_cases h0 : r.len = 0
  · refine (ans_no0 g v (ml s) r delay now w h.ld h.win hr h0).mono (no 1 (by decide) (ansE_one (fun q => q.ne (List.eq_nil_of_length_eq_zero (hr.hb.trans h0)))))
  have h0' : 0 < r.len := by omega
  have hne : r.l ≠ [] := fun q => by have := hr.hb; rw [q] at this; simp at this; omega
  rcases Classical.em (Rg.setOk r.l) with h1 | h1
  rotate_left
  · exact (ans_no1 g v (ml s) r delay now w h.ld h.win hr h0' h1).mono (no 1 (by decide) (ansE_one (fun q => h1 q.set)))
  by_cases h2 : delay ≤ 1099511627775
  · by_cases h3 : (ml s).now ≤ now ∧ now ≤ 1099511627775
    · have hok : AnsOk (ml s) r.l delay now := ⟨hne, h1, h2, h3⟩
      by_cases h4 : lastOf r.l < (ml s).next
      · refine (ans_yes g v (ml s) r delay now w h.ld hf hr (hsep h0') h0' h1 h2 h3 h4).mono ?_
        rintro e w' ⟨u1, u2, v', rfl, o1, o2, ap, hL, hk, hv⟩
        obtain ⟨m1, m2, m3, m4⟩ := ml_answer h.sane hok h4
        have l1 : ((ml s).way.filter (hitX r.l)).length = (Lg.ansGot s r.l delay now).length := by rw [← m2, List.length_map]
        have l2 : (ansL (ml s) r.l delay now).length = (Lg.ansLost s r.l delay now).length := by rw [← m3, List.length_map]
        rw [l1, m2] at o1
        rw [l2, m3] at o2
        rw [m1] at hL
        exact ⟨u1, u2, v', by rw [ansE_zero hok h4], o1, o2, ap, ⟨hL, h.fit.answer r.l delay now, m4⟩, hk, hv⟩
      · have h64 : r.len ≤ 64 := by rw [← hr.hb]; exact h1.1
        exact (ans_no4 g v (ml s) r delay now w h.ld h.win hr h0' h1 h2 h3 (by omega) h64).mono (no 9 (by decide) (ansE_nine hok h4))
    · exact (ans_no3 g v (ml s) r delay now w h.ld h.win hr h0' h1 h2 h3).mono (no 1 (by decide) (ansE_one (fun q => h3 q.now)))
  · exact (ans_no2 g v (ml s) r delay now w h.ld h.win hr h0' h1 (by omega)).mono (no 1 (by decide) (ansE_one (fun q => h2 q.delay)))
end Go.Proofs.YtohoieleakieeaaGreatDoor

/-! The chapter's ledger. -/
namespace Go.Proofs.YtohoieleakieeaaGreatDoor
open Go Go.RowKit

set_option maxRecDepth 20000 in
theorem ans_nil (w : World) : Calls Tryz.prog 10 #[.pointer none, .slice none 0 0, .int .u64 0, .int .u64 0] w fun e w' => e = .returned (.tuple #[.slice none 0 0, .slice none 0 0, .int .i64 2]) ∧ Below w.heap.size w w' := by
  have TC := veil (there_nil (w.alloc (.cells #[.slice none 0 0] 24)))
  have HB := veil ((Below.refl w.heap.size w).alloc (Nat.le_refl _) (.cells #[.slice none 0 0] 24))
  go_enter Tryz.func10, Tryz.ntmps10
  go_wp2_with fail
  refine TC.out.mono ?_
  rintro e1 w1 ⟨rfl, rfl⟩
  go_wp2
  refine bodyPost_ret (results_tmp3 rfl _ _ _) rfl ?_
  exact ⟨rfl, HB.out⟩
set_option maxRecDepth 20000 in
theorem room_nil (w : World) : Calls Tryz.prog 22 #[.pointer none] w fun e w' => e = .returned (.int .i64 0) ∧ w' = w := by
  have TC := veil (there_nil w)
  go_enter Tryz.func22, Tryz.ntmps22
  go_wp2_with fail
  refine TC.out.mono ?_
  rintro e1 w1 ⟨rfl, rfl⟩
  go_wp2
  go_ret
  exact ⟨rfl, rfl⟩
def lv : Nat → Lg.Led
  | 0 => Lg.new
  | k + 1 => Lg.sent (lv k) k 1000 (10 * k) true
theorem lv_ok : ∀ k, k < 5 → Lg.sentE (lv k) k 1000 (10 * k) = 0
  | 0, _ => by decide
  | 1, _ => by decide
  | 2, _ => by decide
  | 3, _ => by decide
  | 4, _ => by decide
  | _ + 5, h => by omega
theorem lv_set : Rg.setOk [(4, 4)] := ⟨by decide, by decide, by decide⟩
theorem lv_ansOk : AnsOk (ml (lv 5)) [(4, 4)] 0 90 := ⟨by decide, lv_set, by decide, by decide⟩
theorem lv_E : Lg.ansE (lv 5) [(4, 4)] 0 90 = 0 := ansE_zero lv_ansOk (by decide)
theorem lv_hit : Lg.hitL (lv 5) [(4, 4)] ≠ [] := by decide
theorem lv_got : (Lg.ansGot (lv 5) [(4, 4)] 0 90).length = 1 := by
  unfold Lg.ansGot
  rw [if_pos lv_E]
  decide
theorem lv_lost : (Lg.ansLost (lv 5) [(4, 4)] 0 90).length = 4 := by
  unfold Lg.ansLost
  rw [if_pos ⟨lv_E, lv_hit⟩]
  decide
theorem lv_ans : Lg.away (Lg.answer (lv 5) [(4, 4)] 0 90) = 0 ∧ (Lg.answer (lv 5) [(4, 4)] 0 90).win = 6500 := by
  unfold Lg.answer
  rw [if_pos lv_E, if_neg lv_hit]
  decide
theorem own_shape15 {w : World} {B n z : Nat} {e : TypeId} {v : Value} {xs : List Value} (h : w.ownsRow B e z v n xs) : ∃ a c, v = .slice a n c := by
  rcases h.2 with ⟨rfl, rfl⟩ | ⟨g, c, cur, rfl, _⟩
  · exact ⟨none, 0, rfl⟩
  · exact ⟨_, c, rfl⟩
theorem one_range (W : World) (a b : Nat) (ha : a < 18446744073709551616) (hb : b < 18446744073709551616) : RL.Ok (W.alloc (.cells #[.int .u64 (a : Int), .int .u64 (b : Int)] 63)) ⟨some ⟨W.heap.size, 0, none⟩, 1, 1, W.heap.size, 0, [(a, b)]⟩ := by
  have r := Row.new W 63 #[.int .u64 (a : Int), .int .u64 (b : Int)]
  refine ⟨rfl, Nat.le_refl _, (fun q => by cases q), fun _ => rfl, fun _ => by simp, fun j hj => ?_, fun j => ?_⟩
  · obtain rfl : j = 0 := by have : j < 1 := hj; omega
    exact ⟨r.cell 0, r.cell 1⟩
  · cases j with
    | zero => exact ⟨ha, hb⟩
    | succ j => exact ⟨by show (gr [(a, b)] (j + 1)).1 < _; simp [gr], by show (gr [(a, b)] (j + 1)).2 < _; simp [gr]⟩
set_option maxRecDepth 20000 in
set_option maxHeartbeats 2000000 in
theorem lives_any (w : World) : Calls Tryz.prog 4 #[] w fun e w' => e = .returned (.bool true) ∧ Below w.heap.size w w' := by
  go_enter Tryz.func4, Tryz.ntmps4
  go_wp2_with fail
  refine (led_new w).mono ?_
  rintro e0 w0 ⟨g, rfl, hg, hL0, hb0⟩
  have HL0 := veil hL0
  have HB0 := veil hb0
  have HGW := veil hg
  clear hg hL0 hb0
  go_wp2_with fail
  go_loopw [2] (fun iv wr => ∃ (k : Nat) (v : Value), k ≤ 5 ∧ iv = .int .i64 k ∧ LOk k wr g v (lv k) ∧ Below w.heap.size w wr ∧ (∀ q, v.ownBlock = some q → w.heap.size ≤ q))
    (fun iv _ => 5 - (intOf iv).toNat)
  case atStart => exact ⟨0, _, Nat.zero_le _, rfl, HL0.out, HB0.out, (fun q h => by cases h)⟩
  case round =>
    obtain ⟨k, v, hk, rfl, hL, hbel, hv⟩ := hrel
    by_cases hlt : k < 5
    · have c1 : IntKind.u64.wrap (k : Int) = (k : Int) := by rw [IntKind.wrap_u64]; omega
      have c2 : IntKind.i64.wrap (10 * (k : Int)) = 10 * (k : Int) := by rw [IntKind.wrap_i64]; omega
      obtain ⟨t, ht⟩ : ∃ t : Nat, t = 10 * k := ⟨_, rfl⟩
      have c3 : IntKind.u64.wrap (10 * (k : Int)) = (t : Int) := by rw [IntKind.wrap_u64]; omega
      have d1 : decide ((k : Int) < 5) = true := by simp; omega
      have d2 : decide (k < 5) = true := by simp; omega
      have SC := veil (led_sent hL (by omega) k 1000 t true)
      rw [ht, lv_ok k hlt, ← ht] at SC
      have HSV := veil (show Lg.sent (lv k) k 1000 t true = lv (k + 1) by rw [ht]; rfl)
      have HB := veil hbel
      have HV := veil hv
      have HLt := veil hlt
      clear hL hbel hv ht
      go_wp2_with fail
      refine SC.out.mono ?_
      rintro e1 w1 ⟨rfl, v1, hL1, hk1, hs1⟩
      have HL1 : Hid (LOk (k + 1) w1 g v1 (lv (k + 1))) := by rw [← HSV.out]; exact hL1
      have HB1 := veil (show Below w.heap.size w w1 from HB.out.trans (hk1.below (fun q hq => hq.elim (fun e => by have := HGW.out; omega) (fun e => HV.out q e)) HB.out.size))
      have HV1 := veil (show ∀ q, v1.ownBlock = some q → w.heap.size ≤ q from fun q hq => (hs1 q hq).elim (HV.out q) (fun e => by have := HB.out.size; omega))
      clear hL1 hk1 hs1 SC
      go_wp2
      go_roundw
      case rel => exact ⟨k + 1, v1, by have := HLt.out; omega, by go_num, HL1.out, HB1.out, HV1.out⟩
      case measure => have := HLt.out; simp [intOf]; omega
    · obtain rfl : k = 5 := by omega
      have hw5 : (ml (lv 5)).way = ⟨0, 1000, 0, true⟩ :: [⟨1, 1000, 10, true⟩, ⟨2, 1000, 20, true⟩, ⟨3, 1000, 30, true⟩, ⟨4, 1000, 40, true⟩] := by rfl
      have WC := veil (when_some g v (ml (lv 5)) wr hL.ld hL.win (by decide) _ _ hw5 (by decide) (by decide) (by decide) (by decide) (by decide))
      rw [show (if (⟨0, 1000, 0, true⟩ : Lg.Pk).num < (ml (lv 5)).front then (⟨0, 1000, 0, true⟩ : Lg.Pk).time + patN (ml (lv 5)).lat (ml (lv 5)).smo else (ml (lv 5)).asked + waitN (ml (lv 5)).smo (ml (lv 5)).var) = 1062 by decide] at WC
      have HL := veil hL
      have HB := veil hbel
      have HV := veil hv
      clear hL hbel hv hw5 hlt hk
      go_wp2_with fail
      refine WC.out.mono ?_
      rintro e1 w1 ⟨rfl, hb1⟩
      have L1 := (HL.out.below hb1).below ((Below.refl _ w1).alloc (Nat.le_refl _) (.cells #[.int .u64 ((4 : Nat) : Int), .int .u64 ((4 : Nat) : Int)] 63))
      have B1 : Below w.heap.size w w1 := HB.out.trans (hb1.mono HB.out.size)
      have B2 : Below w.heap.size w (w1.alloc (.cells #[.int .u64 ((4 : Nat) : Int), .int .u64 ((4 : Nat) : Int)] 63)) := B1.alloc B1.size _
      have hgl := HL.out.ld.lt
      have hvl := HL.out.ld.way.lt
      have hs1 := hb1.size
      have AC := veil (led_answer L1 (by decide) ⟨some ⟨w1.heap.size, 0, none⟩, 1, 1, w1.heap.size, 0, [(4, 4)]⟩ (one_range w1 4 4 (by decide) (by decide)) (fun _ => ⟨show w1.heap.size ≠ g by omega, fun q => by have h9 : w1.heap.size < wr.heap.size := hvl _ q; omega⟩) 0 90)
      simp only at AC
      rw [lv_E, lv_got, lv_lost] at AC
      have HB2 := veil B2
      clear hb1 L1 B1 B2 hgl hvl hs1 WC
      go_wp2_with fail
      refine AC.out.mono ?_
      rintro e2 w2 ⟨u1, u2, v2, rfl, o1, o2, _, hL2, hk2, hv2⟩
      obtain ⟨a1, c1, rfl⟩ := own_shape15 o1
      obtain ⟨a2, c2, rfl⟩ := own_shape15 o2
      have HB3 := veil (show Below w.heap.size w w2 from HB2.out.trans (hk2.below (fun q hq => hq.elim (fun e => by have := HGW.out; omega) (fun e => HV.out q e)) HB2.out.size))
      have HL2 := veil hL2
      clear o1 o2 hk2 hv2 hL2 AC
      go_wp2_with fail
      refine (ans_nil w2).mono ?_
      rintro e3 w3 ⟨rfl, hb3⟩
      have L3 := HL2.out.below hb3
      have AW := veil (away_any g v2 _ w3 L3.ld L3.win)
      have RC := veil (room_any g v2 _ w3 L3.ld L3.win)
      rw [show (ml (Lg.answer (lv 5) [(4, 4)] 0 90)).ask = 0 from lv_ans.1] at AW
      rw [show (ml (Lg.answer (lv 5) [(4, 4)] 0 90)).win = 6500 from lv_ans.2] at RC
      have HB4 := veil (show Below w.heap.size w w3 from HB3.out.trans (hb3.mono HB3.out.size))
      clear hb3 L3
      go_wp2_with fail
      refine AW.out.mono ?_
      rintro e4 w4 ⟨rfl, rfl⟩
      go_wp2_with fail
      refine RC.out.mono ?_
      rintro e5 w5 ⟨rfl, rfl⟩
      go_wp2_with fail
      refine (room_nil w5).mono ?_
      rintro e6 w6 ⟨rfl, rfl⟩
      go_wp2
      go_ret
      exact ⟨rfl, HB4.out⟩
end Go.Proofs.YtohoieleakieeaaGreatDoor
