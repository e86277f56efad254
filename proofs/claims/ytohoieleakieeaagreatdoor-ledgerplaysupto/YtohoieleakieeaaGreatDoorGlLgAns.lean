/-
  Written by mklgans.py: Answer, where it answers.
-/
import Derived.Test.YtohoieleakieeaaGreatDoorGl14
namespace Go.Proofs.YtohoieleakieeaaGreatDoor
open Go Go.RowKit Go.Shelf
attribute [local go_sem] Oper.semAt_some

/-- What is left at the end of an answer. -/
theorem ans_fin {w W6 W7 W8 : World} {g D n1 n2 : Nat} {v v' v8 u1 u2 : Value} {m1 : ML} {xs1 xs2 : List Value} (h : LdOk W8 g v8 m1) (hv8 : v8.ownBlock = v'.ownBlock) (hv : ∀ k, v'.ownBlock = some k → k < w.heap.size) (hvv : v'.ownBlock = v.ownBlock) (hk6 : KeepL g v w W6) (ho1 : W7.ownsRow W6.heap.size 23 1 u1 n1 xs1) (hb7 : Below W6.heap.size W6 W7) (ho2 : W8.ownsRow W7.heap.size 23 1 u2 n2 xs2) (hk8 : KeepL g v' W7 W8) (hg : g < w.heap.size) (hD : w.heap.size ≤ D) (hDW : D < W6.heap.size) :
    (W8.putObj D (.deferred none)).ownsRow w.heap.size 23 1 u1 n1 xs1 ∧ (W8.putObj D (.deferred none)).ownsRow w.heap.size 23 1 u2 n2 xs2 ∧ (∀ k, u1.ownBlock = some k → u2.ownBlock ≠ some k) ∧ LdOk (W8.putObj D (.deferred none)) g v8 m1 ∧ KeepL g v w (W8.putObj D (.deferred none)) := by
  have hp : ∀ k, k ≠ D → (W8.putObj D (.deferred none)).heap[k]? = W8.heap[k]? := fun k q => World.putObj_heap_other q
  have z1 := hk6.size
  have z2 := hb7.size
  have z3 := hk8.size
  refine ⟨?_, ?_, ?_, ?_, ?_⟩
  · refine own_low2 (B := W6.heap.size) ?_ z1
    obtain ⟨h1, h2⟩ := ho1
    refine ⟨h1, ?_⟩
    rcases h2 with h2 | ⟨g', c, cur, h3, h4, h5, h6⟩
    · exact .inl h2
    · have hlt := (Array.getElem?_eq_some_iff.1 h5).1
      refine .inr ⟨g', c, cur, h3, h4, (hp g' (by omega)).trans ((hk8.block g' hlt ?_).trans h5), h6⟩
      rintro (q | q)
      · omega
      · have := hv g' q; omega
  · refine own_low2 (B := W7.heap.size) ?_ (by omega)
    obtain ⟨h1, h2⟩ := ho2
    refine ⟨h1, ?_⟩
    rcases h2 with h2 | ⟨g', c, cur, h3, h4, h5, h6⟩
    · exact .inl h2
    · exact .inr ⟨g', c, cur, h3, h4, (hp g' (by omega)).trans h5, h6⟩
  · intro k q1 q2
    have := (ho1.lt k q1).2
    have := (ho2.lt k q2).1
    omega
  · exact h.same (hp g (by omega)) (fun k q => hp k (by rw [hv8] at q; have := hv k q; omega))
  · have hk7 : KeepL g v w W7 := hk6.trans (KeepP.of_below hb7)
    have hk9 : KeepL g v w W8 := hk7.trans (KeepP.mono hk8 (fun k q => q.imp id (fun q => by rw [← hvv]; exact q)))
    exact ⟨hk9.os, hk9.tape, hk9.output, by rw [World.putObj_size]; exact hk9.size, fun k hk3 hn => (hp k (by omega)).trans (hk9.block k hk3 hn)⟩
def hitX (r : List (Nat × Nat)) (p : Lg.Pk) : Bool := decide (p.num < lastOf r + 1) && Rg.hasL r p.num
def hitM (m : ML) (r : List (Nat × Nat)) : ML := { m with way := m.way.filter (fun p => !hitX r p), ask := Lg.asum (m.way.filter (fun p => !hitX r p)) }
/-- What becomes of a ledger that is told of an answer. -/
def ansM (m : ML) (r : List (Nat × Nat)) (delay now : Nat) : ML :=
  match (m.way.filter (hitX r)).getLast? with
  | none => hitM (atM m now) r
  | some q => loseM (cameM (hitM (atM m now) r) (m.way.filter (hitX r)) q (lastOf r) delay)
def ansL (m : ML) (r : List (Nat × Nat)) (delay now : Nat) : List Lg.Pk :=
  match (m.way.filter (hitX r)).getLast? with
  | none => []
  | some q => (cameM (hitM (atM m now) r) (m.way.filter (hitX r)) q (lastOf r) delay).way.filter (lostX (cameM (hitM (atM m now) r) (m.way.filter (hitX r)) q (lastOf r) delay))
set_option maxRecDepth 20000 in
set_option maxHeartbeats 2000000 in
theorem ans_yes (g : Nat) (v : Value) (m : ML) (s : RL) (delay now : Nat) (w : World) (h : LdOk w g v m) (hm : Fits m) (hs : s.Ok w) (hsep : s.g ≠ g ∧ v.ownBlock ≠ some s.g) (h0k : 0 < s.len) (h1 : Rg.setOk s.l) (h2 : delay ≤ 1099511627775) (h3 : m.now ≤ now ∧ now ≤ 1099511627775) (h4 : lastOf s.l < m.next) :
    Calls Tryz.prog 10 #[.pointer (some ⟨g, 0, none⟩), .slice s.a s.len s.cap, .int .u64 (delay : Int), .int .u64 (now : Int)] w fun e w' => ∃ u1 u2 v', e = .returned (.tuple #[u1, u2, .int .i64 0]) ∧ w'.ownsRow w.heap.size 23 1 u1 (m.way.filter (hitX s.l)).length (vnum ((m.way.filter (hitX s.l)).map (·.num))) ∧ w'.ownsRow w.heap.size 23 1 u2 (ansL m s.l delay now).length (vnum ((ansL m s.l delay now).map (·.num))) ∧ (∀ k, u1.ownBlock = some k → u2.ownBlock ≠ some k) ∧ LdOk w' g v' (ansM m s.l delay now) ∧ KeepL g v w w' ∧ v'.ownBlock = v.ownBlock := by
  have h64 : s.len ≤ 64 := by rw [← hs.hb]; exact h1.1
  obtain ⟨w0, hw0⟩ : ∃ w0, w0 = w.alloc (.cells #[.slice s.a s.len s.cap] 24) := ⟨_, rfl⟩
  have hb0 : Below w.heap.size w w0 := by rw [hw0]; exact (Below.refl _ w).alloc (Nat.le_refl _) _
  have hz0 : w0.heap.size = w.heap.size + 1 := by rw [hw0]; simp
  have rb0 : Row w0 w.heap.size 24 #[.slice s.a s.len s.cap] := by rw [hw0]; exact Row.new _ _ _
  have h0 := h.below hb0
  have cb : w0.cell? ⟨w.heap.size, 0, none⟩ = some (.slice s.a s.len s.cap) := rb0.cell 0
  have TC := veil (there_yes g v m w0 h0.row (by have := hm.winL; omega))
  have CC := veil (rg_check s w0 (hs.below hb0))
  have l1 : ¬ (s.len : Int) = 0 := by omega
  have l2 : decide ((s.len : Int) = 0) = false := by simp; omega
  have l3 : decide (s.len = 0) = false := by simp; omega
  have l4 : ¬ s.len = 0 := by omega
  have e1 : decide ((1099511627775 : Int) < (delay : Int)) = false := by simp; omega
  have e2 : decide (1099511627775 < delay) = false := by simp; omega
  have hla : s.a = some ⟨s.g, s.off, none⟩ := hs.at_ (by omega)
  obtain ⟨n1, hn1⟩ : ∃ n1, s.len = n1 + 1 := ⟨s.len - 1, by omega⟩
  have hls : lastOf s.l = (gr s.l n1).2 := by unfold lastOf; rw [hs.hb, hn1]; rfl
  have n2 : IntKind.i64.wrap ((s.len : Int) - 1) = (n1 : Int) := by rw [IntKind.wrap_i64]; omega
  have n3 : decide ((n1 : Int) < (s.len : Int)) = true := by simp; omega
  have n4 : n1 < s.len := by omega
  obtain ⟨la, hla2⟩ : ∃ la, lastOf s.l = la := ⟨_, rfl⟩
  rw [hla2] at hls h4
  have n5 : decide ((m.next : Int) ≤ (la : Int)) = false := by simp; omega
  have n6 : decide (m.next ≤ la) = false := by simp; omega
  obtain ⟨lb, hlb⟩ : ∃ lb, la + 1 = lb := ⟨_, rfl⟩
  have n7 : IntKind.u64.wrap ((la : Int) + 1) = (lb : Int) := by have := hm.next; rw [IntKind.wrap_u64]; omega
  have HLS := veil hls
  have HLA := veil hla2
  have HLB := veil hlb
  have H64 := veil h64
  have HS := veil hs
  have HSP := veil hsep
  have H0 := veil h0
  have HM := veil hm
  have HB0 := veil hb0
  have HZ0 := veil hz0
  have RB0 := veil rb0
  have HG := veil h.lt
  have HVL := veil h.way.lt
  have HYS := veil h1
  have HDL := veil h2
  have HNW := veil h3
  have HLN := veil h4
  clear h hm hs hsep h0k h1 h2 h3 h4 h64 hb0 hz0 rb0 h0 hn1 hls hlb hla2
  obtain ⟨sa, slen, scap, sg, soff, sl⟩ := s
  simp only at hla
  subst hla
  simp only at *
  refine (callsIn_wide (n := 5)).1 ?_
  refine callsIn_of_wp_marks Tryz.func10 rfl trivial ?_ rfl
  simp only [Tryz.ntmps10, List.size_toArray, List.length_cons, List.length_nil, Nat.reduceAdd, Nat.reduceSub, Array.replicate_succ, Array.replicate_zero, List.push_toArray, List.append_toArray, List.nil_append, List.cons_append]
  subst hw0
  gi_wp2_with fail
  refine ⟨trivial, (callsIn_wide.2 TC.out).mono ?_⟩
  rintro r1 w1 ⟨rfl, rfl⟩
  gi_wp2_with fail
  refine ⟨trivial, (callsIn_wide.2 CC.out).mono ?_⟩
  rintro r2 w2 ⟨hc, hb2⟩
  have he2 : r2 = .returned (.bool true) := hc.elim (fun q => q.1) (fun q => absurd HYS.out q.2)
  subst he2
  have h2 := H0.out.below hb2
  have b2 := HB0.out.trans (hb2.mono HB0.out.size)
  have rb2 := RB0.out.below hb2 RB0.out.lt
  have cb2 : w2.cell? ⟨w.heap.size, 0, none⟩ = some (.slice (some ⟨sg, soff, none⟩) slen scap) := rb2.cell 0
  have hs2 := HS.out.below b2
  have hz2 : w.heap.size + 1 ≤ w2.heap.size := by have := hb2.size; have := HZ0.out; omega
  have MC := veil (mayBe_any g v m now w2 h2.row)
  rw [show (decide (m.now ≤ now) && decide (now ≤ 1099511627775)) = true from by rw [Bool.and_eq_true, decide_eq_true_eq, decide_eq_true_eq]; exact HNW.out] at MC
  have cl9 : w2.cell? ⟨sg, soff + n1 * 2 + 1, none⟩ = some (.int .u64 (la : Int)) := by have := (hs2.cell n1 n4).2; rw [HLS.out]; exact this
  have cn9 := h2.cells.c2
  have c4 := h2.cells.c4
  have f4 := h2.cells.f 4
  obtain ⟨h3, k3⟩ := h2.setNow now
  have H3 := veil h3
  have HK3 := veil k3
  have HB2 := veil b2
  have RB2 := veil rb2
  have HS2 := veil hs2
  have HZ2 := veil hz2
  have HG2 := veil h2.lt
  have HRN := veil (show w.heap.size ≠ g by have := HG.out; omega)
  clear hc hb2 h2 b2 rb2 hs2 hz2 h3 k3 cb TC CC H0 RB0 HB0 HZ0
  gi_wp2_with fail
  refine ⟨trivial, (callsIn_wide.2 MC.out).mono ?_⟩
  rintro r3 w3 ⟨rfl, rfl⟩
  gi_wp2_with fail
  have hbn : w3.heap.size ≠ g := fun q => by have := HG2.out; omega
  obtain ⟨w4, hw4⟩ : ∃ w4, (w3.setCell ⟨g, 4, none⟩ (.int .u64 (now : Int))).alloc (.cells #[.slice none 0 0] 68) = w4 := ⟨_, rfl⟩
  have hz4 : w4.heap.size = w3.heap.size + 1 := by rw [← hw4]; simp [World.setCell]
  have hb34 : Below (w3.setCell ⟨g, 4, none⟩ (.int .u64 (now : Int))).heap.size (w3.setCell ⟨g, 4, none⟩ (.int .u64 (now : Int))) w4 := by rw [← hw4]; exact (Below.refl _ _).alloc (Nat.le_refl _) _
  have hb34z : (w3.setCell ⟨g, 4, none⟩ (.int .u64 (now : Int))).heap.size = w3.heap.size := by simp [World.setCell]
  have h4 := H3.out.below hb34
  have k4 : KeepL g v w w4 := ((KeepP.of_below HB2.out).trans HK3.out).trans (KeepP.of_below hb34)
  have rb4 : Row w4 w.heap.size 24 #[.slice (some ⟨sg, soff, none⟩) slen scap] := (RB2.out.other (a := ⟨g, 4, none⟩) HRN.out (.int .u64 (now : Int))).below hb34 (by rw [hb34z]; exact RB2.out.lt)
  have rx4 : Row w4 w3.heap.size 68 #[.slice none 0 0] := by have := Row.new (w3.setCell ⟨g, 4, none⟩ (.int .u64 (now : Int))) 68 #[.slice none 0 0]; rw [hb34z, hw4] at this; exact this
  have hsg3 : sg < w3.heap.size := HS2.out.lt (show 0 < slen by omega)
  have hs4 : RL.Ok w4 ⟨some ⟨sg, soff, none⟩, slen, scap, sg, soff, sl⟩ := HS2.out.same (fun _ => (hb34.block sg (by rw [hb34z]; exact hsg3)).trans (Below.heap_setCell _ _ _ _ HSP.out.1)) (by rw [hz4]; omega)
  rw [hw4]
  have H4 := veil h4
  have HK4 := veil k4
  have RB4 := veil rb4
  have RX4 := veil rx4
  have HS4 := veil hs4
  have HZ4 := veil hz4
  have HSG := veil (show sg < w.heap.size from HS.out.lt (show 0 < slen by omega))
  clear h4 k4 rb4 rx4 hs4 hb34 hb34z hw4 hsg3 cb2 cl9 cn9 c4 f4 HB2 RB2 HS2 H3 HK3 MC
  refine ⟨trivial, (callsIn_wide.2 (takeOut_in g lb 29 _ w4)).mono ?_⟩
  rintro r5 w5 ⟨rfl, hw5⟩
  have hbw := outW_below w4 g lb (.func (.func 29) #[] #[.pointer (some ⟨w.heap.size, 0, none⟩)])
  have htk := outW_tk w4 g lb (.func (.func 29) #[] #[.pointer (some ⟨w.heap.size, 0, none⟩)])
  have hz5 := outW_size w4 g lb (.func (.func 29) #[] #[.pointer (some ⟨w.heap.size, 0, none⟩)])
  rw [← hw5] at hbw htk hz5
  clear hw5
  rw [hz4] at htk hz5 ⊢
  have h5 := H4.out.below hbw
  have rb5 := RB4.out.below hbw RB4.out.lt
  have rx5 := RX4.out.below hbw RX4.out.lt
  have hs5 := HS4.out.below hbw
  have k5 : KeepL g v w w5 := HK4.out.trans (KeepP.of_below hbw)
  have hgw := HG.out
  have hvw := HVL.out
  have hzw := HZ2.out
  have hsg := HSG.out
  have hsp := HSP.out
  have hXe : (fun p : Lg.Pk => decide (p.num < lb) && Rg.hasL sl p.num) = hitX sl := by funext p; unfold hitX; rw [HLA.out, HLB.out]
  obtain ⟨T, hT⟩ : ∃ T, m.way.filter (hitX sl) = T := ⟨_, rfl⟩
  have hTl : T.length ≤ 2000 := by rw [← hT]; exact Nat.le_trans (List.length_filter_le _ _) HM.out.len
  have hm0 : Fits (atM m now) := HM.out.at HNW.out.1 HNW.out.2
  have hseq : TellsO Tryz.prog 87 #[.pointer (some ⟨w3.heap.size + 1, 0, none⟩), .pointer (some ⟨w3.heap.size + 1 + 1, 0, none⟩), .pointer (some ⟨w3.heap.size + 1 + 2, 0, none⟩)] encPk (fun k => k = w3.heap.size) (fun k => k = g ∨ v.ownBlock = some k) (fun W => Row W w.heap.size 24 #[.slice (some ⟨sg, soff, none⟩) slen scap] ∧ RL.Ok W ⟨some ⟨sg, soff, none⟩, slen, scap, sg, soff, sl⟩) (StepT T) (EndT g v T (hitM (atM m now) sl)) 0 w5 := by
    intro n l J W hbW hJG hJ hY hJ0
    rw [← hT] at hY ⊢
    have h5W := h5.below hbW
    rw [← hXe] at hY
    have n1' : ¬ (w3.heap.size + 1 = g ∨ v.ownBlock = some (w3.heap.size + 1)) := by
      rintro (q | q)
      · omega
      · have := hvw _ q; omega
    have n2' : ¬ (w3.heap.size + 1 + 1 = g ∨ v.ownBlock = some (w3.heap.size + 1 + 1)) := by
      rintro (q | q)
      · omega
      · have := hvw _ q; omega
    have n3' : ¬ (w3.heap.size + 1 + 2 = g ∨ v.ownBlock = some (w3.heap.size + 1 + 2)) := by
      rintro (q | q)
      · omega
      · have := hvw _ q; omega
    have hgo := takeHit_in n l w5.heap.size (w3.heap.size + 1) (w3.heap.size + 1 + 1) (w3.heap.size + 1 + 2) g lb w.heap.size v (atM m now) (fun p => Rg.hasL sl p.num) (fun k => k = w3.heap.size) (fun k => k = g ∨ v.ownBlock = some k) (fun W => Row W w.heap.size 24 #[.slice (some ⟨sg, soff, none⟩) slen scap] ∧ RL.Ok W ⟨some ⟨sg, soff, none⟩, slen, scap, sg, soff, sl⟩) J W hm0 (by have := HLB.out; have := HLN.out; have := HM.out.next; omega) ⟨by omega, ⟨n1', n2', n3'⟩, by omega⟩ hJG hJ
      (fun W9 Z a hgb9 hr p hp _ => hit_any w.heap.size ⟨some ⟨sg, soff, none⟩, slen, scap, sg, soff, sl⟩ p W9 hgb9.1 hgb9.2 (show slen ≤ 1048576 by have := H64.out; omega)) hY hJ0 h5W (htk.same (hbW.block _ (by omega)) (hbW.block _ (by omega)) (hbW.block _ (by omega))) (.inl rfl) (fun k q => .inr q) hbW.size
    rw [hXe, show (fun p : Lg.Pk => !(decide (p.num < lb) && Rg.hasL sl p.num)) = fun p => !hitX sl p from by rw [← hXe]] at hgo
    exact hgo
  have h0I : GrI w5 w5.heap.size w3.heap.size T (fun k => k = g ∨ v.ownBlock = some k) 0 (fun k => k = g ∨ v.ownBlock = some k) w5 := ⟨fun k q => .inl q, ⟨.slice none 0 0, rx5, by rw [List.take_zero]; exact RowO.nil _ _ _, fun k q => by cases q⟩, fun _ _ _ _ => rfl, rfl, rfl, rfl, Nat.zero_le _, Nat.le_refl _⟩
  have hbx : w3.heap.size < w5.heap.size := by omega
  have hM0b : ¬ (w3.heap.size = g ∨ v.ownBlock = some w3.heap.size) := by
    rintro (q | q)
    · exact hbn q
    · have := hvw _ q; omega
  have hgb : ∀ j M A, GrI w5 w5.heap.size w3.heap.size T (fun k => k = g ∨ v.ownBlock = some k) j M A → Row A w.heap.size 24 #[.slice (some ⟨sg, soff, none⟩) slen scap] ∧ RL.Ok A ⟨some ⟨sg, soff, none⟩, slen, scap, sg, soff, sl⟩ := fun j M A hA => by
    constructor
    · refine (hA.old _ (by omega) ?_ (by omega)).trans rb5
      rintro (q | q)
      · omega
      · have := hvw _ q; omega
    · refine hs5.same (fun _ => hA.old _ (show sg < _ by omega) ?_ (show sg ≠ _ by omega)) hA.sz
      rintro (q | q)
      · exact hsp.1 q
      · exact hsp.2 q
  have HSEQ := veil hseq
  have H0I := veil h0I
  have HBXl := veil hbx
  have HM0b := veil hM0b
  have HGb := veil hgb
  have HTl := veil hTl
  have HTe := veil hT
  have HK5 := veil k5
  have HZ5 := veil hz5
  have HM0 := veil hm0
  clear hseq h0I hbx hM0b hgb hTl hT k5 hz5 hgw hvw hzw hsg hsp hXe hbw htk h5 rb5 rx5 hs5 hm0 H4 RB4 RX4 HS4 HK4 hz4 hbn
  gi_wp2_with fail
  refine rangeFunc_tellsO (n := 5) (gf := 87) (lb := #[.pointer (some ⟨w3.heap.size + 1, 0, none⟩), .pointer (some ⟨w3.heap.size + 1 + 1, 0, none⟩), .pointer (some ⟨w3.heap.size + 1 + 2, 0, none⟩)]) rfl (enters_of Tryz.func87 (by kernel_rfl) rfl) (encs := encPk) (fun _ => rfl) (fun k => k = w3.heap.size) (fun k => k = g ∨ v.ownBlock = some k) (fun k q => by have := HBXl.out; omega) (fun k q => by
      rcases q with q | q
      · have := HG2.out; have := HBXl.out; omega
      · have := HVL.out _ q; have := HZ2.out; have := HBXl.out; omega) HSEQ.out
    (fun s A B q k => q.keep (by have := HG2.out; have := HBXl.out; omega) (fun k q => by have := HVL.out _ q; have := HZ2.out; have := HBXl.out; omega) k)
    (GrI w5 w5.heap.size w3.heap.size T (fun k => k = g ∨ v.ownBlock = some k)) HGb.out (fun s M A B q k => q.keep HBXl.out k) (fun s M A B q k => q.keepM HBXl.out HM0b.out k) H0I.out
    (fun x b => { tmps := #[.pointer (some ⟨g, 0, none⟩), .slice (some ⟨sg, soff, none⟩) slen scap, .int .u64 (delay : Int), .int .u64 (now : Int), undef, .pointer (some ⟨w.heap.size, 0, none⟩), undef, undef, .slice none 0 0, .slice none 0 0, .int .i64 0, .int .u64 (la : Int), .pointer (some ⟨w3.heap.size, 0, none⟩), .pointer (some ⟨b, 0, none⟩), .bool false, .pointer (some ⟨g, 0, none⟩), .bool true, .bool false, .bool false, .slice (some ⟨sg, soff, none⟩) slen scap, .int .i64 (slen : Int), .bool false, .bool false, .slice (some ⟨sg, soff, none⟩) slen scap, .bool true, .bool false, .bool false, .bool false, .int .u64 (delay : Int), .bool false, .bool false, .bool false, .pointer (some ⟨g, 0, none⟩), .int .u64 (now : Int), .bool true, .bool false, .bool false, .slice (some ⟨sg, soff, none⟩) slen scap, .slice (some ⟨sg, soff, none⟩) slen scap, .int .i64 (slen : Int), .int .i64 (n1 : Int), .pointer (some ⟨sg, soff + n1 * 2, none⟩), .pointer (some ⟨sg, soff + n1 * 2 + 1, none⟩), .int .u64 (la : Int), .int .u64 (la : Int), .pointer (some ⟨g, 0, none⟩), .pointer (some ⟨g, 0, none⟩), .pointer (some ⟨g, 2, none⟩), .int .u64 (m.next : Int), .bool false, .pointer (some ⟨g, 0, none⟩), .int .u64 (now : Int), .pointer (some ⟨g, 0, none⟩), .pointer (some ⟨g, 4, none⟩), .pointer (some ⟨g, 0, none⟩), .int .u64 (la : Int), .int .u64 (lb : Int), .func (.func 29) #[] #[.pointer (some ⟨w.heap.size, 0, none⟩)], .func (.func 87) #[] #[.pointer (some ⟨w3.heap.size + 1, 0, none⟩), .pointer (some ⟨w3.heap.size + 1 + 1, 0, none⟩), .pointer (some ⟨w3.heap.size + 1 + 2, 0, none⟩)], .agg (pkC x), undef, undef, undef, undef, undef, undef, undef, undef, undef, undef, undef, undef, undef, undef, undef, undef], defers := [] })
    (fun x b W => Row W b 78 #[.int .u64 (x.num : Int), .int .i64 (x.size : Int), .int .u64 (x.time : Int), .bool x.asks]) (fun _ _ _ _ q k => k.trans q) ?assign ?body ?done
  case assign =>
    intro l x W K hK
    unfold encPk pkC
    gi_wp2_with fail
    unfold pkC at hK
    exact hK _ ((Below.refl _ W).alloc (Nat.le_refl _) _) (Row.new _ _ _)
  case body =>
    rintro l j x j' M V W ⟨hx, rfl⟩ hI hk hR hsz hM
    obtain ⟨u, ua, un, uc, W2, a1, a2, a3, a4, a5, a6⟩ := hI.next HBXl.out HM0b.out hk hx HTl.out hsz (fun k q => (hM k q).2)
    have x0 : W.cell? ⟨V.heap.size, 0, none⟩ = some (.int .u64 (x.num : Int)) := hR.cell 0
    have x1 : W.cell? ⟨V.heap.size, 1, none⟩ = some (.int .i64 (x.size : Int)) := hR.cell 1
    have x2 : W.cell? ⟨V.heap.size, 2, none⟩ = some (.int .u64 (x.time : Int)) := hR.cell 2
    have x3 : W.cell? ⟨V.heap.size, 3, none⟩ = some (.bool x.asks) := hR.cell 3
    have A2 := veil a2
    have A5 := veil a5
    have A6 := veil a6
    clear a2 a5 a6 hI hk hR hM hx
    gi_wp2_with (with_reducible (show wpListIn _ _ _ _ _ (⟨some 63, Op.call _, _, _, _, _⟩ :: _) _ _)
                 refine wpI_append rfl _ _ _ rfl _ _ _ _ rfl rfl A2.out ?_)
    exact ⟨A5.out, A6.out⟩
  case done =>
    rintro D j M W hD ⟨hj, v', hL, hvv⟩ hI hK
    obtain ⟨u, hu1, hu2, hu3⟩ := hI.box
    subst hj
    rw [List.take_length] at hu2
    obtain ⟨ua, uc, hus, _, _⟩ := hu2.shape
    subst hus
    have hDW : D < W.heap.size := (Array.getElem?_eq_some_iff.1 hK).1
    have cu : W.cell? ⟨w3.heap.size, 0, none⟩ = some (.slice ua T.length uc) := hu1.cell 0
    have hKW : KeepL g v w W := ⟨hI.os.trans HK5.out.os, hI.tape.trans HK5.out.tape, hI.output.trans HK5.out.output, Nat.le_trans HK5.out.size hI.sz, fun k hk hn => (hI.old k (by have := HK5.out.size; omega) hn (by have := HZ2.out; omega)).trans (HK5.out.block k hk hn)⟩
    have hvW : ∀ k, v'.ownBlock = some k → k < w.heap.size := fun k q => by rw [hvv] at q; exact HVL.out k q
    have hz5 := HZ5.out
    have hz2 := HZ2.out
    have hgw := HG.out
    have HNG := veil (show ∀ k, (Value.slice ua T.length uc).ownBlock = some k → k ≠ g from fun k q => by have := (hu3 k q).1; omega)
    have HU2 := veil hu2
    have HU1 := veil hu1
    have HLW := veil hL
    have HKW := veil hKW
    have HVV := veil hvv
    have HVw := veil hvW
    have HDK := veil hK
    have HDW := veil hDW
    have HD := veil (show w.heap.size ≤ D by omega)
    have HDg := veil (show D ≠ g by omega)
    clear hu2 hu1 hu3 hL hKW hvv hvW hK hDW hD hI hz5 hz2 hgw HSEQ H0I HGb HM0b
    cases hgl : T.getLast? with
    | none =>
      have hT0 : T = [] := List.getLast?_eq_none_iff.1 hgl
      have HAM := veil (show ansM m sl delay now = hitM (atM m now) sl by unfold ansM; rw [HTe.out, hgl])
      have HAL := veil (show ansL m sl delay now = [] by unfold ansL; rw [HTe.out, hgl])
      have t1 : (T.length : Int) = 0 := by rw [hT0]; rfl
      have t2 : T.length = 0 := by rw [hT0]; rfl
      have HT0 := veil hT0
      clear hgl hT0
      gi_wp2_with fail
      refine ⟨by simp, .inl ⟨_, _, rfl, run_takeDeferred HDK.out, ?_⟩⟩
      refine ⟨_, results_tmp3 rfl _ _ _, .slice none 0 0, .slice none 0 0, v', rfl, ?_, ?_, (fun k q => by cases q), ?_, ?_, HVV.out⟩
      · rw [HTe.out, HT0.out]; exact World.ownsRow_nil _ _ _ _
      · rw [HAL.out]; exact World.ownsRow_nil _ _ _ _
      · rw [HAM.out]
        exact HLW.out.same (World.putObj_heap_other (fun q => HDg.out q.symm)) (fun k q => World.putObj_heap_other (by have := HVw.out k q; have := HD.out; omega))
      · have hk2 := HKW.out
        exact ⟨hk2.os, hk2.tape, hk2.output, by rw [World.putObj_size]; exact hk2.size, fun k hk3 hn => (World.putObj_heap_other (by have := HD.out; omega)).trans (hk2.block k hk3 hn)⟩
    | some q =>
      obtain ⟨m1, hm1⟩ : ∃ m1, hitM (atM m now) sl = m1 := ⟨_, rfl⟩
      have HAM := veil (show ansM m sl delay now = loseM (cameM m1 T q la delay) by unfold ansM; rw [HTe.out, hgl, HLA.out, hm1])
      have HAL := veil (show ansL m sl delay now = (cameM m1 T q la delay).way.filter (lostX (cameM m1 T q la delay)) by unfold ansL; rw [HTe.out, hgl, HLA.out, hm1])
      have hTn : 0 < T.length := by
        cases hTT : T with
        | nil => rw [hTT] at hgl; cases hgl
        | cons _ _ => exact Nat.succ_pos _
      have hqi : T[T.length - 1]? = some q := by rw [← List.getLast?_eq_getElem?]; exact hgl
      have hqm : q ∈ m.way := by have := List.mem_of_getElem? hqi; rw [← HTe.out] at this; exact (List.mem_filter.1 this).1
      have hsz : ∀ p ∈ T, p.size ≤ 1200 := fun p hp => by rw [← HTe.out] at hp; exact (HM.out.size p (List.mem_filter.1 hp).1).2
      have hf1 : Fits m1 := by rw [← hm1]; exact HM0.out.cut _
      have hlen : m1.way.length + T.length = m.way.length := by
        rw [← hm1, ← HTe.out]
        show (m.way.filter (fun p => !hitX sl p)).length + (m.way.filter (hitX sl)).length = _
        exact filter_two _ _
      have hwin : m1.win = m.win := by rw [← hm1]; rfl
      have hthr : m1.thr = m.thr := by rw [← hm1]; rfl
      have hnow : m1.now = now := by rw [← hm1]; rfl
      have hwu : m1.win + 1200 * (m1.way.length + T.length) ≤ 3000000 := by rw [hlen, hwin]; exact HM.out.winU
      rw [hm1] at HLW
      have hqn : q.num ≤ 4611686018427387903 := by have := HM.out.num q hqm; have := HM.out.next; omega
      have hqt : q.time ≤ m1.now := by rw [hnow]; have := HM.out.time q hqm; have := HNW.out.1; omega
      have hf2 := hf1.came T q la delay hqn hwu hsz
      have CM := veil (came_any g v' (.slice ua T.length uc) m1 T q la delay W HLW.out.row HU2.out HNG.out hqi hf1.winL (by omega) hf1.thr hsz hf1.smo hf1.var hf1.lea hf1.now HDL.out hqt HTl.out)
      have t1 : ¬ (T.length : Int) = 0 := by omega
      have t2 : ¬ T.length = 0 := by omega
      have t3 : decide ((T.length : Int) = 0) = false := by simp only [decide_eq_false_iff_not]; exact t1
      have HF2 := veil hf2
      have HCW := veil (came_way m1 T q la delay)
      clear hgl hTn hqi hqm hsz hf1 hlen hwin hthr hnow hwu hqn hqt hf2 hm1
      generalize cameM m1 T q la delay = m2 at *
      gi_wp2_with fail
      refine ⟨trivial, (callsIn_wide.2 CM.out).mono ?_⟩
      rintro r6 w6 ⟨⟨y6, rfl⟩, r6, k6⟩
      have L6 : LdOk w6 g v' m2 := ⟨r6, by rw [HCW.out]; exact HLW.out.way.same (fun j hj => k6.block j (HLW.out.way.lt j hj) (fun e => HLW.out.apart (by rw [← e]; exact hj)))⟩
      have u6 := HU2.out.same (w' := w6) (fun j hj => k6.block j (HU2.out.lt j hj) (HNG.out j hj))
      have cu6 : w6.cell? ⟨w3.heap.size, 0, none⟩ = some (.slice ua T.length uc) := (k6.row HU1.out (by have := HG2.out; omega)).cell 0
      have K6 : KeepL g v w w6 := HKW.out.trans (KeepP.mono k6 (fun k q => .inl q))
      have D6 : w6.heap[D]? = some (.deferred (some [])) := (k6.block _ HDW.out HDg.out).trans HDK.out
      have z6 := k6.size
      have NC := veil (numbers_any _ T w6 u6 (by have := HTl.out; omega))
      have HL6 := veil L6
      have HK6 := veil K6
      have HD6 := veil D6
      have HZ6 := veil (show D < w6.heap.size by have := HDW.out; omega)
      clear r6 k6 L6 u6 K6 D6 z6 cu CM
      gi_wp2_with fail
      refine ⟨trivial, (callsIn_wide.2 NC.out).mono ?_⟩
      rintro r7 w7 ⟨u7, rfl, ho7, hb7⟩
      have L7 := HL6.out.below hb7
      have D7 : w7.heap[D]? = some (.deferred (some [])) := (hb7.block _ HZ6.out).trans HD6.out
      have LC := veil (lose_any g v' m2 w7 L7 HF2.out)
      have HO7 := veil ho7
      have HB7 := veil hb7
      have HD7 := veil D7
      clear ho7 hb7 L7 D7 cu6
      gi_wp2_with fail
      refine ⟨trivial, (callsIn_wide.2 LC.out).mono ?_⟩
      rintro r8 w8 ⟨u8, v8, rfl, ho8, hL8, hk8, hv8⟩
      have HFIN := veil (ans_fin (D := D) hL8 hv8 HVw.out HVV.out HK6.out HO7.out HB7.out ho8 hk8 HG.out HD.out HZ6.out)
      have hD8 : w8.heap[D]? = some (.deferred (some [])) := (hk8.block _ (by have := HB7.out.size; have := HZ6.out; omega) (fun c => c.elim HDg.out (fun c => by have := HVw.out D c; have := HD.out; omega))).trans HD7.out
      have HD8 := veil hD8
      have HV8 := veil (hv8.trans HVV.out)
      clear ho8 hL8 hk8 hv8 hD8
      gi_wp2_with fail
      refine ⟨by simp, .inl ⟨_, _, rfl, run_takeDeferred HD8.out, ?_⟩⟩
      refine ⟨_, results_tmp3 rfl _ _ _, u7, u8, v8, rfl, ?_⟩
      rw [HTe.out, HAM.out, HAL.out]
      exact ⟨HFIN.out.1, HFIN.out.2.1, HFIN.out.2.2.1, HFIN.out.2.2.2.1, HFIN.out.2.2.2.2, HV8.out⟩
end Go.Proofs.YtohoieleakieeaaGreatDoor
