/-
  KeysSecrets: the walk.
-/
import Derived.Test.YtlicflmpakkccaaGreatDoorGvKyRefO
import Derived.Test.YtlicflmpakkccaaGreatDoorGvKyTell
import Derived.Test.YtlicflmpakkccaaGreatDoorGv10
import Derived.Test.YtlicflmpakkccaaGreatDoorGvKyLives
namespace Go.Proofs.YtlicflmpakkccaaGreatDoor
open Go Go.RowKit

/-- What Secret and the document's Secret answer, in one shape. -/
theorem secret_cases (sb tb : List By) (client : Bool) : ∃ (xs : List By) (n0 : Nat) (E : Int), n0 ≤ 32 ∧ xs.length = n0 ∧
    (∀ (s t : SL) (w : World), s.Ok w → t.Ok w → s.b = sb → t.b = tb → Calls Tryz.prog 8 #[.slice s.a s.len s.cap, .slice t.a t.len t.cap, .bool client] w fun e w' => ∃ a d, e = .returned (.tuple #[.slice a n0 d, .int .i64 E]) ∧ w'.ownsRow w.heap.size 5 1 (.slice a n0 d) n0 (vb xs) ∧ Below w.heap.size w w') ∧
    (∀ (s t : SL) (w : World), s.Ok w → t.Ok w → s.b = sb → t.b = tb → Calls Tryz.prog 9 #[.slice s.a s.len s.cap, .slice t.a t.len t.cap, .bool client] w fun e w' => ∃ q : SL, e = .returned (.tuple #[.slice q.a q.len q.cap, .int .i64 E]) ∧ q.Ok w' ∧ q.b = xs ∧ Below w.heap.size w w') := by
  by_cases h1 : sb.length < 1 ∨ 256 < sb.length
  · refine ⟨[], 0, 1, by decide, rfl, fun s t w hs ht e1 e2 => ?_, fun s t w hs ht e1 e2 => ?_⟩
    · exact (secret_arg s t client w (by rw [← hs.hb, e1]; exact h1)).mono fun e w' ⟨a1, a2⟩ => ⟨none, 0, a1, World.ownsRow_nil _ _ _ _, by rw [a2]; exact Below.refl _ _⟩
    · exact (refSecret_arg s t client w (by rw [← hs.hb, e1]; exact h1)).mono fun e w' ⟨a1, a2⟩ => ⟨nilK, a1, nilK_ok _, rfl, by rw [a2]; exact Below.refl _ _⟩
  · have h2 : 1 ≤ sb.length ∧ sb.length ≤ 256 := by omega
    clear h1
    by_cases h3 : 1048576 < tb.length
    · refine ⟨[], 0, 3, by decide, rfl, fun s t w hs ht e1 e2 => ?_, fun s t w hs ht e1 e2 => ?_⟩
      · exact (secret_big s t client w (by rw [← hs.hb, e1]; exact h2.1) (by rw [← hs.hb, e1]; exact h2.2) (by rw [← ht.hb, e2]; exact h3)).mono fun e w' ⟨a1, a2⟩ => ⟨none, 0, a1, World.ownsRow_nil _ _ _ _, a2⟩
      · exact (refSecret_big s t client w (by rw [← hs.hb, e1]; exact h2.1) (by rw [← hs.hb, e1]; exact h2.2) (by rw [← ht.hb, e2]; exact h3)).mono fun e w' ⟨a1, a2⟩ => ⟨nilK, a1, nilK_ok _, rfl, by rw [a2]; exact Below.refl _ _⟩
    · refine ⟨secretL sb tb client, 32, 0, Nat.le_refl _, lab_length _ _ _, fun s t w hs ht e1 e2 => ?_, fun s t w hs ht e1 e2 => ?_⟩
      · refine (secret_any s t client w hs ht (by rw [← hs.hb, e1]; exact h2.1) (by rw [← hs.hb, e1]; exact h2.2) (by rw [← ht.hb, e2]; omega)).mono fun e w' ⟨g, a1, a2, a3⟩ => ?_
        rw [e1, e2] at a2
        exact ⟨_, _, a1, a2, a3⟩
      · refine (refSecret_any s t client w hs ht (by rw [← hs.hb, e1]; exact h2.1) (by rw [← hs.hb, e1]; exact h2.2) (by rw [← ht.hb, e2]; omega)).mono fun e w' ⟨z, a1, a2, a3, a4⟩ => ?_
        rw [e1, e2] at a3
        exact ⟨z, a1, a2, a3, a4⟩

theorem own_apart {W0 W1 : World} {B n m : Nat} {e f : TypeId} {u v : Value} {xs ys : List Value} (h : W0.ownsRow B e 1 u n xs) (k : W1.ownsRow W0.heap.size f 1 v m ys) : u.ownBlock = none ∨ u.ownBlock ≠ v.ownBlock := by
  cases q : u.ownBlock with
  | none => exact .inl rfl
  | some z =>
    right
    intro e2
    have := (h.lt z q).2
    have := (k.lt z e2.symm).1
    omega

set_option maxRecDepth 20000 in
set_option maxHeartbeats 4000000 in
theorem secrets_walk (s t : SL) (client : Bool) (w : World) (hg : Glob w) (hs : s.Ok w) (ht : t.Ok w) (ls : s.len ≤ 140737488351232) (lt : t.len ≤ 140737488351232) :
    Calls Tryz.prog 3 #[.slice s.a s.len s.cap, .slice t.a t.len t.cap, .bool client] w fun e w' => e = .returned (.bool true) ∧ Below w.heap.size w w' := by
  obtain ⟨xs, n0, E, hx, hxl, hX, hR⟩ := secret_cases s.b t.b client
  have HX := veil hX
  have HR := veil hR
  have HG := veil hg
  have HS := veil hs
  have HT := veil ht
  have LS := veil ls
  have LT := veil lt
  have hsb := veil hs.hb
  have htb := veil ht.hb
  have hee : (E != E) = false := by simp
  have HN0 := veil hx
  have HXL := veil hxl
  have hdec : (20000 < t.len ∧ t.len ≤ 1048576) ∨ (¬ 20000 < t.len) ∨ (20000 < t.len ∧ ¬ t.len ≤ 1048576) := by omega
  clear hX hR hg hs ht ls lt hx hxl
  go_enter Tryz.func3, Tryz.ntmps3
  rcases hdec with ⟨k1, k2⟩ | hq
  · have d1 : decide ((20000 : Int) < (t.len : Int)) = true := decide_eq_true (by omega)
    have d2 : decide ((t.len : Int) ≤ 1048576) = true := decide_eq_true (by omega)
    clear k1 k2
    go_wp2_with fail
    refine (lives_any w HG.out).mono ?_
    rintro e1 w1 ⟨rfl, hb1⟩
    have B1 := veil hb1
    clear hb1
    go_wp2_with fail
    go_ret
    exact ⟨rfl, B1.out⟩
  have HGO : Hid (Calls Tryz.prog 7 #[.slice s.a s.len s.cap] w fun e w' => ∃ g, e = .returned (.slice (some ⟨g, 0, none⟩) s.len (s.len + 1)) ∧ Twin w' g s.b ∧ w'.ownsRow w.heap.size 5 1 (.slice (some ⟨g, 0, none⟩) s.len (s.len + 1)) s.len (vb s.b) ∧ Below w.heap.size w w') := twin_own s w HS.out LS.out
  rcases hq with h1 | ⟨h1, h2⟩
  · have d1 : decide ((20000 : Int) < (t.len : Int)) = false := decide_eq_false (by omega)
    clear h1
    go_wp2_with fail
    refine HGO.out.mono ?_
    rintro e1 w1 ⟨gs, rfl, hts, hos, hb1⟩
    have B1 := veil hb1
    have S1 := veil (HS.out.below hb1)
    have T1 := veil (HT.out.below hb1)
    have TS1 := veil hts
    have OS1 := veil hos
    clear hb1 hts hos HGO
    go_wp2_with fail
    refine (twin_own t w1 T1.out LT.out).mono ?_
    rintro e2 w2 ⟨gt, rfl, htt, hot, hb2⟩
    have B2 := veil (B1.out.trans (hb2.mono B1.out.size))
    have S2 := veil (S1.out.below hb2)
    have T2 := veil (T1.out.below hb2)
    have TS2 := veil (TS1.out.below hb2)
    have OS2 := veil (own_belowY OS1.out hb2)
    have TT2 := veil htt
    have OT2 := veil hot
    have AST := veil (own_apart OS1.out hot)
    clear hb2 htt hot S1 T1 TS1 OS1
    go_wp2_with fail
    refine (HX.out (twinS gs s.len s.b) (twinS gt t.len t.b) w2 (TS2.out.ok hsb.out) (TT2.out.ok htb.out) rfl rfl).mono ?_
    rintro e3 w3 ⟨a1, c1, rfl, ho1, hb3⟩
    have B3 := veil (B2.out.trans (hb3.mono B2.out.size))
    have S3 := veil (S2.out.below hb3)
    have T3 := veil (T2.out.below hb3)
    have TS3 := veil (TS2.out.below hb3)
    have TT3 := veil (TT2.out.below hb3)
    have OS3 := veil (own_belowY OS2.out hb3)
    have OT3 := veil (own_belowY OT2.out hb3)
    have O13 := veil ho1
    have AS1 := veil (own_apart OS2.out ho1)
    have AT1 := veil (own_apart OT2.out ho1)
    clear hb3 ho1 S2 T2 TS2 TT2 OS2 OT2
    go_wp2_with fail
    refine (HX.out (twinS gs s.len s.b) (twinS gt t.len t.b) w3 (TS3.out.ok hsb.out) (TT3.out.ok htb.out) rfl rfl).mono ?_
    rintro e4 w4 ⟨a2, c2, rfl, ho2, hb4⟩
    have B4 := veil (B3.out.trans (hb4.mono B3.out.size))
    have S4 := veil (S3.out.below hb4)
    have T4 := veil (T3.out.below hb4)
    have TS4 := veil (TS3.out.below hb4)
    have TT4 := veil (TT3.out.below hb4)
    have OS4 := veil (own_belowY OS3.out hb4)
    have OT4 := veil (own_belowY OT3.out hb4)
    have O14 := veil (own_belowY O13.out hb4)
    have O24 := veil ho2
    have AS2 := veil (own_apart OS3.out ho2)
    have AT2 := veil (own_apart OT3.out ho2)
    have A12 := veil (own_apart O13.out ho2)
    clear hb4 ho2 S3 T3 TS3 TT3 OS3 OT3 O13
    go_wp2_with fail
    refine (HR.out s t w4 S4.out T4.out rfl rfl).mono ?_
    rintro e5 w5 ⟨z, rfl, hz, hzb, hb5⟩
    have B5 := veil (B4.out.trans (hb5.mono B4.out.size))
    have S5 := veil (S4.out.below hb5)
    have T5 := veil (T4.out.below hb5)
    have TS5 := veil (TS4.out.below hb5)
    have TT5 := veil (TT4.out.below hb5)
    have OS5 := veil (own_belowY OS4.out hb5)
    have OT5 := veil (own_belowY OT4.out hb5)
    have O15 := veil (own_belowY O14.out hb5)
    have O25 := veil (own_belowY O24.out hb5)
    have HSM : Hid (Calls Tryz.prog 10 #[.slice a1 n0 c1, .slice z.a z.len z.cap] w5 fun e w' => e = .returned (.bool true) ∧ Below w5.heap.size w5 w') := by
      obtain ⟨q1, hv1, hl1, hq1, hok1, _⟩ := SL.of_own O15.out
      have hv' : (.slice a1 n0 c1 : Value) = .slice q1.a q1.len q1.cap := hv1.symm
      rw [hv']
      exact same_yesK q1 z w5 hok1 hz (by have := HN0.out; omega) (by rw [hq1, hzb])
    clear hb5 hz hzb S4 T4 TS4 TT4 OS4 OT4 O14 O24
    go_wp2_with fail
    refine HSM.out.mono ?_
    rintro e6 w6 ⟨rfl, hb6⟩
    have C6 := veil hb6
    clear hb6 HSM
    go_wp2_with fail
    refine (left_sl s gs w6 (S5.out.below C6.out) LS.out (TS5.out.below C6.out)).mono ?_
    rintro e7 w7 ⟨rfl, hb7⟩
    have C7 := veil (C6.out.trans (hb7.mono C6.out.size))
    clear hb7 C6
    go_wp2_with fail
    refine (left_sl t gt w7 (T5.out.below C7.out) LT.out (TT5.out.below C7.out)).mono ?_
    rintro e8 w8 ⟨rfl, hb8⟩
    have C8 := veil (C7.out.trans (hb8.mono C7.out.size))
    have B8 := veil (B5.out.trans (C8.out.mono B5.out.size))
    have z1 := B1.out.size
    have z2 := B2.out.size
    have z3 := B3.out.size
    have RS := veil (RowW.of_own (own_belowY OS5.out C8.out))
    have RT := veil (RowW.of_own (own_low (own_belowY OT5.out C8.out) z1))
    have R1 := veil (RowW.of_own (own_low (own_belowY O15.out C8.out) z2))
    have R2 := veil (RowW.of_own (own_low (own_belowY O25.out C8.out) z3))
    have KB0 := veil (KB.new w.heap.size w w8 B8.out.size B8.out 42)
    clear hb8 C7 C8 S5 T5 TS5 TT5 OS5 OT5 O15 O25 z1 z2 z3 B1 B2 B3 B4 B5
    go_wp2_with fail
    refine (KB0.out.tell (.slice (some ⟨gs, 0, none⟩) s.len (s.len + 1)) s.len _ (by simp) (RS.out.alloc _) (fun k e => (RS.out.lt k e).2) (fun p hp => by simp at hp)).mono ?_
    rintro e9 w9 ⟨rfl, kb1, hh1⟩
    have KB1 := veil kb1
    have HH1 := veil ((Holds.alloc w.heap.size w8.heap.size w8 (.cells bookZ 42)).trans hh1)
    clear kb1 hh1 KB0
    go_wp2_with fail
    refine (KB1.out.tell (.slice (some ⟨gt, 0, none⟩) t.len (t.len + 1)) t.len _ (by simp) (HH1.out _ _ _ RT.out (fun k e => (RT.out.lt k e).2)) (fun k e => (RT.out.lt k e).2) (fun p hp => by
      simp only [List.nil_append, List.mem_cons, List.not_mem_nil, or_false] at hp
      subst hp
      exact AST.out)).mono ?_
    rintro e10 w10 ⟨rfl, kb2, hh2⟩
    have KB2 := veil kb2
    have HH2 := veil (HH1.out.trans hh2)
    clear kb2 hh2 KB1 HH1
    go_wp2_with fail
    refine (KB2.out.tell (.slice a1 n0 c1) n0 _ (by simp) (HH2.out _ _ _ R1.out (fun k e => (R1.out.lt k e).2)) (fun k e => (R1.out.lt k e).2) (fun p hp => by
      simp only [List.nil_append, List.cons_append, List.mem_cons, List.not_mem_nil, or_false] at hp
      rcases hp with rfl | rfl
      · exact AS1.out
      · exact AT1.out)).mono ?_
    rintro e11 w11 ⟨rfl, kb3, hh3⟩
    have KB3 := veil kb3
    have HH3 := veil (HH2.out.trans hh3)
    clear kb3 hh3 KB2 HH2
    go_wp2_with fail
    refine (KB3.out.tell (.slice a2 n0 c2) n0 _ (by simp) (HH3.out _ _ _ R2.out (fun k e => (R2.out.lt k e).2)) (fun k e => (R2.out.lt k e).2) (fun p hp => by
      simp only [List.nil_append, List.cons_append, List.mem_cons, List.not_mem_nil, or_false] at hp
      rcases hp with rfl | rfl | rfl
      · exact AS2.out
      · exact AT2.out
      · exact A12.out)).mono ?_
    rintro e12 w12 ⟨rfl, kb4, hh4⟩
    have KB4 := veil kb4
    clear kb4 hh4 KB3 HH3
    go_wp2_with fail
    refine (KB4.out.apart (by simp) (by simp) (fun p hp => by
      simp only [List.nil_append, List.cons_append, List.mem_cons, List.not_mem_nil, or_false] at hp
      have := LS.out
      have := LT.out
      have := HN0.out
      rcases hp with rfl | rfl | rfl | rfl
      · show s.len ≤ _; omega
      · show t.len ≤ _; omega
      · show n0 ≤ _; omega
      · show n0 ≤ _; omega)).mono ?_
    rintro e13 w13 ⟨rfl, hb13⟩
    have B13 := veil hb13
    clear hb13 KB4
    go_wp2_with fail
    refine (lives_any w13 (HG.out.below B13.out (Nat.le_refl _))).mono ?_
    rintro e14 w14 ⟨rfl, hb14⟩
    have B14 := veil (B13.out.trans (hb14.mono B13.out.size))
    clear hb14
    go_wp2_with fail
    go_ret
    exact ⟨rfl, B14.out⟩
  · have d1 : decide ((20000 : Int) < (t.len : Int)) = true := decide_eq_true (by omega)
    have d2 : decide ((t.len : Int) ≤ 1048576) = false := decide_eq_false (by omega)
    clear h1 h2
    go_wp2_with fail
    refine HGO.out.mono ?_
    rintro e1 w1 ⟨gs, rfl, hts, hos, hb1⟩
    have B1 := veil hb1
    have S1 := veil (HS.out.below hb1)
    have T1 := veil (HT.out.below hb1)
    have TS1 := veil hts
    have OS1 := veil hos
    clear hb1 hts hos HGO
    go_wp2_with fail
    refine (twin_own t w1 T1.out LT.out).mono ?_
    rintro e2 w2 ⟨gt, rfl, htt, hot, hb2⟩
    have B2 := veil (B1.out.trans (hb2.mono B1.out.size))
    have S2 := veil (S1.out.below hb2)
    have T2 := veil (T1.out.below hb2)
    have TS2 := veil (TS1.out.below hb2)
    have OS2 := veil (own_belowY OS1.out hb2)
    have TT2 := veil htt
    have OT2 := veil hot
    have AST := veil (own_apart OS1.out hot)
    clear hb2 htt hot S1 T1 TS1 OS1
    go_wp2_with fail
    refine (HX.out (twinS gs s.len s.b) (twinS gt t.len t.b) w2 (TS2.out.ok hsb.out) (TT2.out.ok htb.out) rfl rfl).mono ?_
    rintro e3 w3 ⟨a1, c1, rfl, ho1, hb3⟩
    have B3 := veil (B2.out.trans (hb3.mono B2.out.size))
    have S3 := veil (S2.out.below hb3)
    have T3 := veil (T2.out.below hb3)
    have TS3 := veil (TS2.out.below hb3)
    have TT3 := veil (TT2.out.below hb3)
    have OS3 := veil (own_belowY OS2.out hb3)
    have OT3 := veil (own_belowY OT2.out hb3)
    have O13 := veil ho1
    have AS1 := veil (own_apart OS2.out ho1)
    have AT1 := veil (own_apart OT2.out ho1)
    clear hb3 ho1 S2 T2 TS2 TT2 OS2 OT2
    go_wp2_with fail
    refine (HX.out (twinS gs s.len s.b) (twinS gt t.len t.b) w3 (TS3.out.ok hsb.out) (TT3.out.ok htb.out) rfl rfl).mono ?_
    rintro e4 w4 ⟨a2, c2, rfl, ho2, hb4⟩
    have B4 := veil (B3.out.trans (hb4.mono B3.out.size))
    have S4 := veil (S3.out.below hb4)
    have T4 := veil (T3.out.below hb4)
    have TS4 := veil (TS3.out.below hb4)
    have TT4 := veil (TT3.out.below hb4)
    have OS4 := veil (own_belowY OS3.out hb4)
    have OT4 := veil (own_belowY OT3.out hb4)
    have O14 := veil (own_belowY O13.out hb4)
    have O24 := veil ho2
    have AS2 := veil (own_apart OS3.out ho2)
    have AT2 := veil (own_apart OT3.out ho2)
    have A12 := veil (own_apart O13.out ho2)
    clear hb4 ho2 S3 T3 TS3 TT3 OS3 OT3 O13
    go_wp2_with fail
    refine (HR.out s t w4 S4.out T4.out rfl rfl).mono ?_
    rintro e5 w5 ⟨z, rfl, hz, hzb, hb5⟩
    have B5 := veil (B4.out.trans (hb5.mono B4.out.size))
    have S5 := veil (S4.out.below hb5)
    have T5 := veil (T4.out.below hb5)
    have TS5 := veil (TS4.out.below hb5)
    have TT5 := veil (TT4.out.below hb5)
    have OS5 := veil (own_belowY OS4.out hb5)
    have OT5 := veil (own_belowY OT4.out hb5)
    have O15 := veil (own_belowY O14.out hb5)
    have O25 := veil (own_belowY O24.out hb5)
    have HSM : Hid (Calls Tryz.prog 10 #[.slice a1 n0 c1, .slice z.a z.len z.cap] w5 fun e w' => e = .returned (.bool true) ∧ Below w5.heap.size w5 w') := by
      obtain ⟨q1, hv1, hl1, hq1, hok1, _⟩ := SL.of_own O15.out
      have hv' : (.slice a1 n0 c1 : Value) = .slice q1.a q1.len q1.cap := hv1.symm
      rw [hv']
      exact same_yesK q1 z w5 hok1 hz (by have := HN0.out; omega) (by rw [hq1, hzb])
    clear hb5 hz hzb S4 T4 TS4 TT4 OS4 OT4 O14 O24
    go_wp2_with fail
    refine HSM.out.mono ?_
    rintro e6 w6 ⟨rfl, hb6⟩
    have C6 := veil hb6
    clear hb6 HSM
    go_wp2_with fail
    refine (left_sl s gs w6 (S5.out.below C6.out) LS.out (TS5.out.below C6.out)).mono ?_
    rintro e7 w7 ⟨rfl, hb7⟩
    have C7 := veil (C6.out.trans (hb7.mono C6.out.size))
    clear hb7 C6
    go_wp2_with fail
    refine (left_sl t gt w7 (T5.out.below C7.out) LT.out (TT5.out.below C7.out)).mono ?_
    rintro e8 w8 ⟨rfl, hb8⟩
    have C8 := veil (C7.out.trans (hb8.mono C7.out.size))
    have B8 := veil (B5.out.trans (C8.out.mono B5.out.size))
    have z1 := B1.out.size
    have z2 := B2.out.size
    have z3 := B3.out.size
    have RS := veil (RowW.of_own (own_belowY OS5.out C8.out))
    have RT := veil (RowW.of_own (own_low (own_belowY OT5.out C8.out) z1))
    have R1 := veil (RowW.of_own (own_low (own_belowY O15.out C8.out) z2))
    have R2 := veil (RowW.of_own (own_low (own_belowY O25.out C8.out) z3))
    have KB0 := veil (KB.new w.heap.size w w8 B8.out.size B8.out 42)
    clear hb8 C7 C8 S5 T5 TS5 TT5 OS5 OT5 O15 O25 z1 z2 z3 B1 B2 B3 B4 B5
    go_wp2_with fail
    refine (KB0.out.tell (.slice (some ⟨gs, 0, none⟩) s.len (s.len + 1)) s.len _ (by simp) (RS.out.alloc _) (fun k e => (RS.out.lt k e).2) (fun p hp => by simp at hp)).mono ?_
    rintro e9 w9 ⟨rfl, kb1, hh1⟩
    have KB1 := veil kb1
    have HH1 := veil ((Holds.alloc w.heap.size w8.heap.size w8 (.cells bookZ 42)).trans hh1)
    clear kb1 hh1 KB0
    go_wp2_with fail
    refine (KB1.out.tell (.slice (some ⟨gt, 0, none⟩) t.len (t.len + 1)) t.len _ (by simp) (HH1.out _ _ _ RT.out (fun k e => (RT.out.lt k e).2)) (fun k e => (RT.out.lt k e).2) (fun p hp => by
      simp only [List.nil_append, List.mem_cons, List.not_mem_nil, or_false] at hp
      subst hp
      exact AST.out)).mono ?_
    rintro e10 w10 ⟨rfl, kb2, hh2⟩
    have KB2 := veil kb2
    have HH2 := veil (HH1.out.trans hh2)
    clear kb2 hh2 KB1 HH1
    go_wp2_with fail
    refine (KB2.out.tell (.slice a1 n0 c1) n0 _ (by simp) (HH2.out _ _ _ R1.out (fun k e => (R1.out.lt k e).2)) (fun k e => (R1.out.lt k e).2) (fun p hp => by
      simp only [List.nil_append, List.cons_append, List.mem_cons, List.not_mem_nil, or_false] at hp
      rcases hp with rfl | rfl
      · exact AS1.out
      · exact AT1.out)).mono ?_
    rintro e11 w11 ⟨rfl, kb3, hh3⟩
    have KB3 := veil kb3
    have HH3 := veil (HH2.out.trans hh3)
    clear kb3 hh3 KB2 HH2
    go_wp2_with fail
    refine (KB3.out.tell (.slice a2 n0 c2) n0 _ (by simp) (HH3.out _ _ _ R2.out (fun k e => (R2.out.lt k e).2)) (fun k e => (R2.out.lt k e).2) (fun p hp => by
      simp only [List.nil_append, List.cons_append, List.mem_cons, List.not_mem_nil, or_false] at hp
      rcases hp with rfl | rfl | rfl
      · exact AS2.out
      · exact AT2.out
      · exact A12.out)).mono ?_
    rintro e12 w12 ⟨rfl, kb4, hh4⟩
    have KB4 := veil kb4
    clear kb4 hh4 KB3 HH3
    go_wp2_with fail
    refine (KB4.out.apart (by simp) (by simp) (fun p hp => by
      simp only [List.nil_append, List.cons_append, List.mem_cons, List.not_mem_nil, or_false] at hp
      have := LS.out
      have := LT.out
      have := HN0.out
      rcases hp with rfl | rfl | rfl | rfl
      · show s.len ≤ _; omega
      · show t.len ≤ _; omega
      · show n0 ≤ _; omega
      · show n0 ≤ _; omega)).mono ?_
    rintro e13 w13 ⟨rfl, hb13⟩
    have B13 := veil hb13
    clear hb13 KB4
    go_wp2_with fail
    refine (lives_any w13 (HG.out.below B13.out (Nat.le_refl _))).mono ?_
    rintro e14 w14 ⟨rfl, hb14⟩
    have B14 := veil (B13.out.trans (hb14.mono B13.out.size))
    clear hb14
    go_wp2_with fail
    go_ret
    exact ⟨rfl, B14.out⟩
end Go.Proofs.YtlicflmpakkccaaGreatDoor
