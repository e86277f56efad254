/-
  Bytes as a greeting: the program's Get. Written by mkheget.py.
-/
import Derived.Test.YtjccjlhnjihfjaaDoorGhHeGetP
namespace Go.Proofs.YtjccjlhnjihfjaaDoor
open Go Go.RowKit

def GetR (b : List By) (w : World) (e : Ending) (w' : World) : Prop :=
  e = .returned (.tuple #[.agg (heC (He.got b).1), .int .i64 ((He.got b).2.1 : Int), .int .i64 ((He.got b).2.2 : Int)]) ∧ Below w.heap.size w w'
theorem wrap_i64H {x : Int} (h0 : 0 ≤ x) (h : x ≤ 9223372036854775807) : IntKind.i64.wrap x = x := by
  rw [IntKind.wrap_i64]
  omega
def lAtN (l : He.Q4) : Nat → Nat := nAt l
theorem qv_lAtN (l : He.Q4) (j : Nat) (h : j < 4) : (qv l)[j]? = some (.int .u64 (lAtN l j : Int)) := by
  match j, h with
  | 0, _ => rfl
  | 1, _ => rfl
  | 2, _ => rfl
  | 3, _ => rfl
theorem store_midL {P : Program} {ops : Array Oper} {rest : List Oper} {o : Oper} {a : Act} {w : World} {Q : Exit → Act → World → Prop} (hgd : o.guard = none) (ty : TypeId) (x y : Operand) (ho : o.op = .store ty x y) (g off : Nat) (cs : List Value) (hx : a.eval x = .pointer (some ⟨g, off, none⟩)) (hy : a.eval y = .agg cs.toArray)
    (hi : (P.info? ty).map (·.size) = some cs.length) (h1 : cs.toArray.all (·.oneCell') = true) (ht : w.there g off cs.length) (h : wpList P ops Q rest (a.put o.dst undef) (w.setCells g off cs)) : wpList P ops Q (o :: rest) a w :=
  wpList_store_mid hgd ty x y ho g off cs.toArray hx hy (by simpa using ht) (by simpa using hi) h1 h
theorem H0_fine : He.H0.Fine := ⟨rfl, rfl⟩

set_option maxRecDepth 20000 in
set_option maxHeartbeats 1000000 in
theorem get_empty (s : SL) (w : World) (h0 : s.len = 0) (hb : s.b.length = s.len) :
    Calls Tryd.prog 16 #[.slice s.a s.len s.cap] w (GetR s.b w) := by
  have e : s.b = [] := List.eq_nil_of_length_eq_zero (by omega)
  have hg : He.got s.b = (He.H0, 0, 4) := by rw [e]; rfl
  unfold GetR
  rw [hg, h0]
  have r1 : Row (w.alloc (.cells Tryd.zeroCells27 27)) w.heap.size 27 Tryd.zeroCells27 := Row.new _ _ _
  have b1 : Below w.heap.size w (w.alloc (.cells Tryd.zeroCells27 27)) := (Below.refl _ w).alloc (Nat.le_refl _) _
  have hz : (Tryd.zeroCells27).size = 69 := by kernel_rfl
  clear hg e h0 hb
  go_enter Tryd.func16, Tryd.ntmps16
  go_wp2_with (first
    | (with_reducible (show wpList _ _ _ (⟨_, Op.build 27 _, _, _, _, _⟩ :: _) _ _)
       refine build_row rfl 27 _ rfl (heC He.H0) (by kernel_rfl) ?_)
    | (with_reducible (show wpList _ _ _ (⟨_, Op.store 27 _ _, _, _, _, _⟩ :: _) _ _)
       refine store_row rfl 27 _ _ rfl w.heap.size (heC He.H0) rfl rfl _ _ r1 69 (by kernel_rfl) hz (heC_size H0_fine) (he_one _) ?_))
  exact bodyPost_ret (result_str2 rfl _ _ w.heap.size _ _ (r1.put _) 69 _ (.int .i64 0) (.int .i64 4) rfl rfl rfl Tryd.underlying27 (by kernel_rfl) (heC_size H0_fine)) rfl ⟨rfl, bSetRow b1 (Nat.le_refl _) _⟩

set_option maxRecDepth 20000 in
set_option maxHeartbeats 2000000 in
theorem get_form (s : SL) (w : World) (k : By) (t : List By) (hs : s.Ok w) (hl : s.len ≤ 140737488355328) (hb : s.b = k :: t) (hk : He.isK k = false) :
    Calls Tryd.prog 16 #[.slice s.a s.len s.cap] w (GetR s.b w) := by
  have hp : 0 < s.len := by rw [← hs.hb, hb]; exact Nat.succ_pos _
  have hp1 : 1 ≤ s.len := hp
  have hpI : (0 : Int) < (s.len : Int) := by omega
  have hne : ((s.len : Int) == 0) = false := by simp; omega
  have ha := hs.at_ hp
  have hk0 : gb s.b 0 = k := by rw [hb]; rfl
  have ht : s.Told := fun p e => by rw [ha] at e; exact (Option.some.inj e).symm
  have cb : w.cell? ⟨s.g, s.off, none⟩ = some (.int .u8 (v8 k)) := by have := hs.cell 0 hp; rwa [hk0] at this
  have hlt := hs.lt hp
  obtain ⟨W0, hW0⟩ : ∃ W0, W0 = (w.alloc (.cells Tryd.zeroCells27 27)).alloc (.cells (heC (heK k)) 27) := ⟨_, rfl⟩
  have b0 : Below w.heap.size w W0 := by rw [hW0]; exact ((Below.refl _ w).alloc (Nat.le_refl _) _).alloc (by simp) _
  have r1 : Row W0 w.heap.size 27 Tryd.zeroCells27 := by rw [hW0]; exact (Row.new _ _ _).alloc _
  have r2 : Row W0 (w.heap.size + 1) 27 (heC (heK k)) := by rw [hW0]; exact Row.new1 _ _ _ _
  have sz0 : W0.heap.size = w.heap.size + 1 + 1 := by rw [hW0]; simp
  have HS := veil hs
  have HT := veil ht
  have HL := veil hl
  have HNIL := veil hs.nil
  have HB := veil hb
  have HI := veil (isKind_any k W0)
  have hz : (Tryd.zeroCells27).size = 69 := by kernel_rfl
  have c0 : W0.cell? ⟨w.heap.size + 1, 0, none⟩ = some (.int .u8 (v8 k)) := r2.cell 0
  have hh : (heC (heK k))[0]? = some (.int .u8 (v8 k)) := rfl
  have HIS := veil hk
  have HG := veil (show He.got s.b = (He.H0, 0, 5) by
    rw [hb]
    unfold He.got
    simp only
    rw [if_pos hk])
  clear hs hl hb ht hk0 hk
  rw [ha] at HNIL ⊢
  go_enter Tryd.func16, Tryd.ntmps16
  go_wp2_with (first
    | (with_reducible (show wpList _ _ _ (⟨some 18, Op.build 27 _, _, _, _, _⟩ :: _) _ _)
       refine build_row rfl 27 _ rfl (heC (heK k)) (by kernel_rfl) ?_)
    | (with_reducible (show wpList _ _ _ (⟨_, Op.store 27 (.tmp 5) _, _, _, _, _⟩ :: _) _ _)
       refine store_new rfl 27 _ _ rfl (w.heap.size + 1) (heC (heK k)) rfl rfl _ _ (by simp) 69 (by kernel_rfl) (by kernel_rfl) (heC_size (heK_fine _)) (he_one _) ?_))
  show Calls _ _ _ ((w.alloc (.cells Tryd.zeroCells27 27)).alloc (.cells (heC (heK k)) 27)) _
  rw [← hW0]
  clear hW0
  refine HI.out.mono ?_
  rintro e1 w1 ⟨rfl, hw1⟩
  obtain rfl := hw1
  clear HI
  rw [HIS.out]
  have R1 := veil r1
  have B0 := veil b0
  clear r1 r2 b0 c0 cb
  go_wp2_with (first
    | (with_reducible (show wpList _ _ _ (⟨_, Op.build 27 _, _, _, _, _⟩ :: _) _ _)
       refine build_row rfl 27 _ rfl (heC He.H0) (by kernel_rfl) ?_)
    | (with_reducible (show wpList _ _ _ (⟨_, Op.store 27 _ _, _, _, _, _⟩ :: _) _ _)
       refine store_row rfl 27 _ _ rfl w.heap.size (heC He.H0) rfl rfl _ _ R1.out 69 (by kernel_rfl) hz (heC_size H0_fine) (he_one _) ?_))
  unfold GetR
  rw [HG.out]
  exact bodyPost_ret (result_str2 rfl _ _ w.heap.size _ _ (R1.out.put _) 69 _ (.int .i64 0) (.int .i64 5) rfl rfl rfl Tryd.underlying27 (by kernel_rfl) (heC_size H0_fine)) rfl ⟨rfl, bSetRow B0.out (Nat.le_refl _) _⟩

set_option maxRecDepth 20000 in
set_option maxHeartbeats 2000000 in
theorem get_ft (s : SL) (w : World) (k : By) (t : List By) (hs : s.Ok w) (hl : s.len ≤ 140737488355328) (hb : s.b = k :: t) (hL : Lens w) (ho : He.opn k = false) (hp : He.prv k = true) :
    Calls Tryd.prog 16 #[.slice s.a s.len s.cap] w (GetR s.b w) := by
  have hp0 : 0 < s.len := by rw [← hs.hb, hb]; exact Nat.succ_pos _
  have hp1 : 1 ≤ s.len := hp0
  have hpI : (0 : Int) < (s.len : Int) := by omega
  have hne : ((s.len : Int) == 0) = false := by simp; omega
  have ha := hs.at_ hp0
  have hk0 : gb s.b 0 = k := by rw [hb]; rfl
  have ht : s.Told := fun p e => by rw [ha] at e; exact (Option.some.inj e).symm
  have cb : w.cell? ⟨s.g, s.off, none⟩ = some (.int .u8 (v8 k)) := by have := hs.cell 0 hp0; rwa [hk0] at this
  have hlt := hs.lt hp0
  obtain ⟨W0, hW0⟩ : ∃ W0, W0 = (w.alloc (.cells Tryd.zeroCells27 27)).alloc (.cells (heC (heK k)) 27) := ⟨_, rfl⟩
  have b0 : Below w.heap.size w W0 := by rw [hW0]; exact ((Below.refl _ w).alloc (Nat.le_refl _) _).alloc (by simp) _
  have r1 : Row W0 w.heap.size 27 Tryd.zeroCells27 := by rw [hW0]; exact (Row.new _ _ _).alloc _
  have r2 : Row W0 (w.heap.size + 1) 27 (heC (heK k)) := by rw [hW0]; exact Row.new1 _ _ _ _
  have sz0 : W0.heap.size = w.heap.size + 1 + 1 := by rw [hW0]; simp
  have HS := veil hs
  have HT := veil ht
  have HL := veil hl
  have HNIL := veil hs.nil
  have HB := veil hb
  have HI := veil (isKind_any k W0)
  have hz : (Tryd.zeroCells27).size = 69 := by kernel_rfl
  have c0 : W0.cell? ⟨w.heap.size + 1, 0, none⟩ = some (.int .u8 (v8 k)) := r2.cell 0
  have hh : (heC (heK k))[0]? = some (.int .u8 (v8 k)) := rfl
  have HIS := veil (show He.isK k = true by unfold He.isK; rw [ho, hp]; rfl)
  have HO := opens_any k
  have HP := proves_any k
  rw [ho] at HO
  rw [hp] at HP
  have HOV := veil HO
  have HPV := veil HP
  have HLV := veil hL
  have HCUT := veil (cutF_ok (hs.below b0) ht 1 hp1)
  have hdrop : s.b.drop 1 = t := by rw [hb]; rfl
  have HRO := veil (show He.rO k (t, false) = ((He.zs, He.z4), (t, false)) from by unfold He.rO; rw [ho]; rfl)
  have HRP := veil (show ∀ z, He.rP k z = He.rN z from fun z => by unfold He.rP; rw [hp]; rfl)
  have hT : t.length + 1 = s.len := by rw [← hs.hb, hb]; rfl
  have HTL := veil hT
  clear hs hl hb ht hk0 ho hp HO HP hL hT
  rw [ha] at HNIL ⊢
  go_enter Tryd.func16, Tryd.ntmps16
  go_wp2_with (first
    | (with_reducible (show wpList _ _ _ (⟨some 18, Op.build 27 _, _, _, _, _⟩ :: _) _ _)
       refine build_row rfl 27 _ rfl (heC (heK k)) (by kernel_rfl) ?_)
    | (with_reducible (show wpList _ _ _ (⟨_, Op.store 27 (.tmp 5) _, _, _, _, _⟩ :: _) _ _)
       refine store_new rfl 27 _ _ rfl (w.heap.size + 1) (heC (heK k)) rfl rfl _ _ (by simp) 69 (by kernel_rfl) (by kernel_rfl) (heC_size (heK_fine _)) (he_one _) ?_))
  show Calls _ _ _ ((w.alloc (.cells Tryd.zeroCells27 27)).alloc (.cells (heC (heK k)) 27)) _
  rw [← hW0]
  clear hW0
  refine HI.out.mono ?_
  rintro e1 w1 ⟨rfl, hw1⟩
  obtain rfl := hw1
  clear HI
  rw [HIS.out]
  go_wp2_with (with_reducible (show wpList _ _ _ (⟨some 25, Op.slice _ _ _ _ _, _, _, _, _⟩ :: _) _ _)
               refine value_wp rfl _ (run_cutF 28 5 _ _ s 1 HT.out (fun e => by rw [ha] at e; cases e) rfl (by rw [ha]; rfl) rfl Tryd.underlying28 (by kernel_rfl) hp1 _) ?_)
  obtain ⟨W1, hW1⟩ : ∃ W1, W1 = w1.alloc (.cells (hrC (cutF s 1) false) 70) := ⟨_, rfl⟩
  show Calls _ _ _ (w1.alloc (.cells (hrC (cutF s 1) false) 70)) _
  rw [← hW1]
  have gi : GI w s (heK k) (cutF s 1) false W1 := by
    rw [hW1]
    exact ⟨heK_fine k, r1.alloc _, r2.alloc _, by have := Row.new w1 70 (hrC (cutF s 1) false); rwa [sz0] at this, HCUT.out.1.alloc _, HCUT.out.2.1, HCUT.out.2.2.2.2, by rw [HCUT.out.2.2.1]; omega, b0.alloc b0.size _, fun _ => hlt⟩
  have I1 := veil gi
  have E1 := veil (show (cutF s 1).b = t from HCUT.out.2.2.2.1.trans hdrop)
  clear gi r1 r2 b0 c0 cb hW1 HCUT hdrop sz0
  refine (HOV.out W1).mono ?_
  rintro e2 w2 ⟨rfl, hw2⟩
  obtain rfl := hw2
  clear HOV
  have E1P := veil (show ((cutF s 1).b, false) = (t, false) by rw [E1.out])
  have cK : w2.cell? ⟨w.heap.size + 1, 0, none⟩ = some (.int .u8 (v8 k)) := by have := I1.out.r2.cell 0; rw [heC_0] at this; exact this
  go_wp2_with fail
  refine (HPV.out w2).mono ?_
  rintro e7 w7 ⟨rfl, hw7⟩
  obtain rfl := hw7
  clear HPV
  go_wp2_with fail
  refine (gi_field I1.out HL.out).mono ?_
  rintro e8 w8 ⟨q8, rfl, i8, b8⟩
  rw [E1P.out] at i8 b8 ⊢
  have I8 := veil i8
  have E8 := veil b8
  have H33 := veil (rN_length ((t, false)))
  clear i8 b8 cK
  have HI8 := veil (show (Tryd.prog.info? 23).map (·.size) = some (vb (He.rN ((t, false))).1).length by rw [vb_length, H33.out]; kernel_rfl)
  have HT8 := veil (I8.out.r2.thereH 37 (vb (He.rN ((t, false))).1).length (by rw [heC_size I8.out.fine, vb_length, H33.out]; omega))
  have I9 := veil (I8.out.proof _ H33.out)
  obtain ⟨w9, hW9⟩ : ∃ w9, w8.setCells (w.heap.size + 1) 37 (vb (He.rN ((t, false))).1) = w9 := ⟨_, rfl⟩
  rw [hW9] at I9
  have HW9 := veil hW9
  clear I8 hW9
  obtain ⟨R, hR⟩ : ∃ R, R = He.rH k t := ⟨_, rfl⟩
  have IX := veil (show GI w s R.1 q8 R.2.2 w9 by
    have := I9.out
    rw [hR]
    unfold He.rH
    rw [HRP.out, HRO.out]
    exact this)
  have EX := veil (show q8.b = R.2.1 by
    rw [hR]
    unfold He.rH
    rw [HRP.out, HRO.out]
    exact E8.out)
  clear I9 E8
  have HR := veil hR
  have cf : w9.cell? ⟨w.heap.size + 1 + 1, 1, none⟩ = some (.bool R.2.2) := IX.out.r3.cell 1
  have cr : w9.cell? ⟨w.heap.size + 1 + 1, 0, none⟩ = some (.slice q8.a q8.len q8.cap) := IX.out.r3.cell 0
  have HQL := veil IX.out.ql
  have HQB := veil (show q8.len = R.2.1.length by rw [← EX.out, IX.out.ok.hb])
  clear hR
  cases hf : R.2.2 with
  | true =>
    rw [hf] at cf
    have HG := veil (show He.got s.b = (He.H0, 0, 4) by
      rw [HB.out]
      unfold He.got
      simp only
      rw [if_neg (by rw [HIS.out]; decide), ← HR.out, if_pos hf])
    have R1 := veil IX.out.r1
    have B1 := veil IX.out.bel
    clear IX EX
    go_wp2_with (first
      | (with_reducible (show wpList _ _ _ (⟨_, Op.store 23 _ _, _, _, _, _⟩ :: _) _ _)
         refine store_midL rfl 23 _ _ rfl (w.heap.size + 1) 37 (vb (He.rN ((t, false))).1) rfl rfl HI8.out (vb_oneH _) HT8.out ?_
         rw [HW9.out])
      | (with_reducible (show wpList _ _ _ (⟨_, Op.build 27 _, _, _, _, _⟩ :: _) _ _)
         refine build_row rfl 27 _ rfl (heC He.H0) (by kernel_rfl) ?_)
      | (with_reducible (show wpList _ _ _ (⟨_, Op.store 27 _ _, _, _, _, _⟩ :: _) _ _)
         refine store_row rfl 27 _ _ rfl w.heap.size (heC He.H0) rfl rfl _ _ R1.out 69 (by kernel_rfl) hz (heC_size H0_fine) (he_one _) ?_))
    unfold GetR
    rw [HG.out]
    exact bodyPost_ret (result_str2 rfl _ _ w.heap.size _ _ (R1.out.put _) 69 _ (.int .i64 0) (.int .i64 4) rfl rfl rfl Tryd.underlying27 (by kernel_rfl) (heC_size H0_fine)) rfl ⟨rfl, bSetRow B1.out (Nat.le_refl _) _⟩
  | false =>
    rw [hf] at cf
    have hsub : (s.len : Int) - (q8.len : Int) = ((s.len - q8.len : Nat) : Int) := by have := HQL.out; omega
    have hfit1 : ((s.len - q8.len : Nat) : Int) ≤ 9223372036854775807 := by have := HL.out; omega
    have hsub2 : IntKind.i64.wrap ((s.len : Int) - (q8.len : Int)) = ((s.len - q8.len : Nat) : Int) := by
      rw [hsub]
      exact wrap_i64H (by omega) hfit1
    go_wp2_with (first
      | (with_reducible (show wpList _ _ _ (⟨_, Op.store 23 _ _, _, _, _, _⟩ :: _) _ _)
         refine store_midL rfl 23 _ _ rfl (w.heap.size + 1) 37 (vb (He.rN ((t, false))).1) rfl rfl HI8.out (vb_oneH _) HT8.out ?_
         rw [HW9.out])
      | (with_reducible (show wpList _ _ _ (⟨some 55, Op.load 27 _, _, _, _, _⟩ :: _) _ _)
         refine load_strL rfl 27 _ rfl (w.heap.size + 1) rfl _ _ IX.out.r2 69 _ Tryd.underlying27 (by kernel_rfl) (heC_size IX.out.fine) ?_))
    refine (put_any R.1 IX.out.fine w9 (HLV.out.step IX.out.bel)).mono ?_
    rintro e10 w10 ⟨a10, c10, rfl, _, bb10⟩
    have R1 := veil (IX.out.r1.below bb10 IX.out.r1.lt)
    have R2 := veil (IX.out.r2.below bb10 IX.out.r2.lt)
    have B1 := veil (IX.out.bel.trans (bb10.mono IX.out.bel.size))
    have HFI := veil IX.out.fine
    have hlen : (k :: t).length - R.2.1.length = s.len - q8.len := by rw [← HQB.out]; have := HTL.out; rw [List.length_cons]; omega
    clear IX EX bb10 cf cr
    by_cases hm : R.1.may
    · have e1 : He.putO R.1 = R.1.bytes := by unfold He.putO; rw [if_pos hm]
      have e2 : He.putE R.1 = 0 := by unfold He.putE; rw [if_pos hm]
      rw [e1, e2]
      by_cases hq : R.1.bytes.length = s.len - q8.len
      · have hneq : ((R.1.bytes.length : Int) != ((s.len - q8.len : Nat) : Int)) = false := by simp; omega
        have HG := veil (show He.got s.b = (R.1, s.len - q8.len, 0) by
          rw [HB.out]
          unfold He.got
          simp only
          rw [if_neg (by rw [HIS.out]; decide), ← HR.out, if_neg (by rw [hf]; decide), hlen, if_pos ⟨hm, hq⟩])
        clear e1 e2 hm hq
        go_wp2_with (first
          | (with_reducible (show wpList _ _ _ (⟨some 68, Op.load 27 _, _, _, _, _⟩ :: _) _ _)
             refine load_strL rfl 27 _ rfl (w.heap.size + 1) rfl _ _ R2.out 69 _ Tryd.underlying27 (by kernel_rfl) (heC_size HFI.out) ?_)
          | (with_reducible (show wpList _ _ _ (⟨_, Op.store 27 _ _, _, _, _, _⟩ :: _) _ _)
             refine store_row rfl 27 _ _ rfl w.heap.size (heC R.1) rfl rfl _ _ R1.out 69 (by kernel_rfl) hz (heC_size HFI.out) (he_one _) ?_))
        unfold GetR
        rw [HG.out]
        exact bodyPost_ret (result_str2 rfl _ _ w.heap.size _ _ (R1.out.put _) 69 _ (.int .i64 ((s.len - q8.len : Nat) : Int)) (.int .i64 0) rfl rfl rfl Tryd.underlying27 (by kernel_rfl) (heC_size HFI.out)) rfl ⟨rfl, bSetRow B1.out (Nat.le_refl _) _⟩
      · have hneq : ((R.1.bytes.length : Int) != ((s.len - q8.len : Nat) : Int)) = true := by simp; omega
        have HG := veil (show He.got s.b = (He.H0, 0, 5) by
          rw [HB.out]
          unfold He.got
          simp only
          rw [if_neg (by rw [HIS.out]; decide), ← HR.out, if_neg (by rw [hf]; decide), hlen, if_neg (fun h => hq h.2)])
        clear e1 e2 hm hq
        go_wp2_with (first
          | (with_reducible (show wpList _ _ _ (⟨_, Op.build 27 _, _, _, _, _⟩ :: _) _ _)
             refine build_row rfl 27 _ rfl (heC He.H0) (by kernel_rfl) ?_)
          | (with_reducible (show wpList _ _ _ (⟨_, Op.store 27 _ _, _, _, _, _⟩ :: _) _ _)
             refine store_row rfl 27 _ _ rfl w.heap.size (heC He.H0) rfl rfl _ _ R1.out 69 (by kernel_rfl) hz (heC_size H0_fine) (he_one _) ?_))
        unfold GetR
        rw [HG.out]
        exact bodyPost_ret (result_str2 rfl _ _ w.heap.size _ _ (R1.out.put _) 69 _ (.int .i64 0) (.int .i64 5) rfl rfl rfl Tryd.underlying27 (by kernel_rfl) (heC_size H0_fine)) rfl ⟨rfl, bSetRow B1.out (Nat.le_refl _) _⟩
    · have e1 : He.putO R.1 = [] := by unfold He.putO; rw [if_neg hm]
      have e2 : He.putE R.1 = 1 := by unfold He.putE; rw [if_neg hm]
      rw [e1, e2]
      have HG := veil (show He.got s.b = (He.H0, 0, 5) by
        rw [HB.out]
        unfold He.got
        simp only
        rw [if_neg (by rw [HIS.out]; decide), ← HR.out, if_neg (by rw [hf]; decide), hlen, if_neg (fun h => hm h.1)])
      clear e1 e2 hm
      go_wp2_with (first
        | (with_reducible (show wpList _ _ _ (⟨_, Op.build 27 _, _, _, _, _⟩ :: _) _ _)
           refine build_row rfl 27 _ rfl (heC He.H0) (by kernel_rfl) ?_)
        | (with_reducible (show wpList _ _ _ (⟨_, Op.store 27 _ _, _, _, _, _⟩ :: _) _ _)
           refine store_row rfl 27 _ _ rfl w.heap.size (heC He.H0) rfl rfl _ _ R1.out 69 (by kernel_rfl) hz (heC_size H0_fine) (he_one _) ?_))
      unfold GetR
      rw [HG.out]
      exact bodyPost_ret (result_str2 rfl _ _ w.heap.size _ _ (R1.out.put _) 69 _ (.int .i64 0) (.int .i64 5) rfl rfl rfl Tryd.underlying27 (by kernel_rfl) (heC_size H0_fine)) rfl ⟨rfl, bSetRow B1.out (Nat.le_refl _) _⟩

set_option maxRecDepth 20000 in
set_option maxHeartbeats 2000000 in
theorem get_tf (s : SL) (w : World) (k : By) (t : List By) (hs : s.Ok w) (hl : s.len ≤ 140737488355328) (hb : s.b = k :: t) (hL : Lens w) (ho : He.opn k = true) (hp : He.prv k = false) :
    Calls Tryd.prog 16 #[.slice s.a s.len s.cap] w (GetR s.b w) := by
  have hp0 : 0 < s.len := by rw [← hs.hb, hb]; exact Nat.succ_pos _
  have hp1 : 1 ≤ s.len := hp0
  have hpI : (0 : Int) < (s.len : Int) := by omega
  have hne : ((s.len : Int) == 0) = false := by simp; omega
  have ha := hs.at_ hp0
  have hk0 : gb s.b 0 = k := by rw [hb]; rfl
  have ht : s.Told := fun p e => by rw [ha] at e; exact (Option.some.inj e).symm
  have cb : w.cell? ⟨s.g, s.off, none⟩ = some (.int .u8 (v8 k)) := by have := hs.cell 0 hp0; rwa [hk0] at this
  have hlt := hs.lt hp0
  obtain ⟨W0, hW0⟩ : ∃ W0, W0 = (w.alloc (.cells Tryd.zeroCells27 27)).alloc (.cells (heC (heK k)) 27) := ⟨_, rfl⟩
  have b0 : Below w.heap.size w W0 := by rw [hW0]; exact ((Below.refl _ w).alloc (Nat.le_refl _) _).alloc (by simp) _
  have r1 : Row W0 w.heap.size 27 Tryd.zeroCells27 := by rw [hW0]; exact (Row.new _ _ _).alloc _
  have r2 : Row W0 (w.heap.size + 1) 27 (heC (heK k)) := by rw [hW0]; exact Row.new1 _ _ _ _
  have sz0 : W0.heap.size = w.heap.size + 1 + 1 := by rw [hW0]; simp
  have HS := veil hs
  have HT := veil ht
  have HL := veil hl
  have HNIL := veil hs.nil
  have HB := veil hb
  have HI := veil (isKind_any k W0)
  have hz : (Tryd.zeroCells27).size = 69 := by kernel_rfl
  have c0 : W0.cell? ⟨w.heap.size + 1, 0, none⟩ = some (.int .u8 (v8 k)) := r2.cell 0
  have hh : (heC (heK k))[0]? = some (.int .u8 (v8 k)) := rfl
  have HIS := veil (show He.isK k = true by unfold He.isK; rw [ho, hp]; rfl)
  have HO := opens_any k
  have HP := proves_any k
  rw [ho] at HO
  rw [hp] at HP
  have HOV := veil HO
  have HPV := veil HP
  have HLV := veil hL
  have HCUT := veil (cutF_ok (hs.below b0) ht 1 hp1)
  have hdrop : s.b.drop 1 = t := by rw [hb]; rfl
  have HRO := veil (show He.rO k (t, false) = (((He.rN (t, false)).1, (He.r4 (He.rN (t, false)).2).1), (He.r4 (He.rN (t, false)).2).2) from by unfold He.rO; rw [ho]; rfl)
  have HRP := veil (show ∀ z, He.rP k z = (He.zs, z) from fun z => by unfold He.rP; rw [hp]; rfl)
  have hT : t.length + 1 = s.len := by rw [← hs.hb, hb]; rfl
  have HTL := veil hT
  clear hs hl hb ht hk0 ho hp HO HP hL hT
  rw [ha] at HNIL ⊢
  go_enter Tryd.func16, Tryd.ntmps16
  go_wp2_with (first
    | (with_reducible (show wpList _ _ _ (⟨some 18, Op.build 27 _, _, _, _, _⟩ :: _) _ _)
       refine build_row rfl 27 _ rfl (heC (heK k)) (by kernel_rfl) ?_)
    | (with_reducible (show wpList _ _ _ (⟨_, Op.store 27 (.tmp 5) _, _, _, _, _⟩ :: _) _ _)
       refine store_new rfl 27 _ _ rfl (w.heap.size + 1) (heC (heK k)) rfl rfl _ _ (by simp) 69 (by kernel_rfl) (by kernel_rfl) (heC_size (heK_fine _)) (he_one _) ?_))
  show Calls _ _ _ ((w.alloc (.cells Tryd.zeroCells27 27)).alloc (.cells (heC (heK k)) 27)) _
  rw [← hW0]
  clear hW0
  refine HI.out.mono ?_
  rintro e1 w1 ⟨rfl, hw1⟩
  obtain rfl := hw1
  clear HI
  rw [HIS.out]
  go_wp2_with (with_reducible (show wpList _ _ _ (⟨some 25, Op.slice _ _ _ _ _, _, _, _, _⟩ :: _) _ _)
               refine value_wp rfl _ (run_cutF 28 5 _ _ s 1 HT.out (fun e => by rw [ha] at e; cases e) rfl (by rw [ha]; rfl) rfl Tryd.underlying28 (by kernel_rfl) hp1 _) ?_)
  obtain ⟨W1, hW1⟩ : ∃ W1, W1 = w1.alloc (.cells (hrC (cutF s 1) false) 70) := ⟨_, rfl⟩
  show Calls _ _ _ (w1.alloc (.cells (hrC (cutF s 1) false) 70)) _
  rw [← hW1]
  have gi : GI w s (heK k) (cutF s 1) false W1 := by
    rw [hW1]
    exact ⟨heK_fine k, r1.alloc _, r2.alloc _, by have := Row.new w1 70 (hrC (cutF s 1) false); rwa [sz0] at this, HCUT.out.1.alloc _, HCUT.out.2.1, HCUT.out.2.2.2.2, by rw [HCUT.out.2.2.1]; omega, b0.alloc b0.size _, fun _ => hlt⟩
  have I1 := veil gi
  have E1 := veil (show (cutF s 1).b = t from HCUT.out.2.2.2.1.trans hdrop)
  clear gi r1 r2 b0 c0 cb hW1 HCUT hdrop sz0
  refine (HOV.out W1).mono ?_
  rintro e2 w2 ⟨rfl, hw2⟩
  obtain rfl := hw2
  clear HOV
  go_wp2_with fail
  refine (gi_field I1.out HL.out).mono ?_
  rintro e3 w3 ⟨q3, rfl, i3, b3⟩
  rw [E1.out] at i3 b3 ⊢
  have I3 := veil i3
  have E3 := veil b3
  have H32 := veil (rN_length (t, false))
  clear i3 b3
  have HI3 := veil (show (Tryd.prog.info? 23).map (·.size) = some (vb (He.rN (t, false)).1).length by rw [vb_length, H32.out]; kernel_rfl)
  have HT3 := veil (I3.out.r2.thereH 1 (vb (He.rN (t, false)).1).length (by rw [heC_size I3.out.fine, vb_length, H32.out]; omega))
  go_wp2_with (with_reducible (show wpList _ _ _ (⟨_, Op.store 23 _ _, _, _, _, _⟩ :: _) _ _)
               refine store_midL rfl 23 _ _ rfl (w.heap.size + 1) 1 (vb (He.rN (t, false)).1) rfl rfl HI3.out (vb_oneH _) HT3.out ?_)
  have I4 := veil (I3.out.nonce _ H32.out)
  generalize hW4 : w3.setCells (w.heap.size + 1) 1 (vb (He.rN (t, false)).1) = w4
  rw [hW4] at I4
  clear hW4 I3 HI3 HT3
  obtain ⟨Z, hZ⟩ : ∃ Z, Z = (He.rN (t, false)).2 := ⟨_, rfl⟩
  have E4 := veil (show (q3.b, (He.rN (t, false)).2.2) = Z by rw [E3.out, hZ])
  rw [← hZ] at HRO
  clear hZ
  obtain ⟨X4, hX4⟩ : ∃ X : He.H, X = ⟨k, (He.rN (t, false)).1, He.z4, He.zs⟩ := ⟨_, rfl⟩
  have I5 := veil (show GI w s { X4 with l := lUp Z 0 } q3 (He.rN (t, false)).2.2 w4 by rw [hX4]; exact I4.out)
  have HX4 := veil hX4
  clear I4 E3 hX4
  generalize (He.rN (t, false)).2.2 = f3 at *
  go_loopw [32] (fun iv wr => ∃ (j : Nat) (q : SL) (f : Bool), j ≤ 4 ∧ iv = .int .i64 j ∧ Hid (GI w s { X4 with l := lUp Z j } q f wr) ∧ Hid ((q.b, f) = sAt Z j))
    (fun iv _ => 4 - (intOf iv).toNat)
  case atStart => exact ⟨0, q3, _, by decide, rfl, I5.out, E4.out⟩
  case round =>
    clear I5 E4
    obtain ⟨j, q, f, hj4, rfl, IJ, EJ⟩ := hrel
    by_cases hlt4 : j < 4
    · have hdk : decide ((j : Int) < 4) = true := by simp; omega
      go_wp2_with fail
      refine (gi_limit IJ.out HL.out HLV.out).mono ?_
      rintro e5 w5 ⟨q5, rfl, i5, b5⟩
      have hv : (He.rL (q.b, f)).1 = vAt Z j := by rw [EJ.out]; rfl
      have hs' : (He.rL (q.b, f)).2 = sAt Z (j + 1) := by rw [EJ.out]; rfl
      rw [hv]
      have I5 := veil i5
      have E5 := veil (show (q5.b, (He.rL (q.b, f)).2.2) = sAt Z (j + 1) by rw [b5, hs'])
      have cj : w5.cell? ⟨w.heap.size + 1, 33 + j, none⟩ = some (.int .u64 (lAtN (lUp Z j) j : Int)) := i5.r2.rangeH 33 _ (heC_l i5.fine.n32) j _ (qv_lAtN _ j hlt4)
      have zj := i5.r2.frozen (33 + j)
      have hj0 : (0 : Int) ≤ (j : Int) := by omega
      have hjI : (j : Int) < 4 := by omega
      clear i5 b5 hv hs'
      go_wp2_with fail
      have I6 := veil (I5.out.limit Z j hlt4)
      clear I5 cj zj
      go_roundw
      case rel => exact ⟨j + 1, q5, _, by omega, by go_num, I6.out, E5.out⟩
      case measure => simp [intOf]; omega
    · have hdk : decide ((j : Int) < 4) = false := by simp; omega
      obtain rfl : j = 4 := by omega
      have cK : wr.cell? ⟨w.heap.size + 1, 0, none⟩ = some (.int .u8 (v8 k)) := by have := IJ.out.r2.cell 0; rw [heC_0, HX4.out] at this; exact this
      go_wp2_with fail
      refine (HPV.out wr).mono ?_
      rintro e7 w7 ⟨rfl, hw7⟩
      obtain rfl := hw7
      clear HPV
      obtain ⟨R, hR⟩ : ∃ R, R = He.rH k t := ⟨_, rfl⟩
      have IX := veil (show GI w s R.1 q R.2.2 w7 by
        have ef : f = (sAt Z 4).2 := congrArg Prod.snd EJ.out
        rw [ef] at IJ
        have := IJ.out
        rw [HX4.out] at this
        rw [hR]
        unfold He.rH
        rw [HRP.out, HRO.out]
        exact this)
      have EX := veil (show q.b = R.2.1 by
        rw [hR]
        unfold He.rH
        rw [HRP.out, HRO.out]
        exact congrArg Prod.fst EJ.out)
      clear IJ EJ cK
      obtain ⟨w9, hw9⟩ : ∃ w9, w9 = w7 := ⟨_, rfl⟩
      rw [← hw9] at IX
      rw [← hw9]
      clear hw9
      have HR := veil hR
      have cf : w9.cell? ⟨w.heap.size + 1 + 1, 1, none⟩ = some (.bool R.2.2) := IX.out.r3.cell 1
      have cr : w9.cell? ⟨w.heap.size + 1 + 1, 0, none⟩ = some (.slice q.a q.len q.cap) := IX.out.r3.cell 0
      have HQL := veil IX.out.ql
      have HQB := veil (show q.len = R.2.1.length by rw [← EX.out, IX.out.ok.hb])
      clear hR
      cases hf : R.2.2 with
      | true =>
        rw [hf] at cf
        have HG := veil (show He.got s.b = (He.H0, 0, 4) by
          rw [HB.out]
          unfold He.got
          simp only
          rw [if_neg (by rw [HIS.out]; decide), ← HR.out, if_pos hf])
        have R1 := veil IX.out.r1
        have B1 := veil IX.out.bel
        clear IX EX
        go_wp2_with (first
          | (with_reducible (show wpList _ _ _ (⟨_, Op.build 27 _, _, _, _, _⟩ :: _) _ _)
             refine build_row rfl 27 _ rfl (heC He.H0) (by kernel_rfl) ?_)
          | (with_reducible (show wpList _ _ _ (⟨_, Op.store 27 _ _, _, _, _, _⟩ :: _) _ _)
             refine store_row rfl 27 _ _ rfl w.heap.size (heC He.H0) rfl rfl _ _ R1.out 69 (by kernel_rfl) hz (heC_size H0_fine) (he_one _) ?_))
        unfold GetR
        rw [HG.out]
        exact bodyPost_ret (result_str2 rfl _ _ w.heap.size _ _ (R1.out.put _) 69 _ (.int .i64 0) (.int .i64 4) rfl rfl rfl Tryd.underlying27 (by kernel_rfl) (heC_size H0_fine)) rfl ⟨rfl, bSetRow B1.out (Nat.le_refl _) _⟩
      | false =>
        rw [hf] at cf
        have hsub : (s.len : Int) - (q.len : Int) = ((s.len - q.len : Nat) : Int) := by have := HQL.out; omega
        have hfit1 : ((s.len - q.len : Nat) : Int) ≤ 9223372036854775807 := by have := HL.out; omega
        have hsub2 : IntKind.i64.wrap ((s.len : Int) - (q.len : Int)) = ((s.len - q.len : Nat) : Int) := by
          rw [hsub]
          exact wrap_i64H (by omega) hfit1
        go_wp2_with (first
          | (with_reducible (show wpList _ _ _ (⟨some 55, Op.load 27 _, _, _, _, _⟩ :: _) _ _)
             refine load_strL rfl 27 _ rfl (w.heap.size + 1) rfl _ _ IX.out.r2 69 _ Tryd.underlying27 (by kernel_rfl) (heC_size IX.out.fine) ?_))
        refine (put_any R.1 IX.out.fine w9 (HLV.out.step IX.out.bel)).mono ?_
        rintro e10 w10 ⟨a10, c10, rfl, _, bb10⟩
        have R1 := veil (IX.out.r1.below bb10 IX.out.r1.lt)
        have R2 := veil (IX.out.r2.below bb10 IX.out.r2.lt)
        have B1 := veil (IX.out.bel.trans (bb10.mono IX.out.bel.size))
        have HFI := veil IX.out.fine
        have hlen : (k :: t).length - R.2.1.length = s.len - q.len := by rw [← HQB.out]; have := HTL.out; rw [List.length_cons]; omega
        clear IX EX bb10 cf cr
        by_cases hm : R.1.may
        · have e1 : He.putO R.1 = R.1.bytes := by unfold He.putO; rw [if_pos hm]
          have e2 : He.putE R.1 = 0 := by unfold He.putE; rw [if_pos hm]
          rw [e1, e2]
          by_cases hq : R.1.bytes.length = s.len - q.len
          · have hneq : ((R.1.bytes.length : Int) != ((s.len - q.len : Nat) : Int)) = false := by simp; omega
            have HG := veil (show He.got s.b = (R.1, s.len - q.len, 0) by
              rw [HB.out]
              unfold He.got
              simp only
              rw [if_neg (by rw [HIS.out]; decide), ← HR.out, if_neg (by rw [hf]; decide), hlen, if_pos ⟨hm, hq⟩])
            clear e1 e2 hm hq
            go_wp2_with (first
              | (with_reducible (show wpList _ _ _ (⟨some 68, Op.load 27 _, _, _, _, _⟩ :: _) _ _)
                 refine load_strL rfl 27 _ rfl (w.heap.size + 1) rfl _ _ R2.out 69 _ Tryd.underlying27 (by kernel_rfl) (heC_size HFI.out) ?_)
              | (with_reducible (show wpList _ _ _ (⟨_, Op.store 27 _ _, _, _, _, _⟩ :: _) _ _)
                 refine store_row rfl 27 _ _ rfl w.heap.size (heC R.1) rfl rfl _ _ R1.out 69 (by kernel_rfl) hz (heC_size HFI.out) (he_one _) ?_))
            unfold GetR
            rw [HG.out]
            exact bodyPost_ret (result_str2 rfl _ _ w.heap.size _ _ (R1.out.put _) 69 _ (.int .i64 ((s.len - q.len : Nat) : Int)) (.int .i64 0) rfl rfl rfl Tryd.underlying27 (by kernel_rfl) (heC_size HFI.out)) rfl ⟨rfl, bSetRow B1.out (Nat.le_refl _) _⟩
          · have hneq : ((R.1.bytes.length : Int) != ((s.len - q.len : Nat) : Int)) = true := by simp; omega
            have HG := veil (show He.got s.b = (He.H0, 0, 5) by
              rw [HB.out]
              unfold He.got
              simp only
              rw [if_neg (by rw [HIS.out]; decide), ← HR.out, if_neg (by rw [hf]; decide), hlen, if_neg (fun h => hq h.2)])
            clear e1 e2 hm hq
            go_wp2_with (first
              | (with_reducible (show wpList _ _ _ (⟨_, Op.build 27 _, _, _, _, _⟩ :: _) _ _)
                 refine build_row rfl 27 _ rfl (heC He.H0) (by kernel_rfl) ?_)
              | (with_reducible (show wpList _ _ _ (⟨_, Op.store 27 _ _, _, _, _, _⟩ :: _) _ _)
                 refine store_row rfl 27 _ _ rfl w.heap.size (heC He.H0) rfl rfl _ _ R1.out 69 (by kernel_rfl) hz (heC_size H0_fine) (he_one _) ?_))
            unfold GetR
            rw [HG.out]
            exact bodyPost_ret (result_str2 rfl _ _ w.heap.size _ _ (R1.out.put _) 69 _ (.int .i64 0) (.int .i64 5) rfl rfl rfl Tryd.underlying27 (by kernel_rfl) (heC_size H0_fine)) rfl ⟨rfl, bSetRow B1.out (Nat.le_refl _) _⟩
        · have e1 : He.putO R.1 = [] := by unfold He.putO; rw [if_neg hm]
          have e2 : He.putE R.1 = 1 := by unfold He.putE; rw [if_neg hm]
          rw [e1, e2]
          have HG := veil (show He.got s.b = (He.H0, 0, 5) by
            rw [HB.out]
            unfold He.got
            simp only
            rw [if_neg (by rw [HIS.out]; decide), ← HR.out, if_neg (by rw [hf]; decide), hlen, if_neg (fun h => hm h.1)])
          clear e1 e2 hm
          go_wp2_with (first
            | (with_reducible (show wpList _ _ _ (⟨_, Op.build 27 _, _, _, _, _⟩ :: _) _ _)
               refine build_row rfl 27 _ rfl (heC He.H0) (by kernel_rfl) ?_)
            | (with_reducible (show wpList _ _ _ (⟨_, Op.store 27 _ _, _, _, _, _⟩ :: _) _ _)
               refine store_row rfl 27 _ _ rfl w.heap.size (heC He.H0) rfl rfl _ _ R1.out 69 (by kernel_rfl) hz (heC_size H0_fine) (he_one _) ?_))
          unfold GetR
          rw [HG.out]
          exact bodyPost_ret (result_str2 rfl _ _ w.heap.size _ _ (R1.out.put _) 69 _ (.int .i64 0) (.int .i64 5) rfl rfl rfl Tryd.underlying27 (by kernel_rfl) (heC_size H0_fine)) rfl ⟨rfl, bSetRow B1.out (Nat.le_refl _) _⟩

set_option maxRecDepth 20000 in
set_option maxHeartbeats 2000000 in
theorem get_tt (s : SL) (w : World) (k : By) (t : List By) (hs : s.Ok w) (hl : s.len ≤ 140737488355328) (hb : s.b = k :: t) (hL : Lens w) (ho : He.opn k = true) (hp : He.prv k = true) :
    Calls Tryd.prog 16 #[.slice s.a s.len s.cap] w (GetR s.b w) := by
  have hp0 : 0 < s.len := by rw [← hs.hb, hb]; exact Nat.succ_pos _
  have hp1 : 1 ≤ s.len := hp0
  have hpI : (0 : Int) < (s.len : Int) := by omega
  have hne : ((s.len : Int) == 0) = false := by simp; omega
  have ha := hs.at_ hp0
  have hk0 : gb s.b 0 = k := by rw [hb]; rfl
  have ht : s.Told := fun p e => by rw [ha] at e; exact (Option.some.inj e).symm
  have cb : w.cell? ⟨s.g, s.off, none⟩ = some (.int .u8 (v8 k)) := by have := hs.cell 0 hp0; rwa [hk0] at this
  have hlt := hs.lt hp0
  obtain ⟨W0, hW0⟩ : ∃ W0, W0 = (w.alloc (.cells Tryd.zeroCells27 27)).alloc (.cells (heC (heK k)) 27) := ⟨_, rfl⟩
  have b0 : Below w.heap.size w W0 := by rw [hW0]; exact ((Below.refl _ w).alloc (Nat.le_refl _) _).alloc (by simp) _
  have r1 : Row W0 w.heap.size 27 Tryd.zeroCells27 := by rw [hW0]; exact (Row.new _ _ _).alloc _
  have r2 : Row W0 (w.heap.size + 1) 27 (heC (heK k)) := by rw [hW0]; exact Row.new1 _ _ _ _
  have sz0 : W0.heap.size = w.heap.size + 1 + 1 := by rw [hW0]; simp
  have HS := veil hs
  have HT := veil ht
  have HL := veil hl
  have HNIL := veil hs.nil
  have HB := veil hb
  have HI := veil (isKind_any k W0)
  have hz : (Tryd.zeroCells27).size = 69 := by kernel_rfl
  have c0 : W0.cell? ⟨w.heap.size + 1, 0, none⟩ = some (.int .u8 (v8 k)) := r2.cell 0
  have hh : (heC (heK k))[0]? = some (.int .u8 (v8 k)) := rfl
  have HIS := veil (show He.isK k = true by unfold He.isK; rw [ho, hp]; rfl)
  have HO := opens_any k
  have HP := proves_any k
  rw [ho] at HO
  rw [hp] at HP
  have HOV := veil HO
  have HPV := veil HP
  have HLV := veil hL
  have HCUT := veil (cutF_ok (hs.below b0) ht 1 hp1)
  have hdrop : s.b.drop 1 = t := by rw [hb]; rfl
  have HRO := veil (show He.rO k (t, false) = (((He.rN (t, false)).1, (He.r4 (He.rN (t, false)).2).1), (He.r4 (He.rN (t, false)).2).2) from by unfold He.rO; rw [ho]; rfl)
  have HRP := veil (show ∀ z, He.rP k z = He.rN z from fun z => by unfold He.rP; rw [hp]; rfl)
  have hT : t.length + 1 = s.len := by rw [← hs.hb, hb]; rfl
  have HTL := veil hT
  clear hs hl hb ht hk0 ho hp HO HP hL hT
  rw [ha] at HNIL ⊢
  go_enter Tryd.func16, Tryd.ntmps16
  go_wp2_with (first
    | (with_reducible (show wpList _ _ _ (⟨some 18, Op.build 27 _, _, _, _, _⟩ :: _) _ _)
       refine build_row rfl 27 _ rfl (heC (heK k)) (by kernel_rfl) ?_)
    | (with_reducible (show wpList _ _ _ (⟨_, Op.store 27 (.tmp 5) _, _, _, _, _⟩ :: _) _ _)
       refine store_new rfl 27 _ _ rfl (w.heap.size + 1) (heC (heK k)) rfl rfl _ _ (by simp) 69 (by kernel_rfl) (by kernel_rfl) (heC_size (heK_fine _)) (he_one _) ?_))
  show Calls _ _ _ ((w.alloc (.cells Tryd.zeroCells27 27)).alloc (.cells (heC (heK k)) 27)) _
  rw [← hW0]
  clear hW0
  refine HI.out.mono ?_
  rintro e1 w1 ⟨rfl, hw1⟩
  obtain rfl := hw1
  clear HI
  rw [HIS.out]
  go_wp2_with (with_reducible (show wpList _ _ _ (⟨some 25, Op.slice _ _ _ _ _, _, _, _, _⟩ :: _) _ _)
               refine value_wp rfl _ (run_cutF 28 5 _ _ s 1 HT.out (fun e => by rw [ha] at e; cases e) rfl (by rw [ha]; rfl) rfl Tryd.underlying28 (by kernel_rfl) hp1 _) ?_)
  obtain ⟨W1, hW1⟩ : ∃ W1, W1 = w1.alloc (.cells (hrC (cutF s 1) false) 70) := ⟨_, rfl⟩
  show Calls _ _ _ (w1.alloc (.cells (hrC (cutF s 1) false) 70)) _
  rw [← hW1]
  have gi : GI w s (heK k) (cutF s 1) false W1 := by
    rw [hW1]
    exact ⟨heK_fine k, r1.alloc _, r2.alloc _, by have := Row.new w1 70 (hrC (cutF s 1) false); rwa [sz0] at this, HCUT.out.1.alloc _, HCUT.out.2.1, HCUT.out.2.2.2.2, by rw [HCUT.out.2.2.1]; omega, b0.alloc b0.size _, fun _ => hlt⟩
  have I1 := veil gi
  have E1 := veil (show (cutF s 1).b = t from HCUT.out.2.2.2.1.trans hdrop)
  clear gi r1 r2 b0 c0 cb hW1 HCUT hdrop sz0
  refine (HOV.out W1).mono ?_
  rintro e2 w2 ⟨rfl, hw2⟩
  obtain rfl := hw2
  clear HOV
  go_wp2_with fail
  refine (gi_field I1.out HL.out).mono ?_
  rintro e3 w3 ⟨q3, rfl, i3, b3⟩
  rw [E1.out] at i3 b3 ⊢
  have I3 := veil i3
  have E3 := veil b3
  have H32 := veil (rN_length (t, false))
  clear i3 b3
  have HI3 := veil (show (Tryd.prog.info? 23).map (·.size) = some (vb (He.rN (t, false)).1).length by rw [vb_length, H32.out]; kernel_rfl)
  have HT3 := veil (I3.out.r2.thereH 1 (vb (He.rN (t, false)).1).length (by rw [heC_size I3.out.fine, vb_length, H32.out]; omega))
  go_wp2_with (with_reducible (show wpList _ _ _ (⟨_, Op.store 23 _ _, _, _, _, _⟩ :: _) _ _)
               refine store_midL rfl 23 _ _ rfl (w.heap.size + 1) 1 (vb (He.rN (t, false)).1) rfl rfl HI3.out (vb_oneH _) HT3.out ?_)
  have I4 := veil (I3.out.nonce _ H32.out)
  generalize hW4 : w3.setCells (w.heap.size + 1) 1 (vb (He.rN (t, false)).1) = w4
  rw [hW4] at I4
  clear hW4 I3 HI3 HT3
  obtain ⟨Z, hZ⟩ : ∃ Z, Z = (He.rN (t, false)).2 := ⟨_, rfl⟩
  have E4 := veil (show (q3.b, (He.rN (t, false)).2.2) = Z by rw [E3.out, hZ])
  rw [← hZ] at HRO
  clear hZ
  obtain ⟨X4, hX4⟩ : ∃ X : He.H, X = ⟨k, (He.rN (t, false)).1, He.z4, He.zs⟩ := ⟨_, rfl⟩
  have I5 := veil (show GI w s { X4 with l := lUp Z 0 } q3 (He.rN (t, false)).2.2 w4 by rw [hX4]; exact I4.out)
  have HX4 := veil hX4
  clear I4 E3 hX4
  generalize (He.rN (t, false)).2.2 = f3 at *
  go_loopw [32] (fun iv wr => ∃ (j : Nat) (q : SL) (f : Bool), j ≤ 4 ∧ iv = .int .i64 j ∧ Hid (GI w s { X4 with l := lUp Z j } q f wr) ∧ Hid ((q.b, f) = sAt Z j))
    (fun iv _ => 4 - (intOf iv).toNat)
  case atStart => exact ⟨0, q3, _, by decide, rfl, I5.out, E4.out⟩
  case round =>
    clear I5 E4
    obtain ⟨j, q, f, hj4, rfl, IJ, EJ⟩ := hrel
    by_cases hlt4 : j < 4
    · have hdk : decide ((j : Int) < 4) = true := by simp; omega
      go_wp2_with fail
      refine (gi_limit IJ.out HL.out HLV.out).mono ?_
      rintro e5 w5 ⟨q5, rfl, i5, b5⟩
      have hv : (He.rL (q.b, f)).1 = vAt Z j := by rw [EJ.out]; rfl
      have hs' : (He.rL (q.b, f)).2 = sAt Z (j + 1) := by rw [EJ.out]; rfl
      rw [hv]
      have I5 := veil i5
      have E5 := veil (show (q5.b, (He.rL (q.b, f)).2.2) = sAt Z (j + 1) by rw [b5, hs'])
      have cj : w5.cell? ⟨w.heap.size + 1, 33 + j, none⟩ = some (.int .u64 (lAtN (lUp Z j) j : Int)) := i5.r2.rangeH 33 _ (heC_l i5.fine.n32) j _ (qv_lAtN _ j hlt4)
      have zj := i5.r2.frozen (33 + j)
      have hj0 : (0 : Int) ≤ (j : Int) := by omega
      have hjI : (j : Int) < 4 := by omega
      clear i5 b5 hv hs'
      go_wp2_with fail
      have I6 := veil (I5.out.limit Z j hlt4)
      clear I5 cj zj
      go_roundw
      case rel => exact ⟨j + 1, q5, _, by omega, by go_num, I6.out, E5.out⟩
      case measure => simp [intOf]; omega
    · have hdk : decide ((j : Int) < 4) = false := by simp; omega
      obtain rfl : j = 4 := by omega
      have cK : wr.cell? ⟨w.heap.size + 1, 0, none⟩ = some (.int .u8 (v8 k)) := by have := IJ.out.r2.cell 0; rw [heC_0, HX4.out] at this; exact this
      go_wp2_with fail
      refine (HPV.out wr).mono ?_
      rintro e7 w7 ⟨rfl, hw7⟩
      obtain rfl := hw7
      clear HPV
      go_wp2_with fail
      refine (gi_field IJ.out HL.out).mono ?_
      rintro e8 w8 ⟨q8, rfl, i8, b8⟩
      rw [EJ.out] at i8 b8 ⊢
      have I8 := veil i8
      have E8 := veil b8
      have H33 := veil (rN_length (sAt Z 4))
      clear i8 b8 cK
      have HI8 := veil (show (Tryd.prog.info? 23).map (·.size) = some (vb (He.rN (sAt Z 4)).1).length by rw [vb_length, H33.out]; kernel_rfl)
      have HT8 := veil (I8.out.r2.thereH 37 (vb (He.rN (sAt Z 4)).1).length (by rw [heC_size I8.out.fine, vb_length, H33.out]; omega))
      have I9 := veil (I8.out.proof _ H33.out)
      obtain ⟨w9, hW9⟩ : ∃ w9, w8.setCells (w.heap.size + 1) 37 (vb (He.rN (sAt Z 4)).1) = w9 := ⟨_, rfl⟩
      rw [hW9] at I9
      have HW9 := veil hW9
      clear I8 hW9
      obtain ⟨R, hR⟩ : ∃ R, R = He.rH k t := ⟨_, rfl⟩
      have IX := veil (show GI w s R.1 q8 R.2.2 w9 by
        have := I9.out
        rw [HX4.out] at this
        rw [hR]
        unfold He.rH
        rw [HRP.out, HRO.out]
        exact this)
      have EX := veil (show q8.b = R.2.1 by
        rw [hR]
        unfold He.rH
        rw [HRP.out, HRO.out]
        exact E8.out)
      clear I9 E8
      have HR := veil hR
      have cf : w9.cell? ⟨w.heap.size + 1 + 1, 1, none⟩ = some (.bool R.2.2) := IX.out.r3.cell 1
      have cr : w9.cell? ⟨w.heap.size + 1 + 1, 0, none⟩ = some (.slice q8.a q8.len q8.cap) := IX.out.r3.cell 0
      have HQL := veil IX.out.ql
      have HQB := veil (show q8.len = R.2.1.length by rw [← EX.out, IX.out.ok.hb])
      clear hR
      cases hf : R.2.2 with
      | true =>
        rw [hf] at cf
        have HG := veil (show He.got s.b = (He.H0, 0, 4) by
          rw [HB.out]
          unfold He.got
          simp only
          rw [if_neg (by rw [HIS.out]; decide), ← HR.out, if_pos hf])
        have R1 := veil IX.out.r1
        have B1 := veil IX.out.bel
        clear IX EX
        go_wp2_with (first
          | (with_reducible (show wpList _ _ _ (⟨_, Op.store 23 _ _, _, _, _, _⟩ :: _) _ _)
             refine store_midL rfl 23 _ _ rfl (w.heap.size + 1) 37 (vb (He.rN (sAt Z 4)).1) rfl rfl HI8.out (vb_oneH _) HT8.out ?_
             rw [HW9.out])
          | (with_reducible (show wpList _ _ _ (⟨_, Op.build 27 _, _, _, _, _⟩ :: _) _ _)
             refine build_row rfl 27 _ rfl (heC He.H0) (by kernel_rfl) ?_)
          | (with_reducible (show wpList _ _ _ (⟨_, Op.store 27 _ _, _, _, _, _⟩ :: _) _ _)
             refine store_row rfl 27 _ _ rfl w.heap.size (heC He.H0) rfl rfl _ _ R1.out 69 (by kernel_rfl) hz (heC_size H0_fine) (he_one _) ?_))
        unfold GetR
        rw [HG.out]
        exact bodyPost_ret (result_str2 rfl _ _ w.heap.size _ _ (R1.out.put _) 69 _ (.int .i64 0) (.int .i64 4) rfl rfl rfl Tryd.underlying27 (by kernel_rfl) (heC_size H0_fine)) rfl ⟨rfl, bSetRow B1.out (Nat.le_refl _) _⟩
      | false =>
        rw [hf] at cf
        have hsub : (s.len : Int) - (q8.len : Int) = ((s.len - q8.len : Nat) : Int) := by have := HQL.out; omega
        have hfit1 : ((s.len - q8.len : Nat) : Int) ≤ 9223372036854775807 := by have := HL.out; omega
        have hsub2 : IntKind.i64.wrap ((s.len : Int) - (q8.len : Int)) = ((s.len - q8.len : Nat) : Int) := by
          rw [hsub]
          exact wrap_i64H (by omega) hfit1
        go_wp2_with (first
          | (with_reducible (show wpList _ _ _ (⟨_, Op.store 23 _ _, _, _, _, _⟩ :: _) _ _)
             refine store_midL rfl 23 _ _ rfl (w.heap.size + 1) 37 (vb (He.rN (sAt Z 4)).1) rfl rfl HI8.out (vb_oneH _) HT8.out ?_
             rw [HW9.out])
          | (with_reducible (show wpList _ _ _ (⟨some 55, Op.load 27 _, _, _, _, _⟩ :: _) _ _)
             refine load_strL rfl 27 _ rfl (w.heap.size + 1) rfl _ _ IX.out.r2 69 _ Tryd.underlying27 (by kernel_rfl) (heC_size IX.out.fine) ?_))
        refine (put_any R.1 IX.out.fine w9 (HLV.out.step IX.out.bel)).mono ?_
        rintro e10 w10 ⟨a10, c10, rfl, _, bb10⟩
        have R1 := veil (IX.out.r1.below bb10 IX.out.r1.lt)
        have R2 := veil (IX.out.r2.below bb10 IX.out.r2.lt)
        have B1 := veil (IX.out.bel.trans (bb10.mono IX.out.bel.size))
        have HFI := veil IX.out.fine
        have hlen : (k :: t).length - R.2.1.length = s.len - q8.len := by rw [← HQB.out]; have := HTL.out; rw [List.length_cons]; omega
        clear IX EX bb10 cf cr
        by_cases hm : R.1.may
        · have e1 : He.putO R.1 = R.1.bytes := by unfold He.putO; rw [if_pos hm]
          have e2 : He.putE R.1 = 0 := by unfold He.putE; rw [if_pos hm]
          rw [e1, e2]
          by_cases hq : R.1.bytes.length = s.len - q8.len
          · have hneq : ((R.1.bytes.length : Int) != ((s.len - q8.len : Nat) : Int)) = false := by simp; omega
            have HG := veil (show He.got s.b = (R.1, s.len - q8.len, 0) by
              rw [HB.out]
              unfold He.got
              simp only
              rw [if_neg (by rw [HIS.out]; decide), ← HR.out, if_neg (by rw [hf]; decide), hlen, if_pos ⟨hm, hq⟩])
            clear e1 e2 hm hq
            go_wp2_with (first
              | (with_reducible (show wpList _ _ _ (⟨some 68, Op.load 27 _, _, _, _, _⟩ :: _) _ _)
                 refine load_strL rfl 27 _ rfl (w.heap.size + 1) rfl _ _ R2.out 69 _ Tryd.underlying27 (by kernel_rfl) (heC_size HFI.out) ?_)
              | (with_reducible (show wpList _ _ _ (⟨_, Op.store 27 _ _, _, _, _, _⟩ :: _) _ _)
                 refine store_row rfl 27 _ _ rfl w.heap.size (heC R.1) rfl rfl _ _ R1.out 69 (by kernel_rfl) hz (heC_size HFI.out) (he_one _) ?_))
            unfold GetR
            rw [HG.out]
            exact bodyPost_ret (result_str2 rfl _ _ w.heap.size _ _ (R1.out.put _) 69 _ (.int .i64 ((s.len - q8.len : Nat) : Int)) (.int .i64 0) rfl rfl rfl Tryd.underlying27 (by kernel_rfl) (heC_size HFI.out)) rfl ⟨rfl, bSetRow B1.out (Nat.le_refl _) _⟩
          · have hneq : ((R.1.bytes.length : Int) != ((s.len - q8.len : Nat) : Int)) = true := by simp; omega
            have HG := veil (show He.got s.b = (He.H0, 0, 5) by
              rw [HB.out]
              unfold He.got
              simp only
              rw [if_neg (by rw [HIS.out]; decide), ← HR.out, if_neg (by rw [hf]; decide), hlen, if_neg (fun h => hq h.2)])
            clear e1 e2 hm hq
            go_wp2_with (first
              | (with_reducible (show wpList _ _ _ (⟨_, Op.build 27 _, _, _, _, _⟩ :: _) _ _)
                 refine build_row rfl 27 _ rfl (heC He.H0) (by kernel_rfl) ?_)
              | (with_reducible (show wpList _ _ _ (⟨_, Op.store 27 _ _, _, _, _, _⟩ :: _) _ _)
                 refine store_row rfl 27 _ _ rfl w.heap.size (heC He.H0) rfl rfl _ _ R1.out 69 (by kernel_rfl) hz (heC_size H0_fine) (he_one _) ?_))
            unfold GetR
            rw [HG.out]
            exact bodyPost_ret (result_str2 rfl _ _ w.heap.size _ _ (R1.out.put _) 69 _ (.int .i64 0) (.int .i64 5) rfl rfl rfl Tryd.underlying27 (by kernel_rfl) (heC_size H0_fine)) rfl ⟨rfl, bSetRow B1.out (Nat.le_refl _) _⟩
        · have e1 : He.putO R.1 = [] := by unfold He.putO; rw [if_neg hm]
          have e2 : He.putE R.1 = 1 := by unfold He.putE; rw [if_neg hm]
          rw [e1, e2]
          have HG := veil (show He.got s.b = (He.H0, 0, 5) by
            rw [HB.out]
            unfold He.got
            simp only
            rw [if_neg (by rw [HIS.out]; decide), ← HR.out, if_neg (by rw [hf]; decide), hlen, if_neg (fun h => hm h.1)])
          clear e1 e2 hm
          go_wp2_with (first
            | (with_reducible (show wpList _ _ _ (⟨_, Op.build 27 _, _, _, _, _⟩ :: _) _ _)
               refine build_row rfl 27 _ rfl (heC He.H0) (by kernel_rfl) ?_)
            | (with_reducible (show wpList _ _ _ (⟨_, Op.store 27 _ _, _, _, _, _⟩ :: _) _ _)
               refine store_row rfl 27 _ _ rfl w.heap.size (heC He.H0) rfl rfl _ _ R1.out 69 (by kernel_rfl) hz (heC_size H0_fine) (he_one _) ?_))
          unfold GetR
          rw [HG.out]
          exact bodyPost_ret (result_str2 rfl _ _ w.heap.size _ _ (R1.out.put _) 69 _ (.int .i64 0) (.int .i64 5) rfl rfl rfl Tryd.underlying27 (by kernel_rfl) (heC_size H0_fine)) rfl ⟨rfl, bSetRow B1.out (Nat.le_refl _) _⟩

theorem heGet_any (s : SL) (w : World) (hs : s.Ok w) (hl : s.len ≤ 140737488355328) (hL : Lens w) :
    Calls Tryd.prog 16 #[.slice s.a s.len s.cap] w (GetR s.b w) := by
  cases hb : s.b with
  | nil =>
    have := get_empty s w (by rw [← hs.hb, hb]; rfl) hs.hb
    rwa [hb] at this
  | cons k t =>
    cases ho : He.opn k <;> cases hp : He.prv k
    · have := get_form s w k t hs hl hb (by unfold He.isK; rw [ho, hp]; rfl)
      rwa [hb] at this
    · have := get_ft s w k t hs hl hb hL ho hp
      rwa [hb] at this
    · have := get_tf s w k t hs hl hb hL ho hp
      rwa [hb] at this
    · have := get_tt s w k t hs hl hb hL ho hp
      rwa [hb] at this
end Go.Proofs.YtjccjlhnjihfjaaDoor
