/-
  What lock.tag answers.
-/
import Derived.Test.YtbheoldakmcppaaGreatDoorGs10
import Derived.Test.YtbheoldakmcppaaGreatDoorGs5
import Derived.Test.YtbheoldakmcppaaGreatDoorGs8
namespace Go.Proofs.YtbheoldakmcppaaGreatDoor
open Go Go.RowKit

theorem own_sl6 {w : World} {base : Nat} {v : Value} {n : Nat} {xs : List By} (h : w.ownsRow base 5 1 v n (vb xs)) : ∃ s : SL, v = .slice s.a s.len s.cap ∧ s.len = n ∧ s.b = xs ∧ s.Ok w := by
  obtain ⟨s, h1, h2, h3, h4, _⟩ := SL.of_own h
  exact ⟨s, h1.symm, h2, h3, h4⟩
theorem own_ok6 {w : World} {base g n cap : Nat} {xs : List By} (h : w.ownsRow base 5 1 (.slice (some ⟨g, 0, none⟩) n cap) n (vb xs)) : (⟨some ⟨g, 0, none⟩, n, cap, g, 0, xs⟩ : SL).Ok w := by
  obtain ⟨s, hv, hl, hb, hok, _⟩ := SL.of_own h
  obtain ⟨sa, sl, sc, sg, so, sb⟩ := s
  simp only [SL.v, Value.slice.injEq] at hv hl hb
  obtain ⟨rfl, _, rfl⟩ := hv
  subst hl hb
  refine ⟨hok.hb, hok.hcap, hok.nil, fun _ => rfl, fun p => ?_, fun j hj => ?_⟩
  · have := hok.at_ p
    simp at this
    have h2 := hok.lt p
    simp only at h2
    show g < _
    omega
  · have p : 0 < sl := by have hj' : j < sl := hj; omega
    have := hok.at_ p
    simp at this
    obtain ⟨e1, e2⟩ := this
    have h2 := hok.cell j hj
    simp only at h2
    rw [← e1, ← e2] at h2
    exact h2
/-- The slots of lock.tag, in its drawn region. -/
def tmT (key nonce : List By) (h b : SL) (S1 S3 g : Nat) (B O : List By) (x : Nat → Value) : Act :=
  { tmps := #[.agg (bs (key ++ nonce)), .slice h.a h.len h.cap, .slice b.a b.len b.cap, .pointer (some ⟨g, 0, none⟩), undef, undef, .pointer (some ⟨g + 1, 0, none⟩), .pointer (some ⟨S1, 0, none⟩), .pointer (some ⟨S3, 0, none⟩), .bool true, x 9, x 11,
      .pointer (some ⟨g, 0, none⟩), .agg (bs key), .pointer (some ⟨g, 32, none⟩), .agg (bs nonce), .agg (bs B), .tuple #[.agg (bs O), .bool true], .slice (some ⟨S1, 0, none⟩) 32 64, .tuple #[.agg (bs O), .bool true], .agg (bs O), .bool true, x 6, x 0, x 1, x 2, x 3, x 4, x 5, x 7, x 8, undef], defers := [] }
/-- What each operation has brought about, once it is done. -/
def GT (O M T : List By) (h b : SL) (B0 : Nat) : Nat → Array Bool → World → Value → Prop
  | 0, _, _, v => v = .agg (bs O)
  | 1, _, _, v => v = .slice b.a b.len b.cap
  | 2, _, _, v => v = .slice h.a h.len h.cap
  | 3, l, W, v => ¬ On l 4 → ∃ st, v = .slice (some ⟨st, 0, none⟩) 2 2 ∧ st < W.heap.size ∧ W.cell? ⟨st, 0, none⟩ = some (.slice b.a b.len b.cap) ∧ W.cell? ⟨st, 1, none⟩ = some (.slice h.a h.len h.cap)
  | 4, l, W, v => ¬ On l 5 → ∃ q : SL, v = .slice q.a q.len q.cap ∧ q.Ok W ∧ q.b = T
  | 5, _, _, v => v = .tuple #[.agg (bs M), .int .i64 0]
  | 6, _, _, v => v = .tuple #[.agg (bs M), .int .i64 0]
  | 7, _, _, v => v = .agg (bs M)
  | 8, _, _, v => v = .int .i64 0
  | 9, l, W, v => ∃ g cs, v = .pointer (some ⟨g, 0, none⟩) ∧ B0 ≤ g ∧ Row W g 83 (bs cs) ∧ cs.length = 16 ∧ (On l 10 → cs = M)
  | 10, _, _, _ => True
  | 11, _, _, v => v = .int .i64 0
  | _ + 12, _, _, _ => True
theorem GT_mono {O M T : List By} {h b : SL} {B0 : Nat} {l l' : Array Bool} {W W' : World} (hb : Below W.heap.size W W') (h1 : ∀ k, On l k → On l' k) (h2 : On l' 10 → On l 10) :
    ∀ (j : Nat) (v : Value), GT O M T h b B0 j l W v → GT O M T h b B0 j l' W' v
  | 0, _, e => e
  | 1, _, e => e
  | 2, _, e => e
  | 3, _, e => fun hn => by
    obtain ⟨st, e1, e2, e3, e4⟩ := e fun q => hn (h1 _ q)
    exact ⟨st, e1, Nat.lt_of_lt_of_le e2 hb.size, (hb.cell (p := ⟨st, 0, none⟩) e2).trans e3, (hb.cell (p := ⟨st, 1, none⟩) e2).trans e4⟩
  | 4, _, e => fun hn => by
    obtain ⟨q, e1, e2, e3⟩ := e fun q => hn (h1 _ q)
    exact ⟨q, e1, e2.below hb, e3⟩
  | 5, _, e => e
  | 6, _, e => e
  | 7, _, e => e
  | 8, _, e => e
  | 9, _, ⟨g, cs, e1, e2, e3, e4, e5⟩ => ⟨g, cs, e1, e2, e3.below hb e3.lt, e4, fun q => e5 (h2 q)⟩
  | 10, _, e => e
  | 11, _, e => e
  | _ + 12, _, e => e
structure JT (O M T : List By) (h b : SL) (w4 : World) (l : Array Bool) (W : World) (x : Nat → Value) : Prop where
  bel : Below w4.heap.size w4 W
  g : ∀ j, On l j → GT O M T h b w4.heap.size j l W (x j)
  after : On l 10 → On l 9
theorem JT.next {O M T : List By} {h b : SL} {w4 : World} {l : Array Bool} {W : World} {x : Nat → Value} (q : JT O M T h b w4 l W x) (i : Nat) (hi : i ≠ 10) (W' : World) (hb : Below W.heap.size W W') (v : Value) (hv : GT O M T h b w4.heap.size i (l.setIfInBounds i true) W' v) :
    JT O M T h b w4 (l.setIfInBounds i true) W' (updV x i v) := by
  refine ⟨q.bel.trans (hb.mono q.bel.size), fun j hj => ?_, fun hk => (q.after (hk.of_set hi)).set⟩
  unfold updV
  split
  · rename_i e; subst e; exact hv
  · rename_i e
    exact GT_mono hb (fun k hk => hk.set) (fun hk => hk.of_set hi) j _ (q.g j (hj.of_set (Ne.symm e)))
def depT : Nat → List Nat
  | 3 => [1, 2]
  | 4 => [3]
  | 5 => [0, 4]
  | 6 => [5]
  | 7 => [6]
  | 8 => [6]
  | 10 => [9, 7, 5, 4]
  | 11 => [8]
  | _ => []

set_option maxRecDepth 20000 in
set_option maxHeartbeats 4000000 in
theorem lockTag_any (key nonce : List By) (hk : key.length = 32) (hn : nonce.length = 12) (h b : SL) (w : World) (hg : Glob w) (hh : h.Ok w) (hb : b.Ok w) (hl : h.len ≤ 1048576) (bl : b.len ≤ 1048576) :
    Calls Tryz.prog 77 #[.agg (bs (key ++ nonce)), .slice h.a h.len h.cap, .slice b.a b.len b.cap] w fun e w' => e = .returned (.agg (bs (markL key nonce h.b b.b))) ∧ Below w.heap.size w w' := by
  obtain ⟨w0, hw0⟩ : ∃ w0, w0 = (w.alloc (.cells (bs (key ++ nonce)) 80)).alloc (.cells (bs z16) 83) := ⟨_, rfl⟩
  have r0 : Row w0 w.heap.size 80 (bs (key ++ nonce)) := by rw [hw0]; exact (Row.new _ _ _).alloc _
  have ro : Row w0 (w.heap.size + 1) 83 (bs z16) := by rw [hw0]; exact Row.new1 _ _ _ _
  have b0 : Below w.heap.size w w0 := by rw [hw0]; exact ((Below.refl _ w).alloc (Nat.le_refl _) _).alloc (by simp) _
  have p0 := lock_key r0
  have p1 := lock_nonce r0 hk
  have hkz : (bs key).size = 32 := by rw [bs_size, hk]
  have hkl : (bs key).toList.length = 32 := by simpa using hkz
  have hnl : (bs nonce).toList.length = 12 := by rw [Array.length_toList, bs_size, hn]
  have HK := veil hk
  have HN := veil hn
  have HG := veil hg
  have HH := veil hh
  have HB := veil hb
  have HW0 := veil hw0
  rw [hw0] at p0 p1
  clear hk hn hg hh hb hw0
  refine (callsIn_wide (n := 4)).1 ?_
  refine callsIn_of_wp Tryz.func77 rfl trivial ?_ rfl
  simp only [Tryz.ntmps77, List.size_toArray, List.length_cons, List.length_nil, Nat.reduceAdd, Nat.reduceSub, Array.replicate_succ, Array.replicate_zero, List.push_toArray, List.append_toArray, List.nil_append, List.cons_append]
  gi_wp2_with (first
    | (with_reducible (show wpListIn _ _ _ _ _ (⟨_, Op.alloc 83, _, _, _, _⟩ :: _) _ _)
       refine alloc_rowIn rfl 83 rfl (bs z16) (by kernel_rfl) ?_)
    | (with_reducible (show wpListIn _ _ _ _ _ (⟨_, Op.load 78 _, _, _, _, _⟩ :: _) _ _)
       refine load_midIn rfl 78 _ rfl w.heap.size 0 rfl (bs key).toList p0 32 5 Tryz.underlying78 (by kernel_rfl) hkl ?_)
    | (with_reducible (show wpListIn _ _ _ _ _ (⟨_, Op.load 76 _, _, _, _, _⟩ :: _) _ _)
       refine load_midIn rfl 76 _ rfl w.heap.size 32 rfl (bs nonce).toList p1 12 5 Tryz.underlying76 (by kernel_rfl) hnl ?_))
  rw [← HW0.out]
  refine ⟨trivial, (callsIn_wide.2 (block_any key 0 nonce HK.out HN.out w0 (HG.out.below b0 (Nat.le_refl _)))).mono ?_⟩
  rintro e1 w1 ⟨rfl, hb1⟩
  have b1 := b0.trans (hb1.mono b0.size)
  have ro1 := ro.below hb1 ro.lt
  have hs0 := b0.size
  have hs1 := b1.size
  clear p0 p1 r0 ro b0 hb1 HW0
  have hbl := blockL_length key 0 nonce
  generalize hB : blockL key 0 nonce = B at *
  have HBB := veil hB
  clear hB
  have hbz : (bs B).size = 64 := by rw [bs_size, hbl]
  have b2 := b1.alloc b1.size (.cells (bs B) 187)
  have ro2 := ro1.alloc (.cells (bs B) 187)
  have q2 : Row (w1.alloc (.cells (bs B) 187)) w1.heap.size 187 (bs B) := Row.new _ _ _
  gi_wp2_with (first
    | (with_reducible (show wpListIn _ _ _ _ _ (⟨_, Op.alloc 187, _, _, _, _⟩ :: _) _ _)
       refine alloc_rowIn rfl 187 rfl (bs (List.replicate 64 0)) (by kernel_rfl) ?_)
    | (with_reducible (show wpListIn _ _ _ _ _ (⟨_, Op.store 187 _ _, _, _, _, _⟩ :: _) _ _)
       refine store_newIn (w := w1) (by rfl) 187 _ _ (by rfl) w1.heap.size (bs B) (by rfl) (by rfl) 187 (bs (List.replicate 64 0)) (by rfl) 64 (by kernel_rfl) (by rfl) hbz (bs_one _) ?_))
  have sl2 := slice_ok q2 0 32 64 (by omega) (by omega)
  refine ⟨trivial, (callsIn_wide.2 (array32_yes _ _ sl2 rfl)).mono ?_⟩
  rintro e3 w3 ⟨rfl, hb3⟩
  have eO : ((B.drop 0).take 32) = B.take 32 := by rw [List.drop_zero]
  simp only []
  rw [eO]
  have hol : (B.take 32).length = 32 := by rw [List.length_take, hbl]; rfl
  generalize hO : B.take 32 = O at *
  have HOO := veil hO
  have hoz : (bs O).size = 32 := by rw [bs_size, hol]
  clear hO eO
  have b3 := b2.trans (hb3.mono b2.size)
  have ro3 := ro2.below hb3 ro2.lt
  clear b2 ro2 q2 sl2 hb3 ro1
  have b4 := b3.alloc b3.size (.cells (bs O) 78)
  have ro4 := ro3.alloc (.cells (bs O) 78)
  have q4 : Row (w3.alloc (.cells (bs O) 78)) w3.heap.size 78 (bs O) := Row.new _ _ _
  gi_wp2_with (first
    | (with_reducible (show wpListIn _ _ _ _ _ (⟨_, Op.alloc 78, _, _, _, _⟩ :: _) _ _)
       refine alloc_rowIn rfl 78 rfl (bs z32b) (by kernel_rfl) ?_)
    | (with_reducible (show wpListIn _ _ _ _ _ (⟨_, Op.store 78 _ _, _, _, _, _⟩ :: _) _ _)
       refine store_newIn (w := w3) (by rfl) 78 _ _ (by rfl) w3.heap.size (bs O) (by rfl) (by rfl) 78 (bs z32b) (by rfl) 32 (by kernel_rfl) (by rfl) hoz (bs_one _) ?_))
  refine wpIn_region_any (by kernel_rfl) ?_
  obtain ⟨w4, hw4⟩ : ∃ w4, w4 = w3.alloc (.cells (bs O) 78) := ⟨_, rfl⟩
  have HW4 := veil hw4
  rw [← hw4] at b4 ro4 q4
  have HLB := veil (HB.out.below b4)
  have HLH := veil (HH.out.below b4)
  have hs4 := b4.size
  clear hw4
  have HT : Hid (numT (fun k => if k = 0 then b else h) (accT (fun k => if k = 0 then b else h) 2) 2 = taggedL b.b h.b) := show _ = _ by
    have e1 := HB.out.hb
    have e2 := HH.out.hb
    simp [numT, accT, taggedL, fillL, e1, e2]
  have hTl : (taggedL b.b h.b).length ≤ 4194304 := by
    rw [taggedL_length, HB.out.hb, HH.out.hb]
    have := pad16_lt b.len
    have := pad16_lt h.len
    omega
  obtain ⟨T, hT⟩ : ∃ T, T = taggedL b.b h.b := ⟨_, rfl⟩
  rw [← hT] at HT hTl
  obtain ⟨M, hM⟩ : ∃ M, M = tagL O T := ⟨_, rfl⟩
  have hml : M.length = 16 := by rw [hM]; exact by16_length _
  have HM := veil hM
  have HTT := veil hT
  clear hM hT
  refine anyIn_inv2 (Inv := fun l a W => ∃ x : Nat → Value, a = tmT key nonce h b w1.heap.size w3.heap.size w.heap.size B O x ∧ JT O M T h b w4 l W x) depT 12 rfl (by kernel_rfl) ?step ?done _ _ _ _ rfl (by decide) ⟨fun _ => undef, rfl, ⟨by rw [HW4.out]; exact (Below.refl _ _).drew, fun j hj => absurd hj (On.none _ _), fun hj => absurd hj (On.none _ _)⟩⟩
  case step =>
    rintro l a W i hlz ⟨x, rfl, hJ⟩ hi hno hdep
    match i, hi, hno, hdep with
    | 0, _, hno, _ =>
      have rW := q4.below hJ.bel q4.lt
      refine OI_value rfl rfl (about_none (by intro c h; cases h)) (by intro c h; cases h) (.agg (bs O)) W (run_load_row 78 _ rfl w3.heap.size rfl _ _ 32 5 Tryz.underlying78 (by kernel_rfl) hoz W rW) ?_
      exact ⟨_, by kernel_rfl, hJ.next 0 (by decide) W (Below.refl _ _) _ rfl⟩
    | 1, _, hno, _ =>
      refine OI_value rfl rfl (about_none (by intro c h; cases h)) (by intro c h; cases h) (.slice b.a b.len b.cap) W (by kernel_rfl) ?_
      exact ⟨_, by kernel_rfl, hJ.next 1 (by decide) W (Below.refl _ _) _ rfl⟩
    | 2, _, hno, _ =>
      refine OI_value rfl rfl (about_none (by intro c h; cases h)) (by intro c h; cases h) (.slice h.a h.len h.cap) W (by kernel_rfl) ?_
      exact ⟨_, by kernel_rfl, hJ.next 2 (by decide) W (Below.refl _ _) _ rfl⟩
    | 3, _, hno, hdep =>
      have e1 : x 1 = .slice b.a b.len b.cap := hJ.g 1 (hdep 1 (by simp [depT]))
      have e2 : x 2 = .slice h.a h.len h.cap := hJ.g 2 (hdep 2 (by simp [depT]))
      refine OI_value rfl rfl (about_none (by intro c h; cases h)) (by intro c h; cases h) (.slice (some ⟨W.heap.size, 0, none⟩) 2 2) (W.alloc (.cells #[.slice b.a b.len b.cap, .slice h.a h.len h.cap] 22)) (by unfold tmT; simp only [e1, e2]; go_simp) ?_
      refine ⟨_, by kernel_rfl, hJ.next 3 (by decide) _ ((Below.refl _ W).alloc (Nat.le_refl _) _) _ fun _ => ⟨_, rfl, by simp, (Row.new W 22 _).cell 0, (Row.new W 22 _).cell 1⟩⟩
    | 4, _, hno, hdep =>
      obtain ⟨st, e3, hlt, c0, c1⟩ := (hJ.g 3 (hdep 3 (by simp [depT]))) hno
      have hW := hJ.bel
      rw [updV_self e3] at hJ ⊢
      refine OI_call rfl rfl (by intro c h; cases h) 122 #[.slice (some ⟨st, 0, none⟩) 2 2] (fun _ _ => trivial) (by kernel_rfl) (by decide) ?_
      have hcall := tagged_any 2 st 2 (fun k => if k = 0 then b else h) (by decide) W hlt (fun k hk => by
        match k, hk with
        | 0, _ => exact c0
        | 1, _ => exact c1) (fun k hk => by
        match k, hk with
        | 0, _ => exact ⟨HLB.out.below hW, bl⟩
        | 1, _ => exact ⟨HLH.out.below hW, hl⟩)
      rw [HT.out] at hcall
      refine (callsIn_wide.2 hcall).mono ?_
      rintro e w' ⟨v, rfl, hown, hb'⟩
      obtain ⟨q, hv, _, hqb, hok⟩ := own_sl6 hown
      exact ⟨_, rfl, _, by kernel_rfl, hJ.next 4 (by decide) w' hb' _ fun _ => ⟨q, hv, hok, hqb⟩⟩
    | 5, _, hno, hdep =>
      have e0 : x 0 = .agg (bs O) := hJ.g 0 (hdep 0 (by simp [depT]))
      obtain ⟨q, e4, hok, hqb⟩ := (hJ.g 4 (hdep 4 (by simp [depT]))) hno
      rw [updV_self e0] at hJ ⊢
      rw [updV_self (show updV x 0 (.agg (bs O)) 4 = .slice q.a q.len q.cap from e4)] at hJ ⊢
      refine OI_call rfl rfl (by intro c h; cases h) 121 #[.agg (bs O), .slice q.a q.len q.cap] (fun _ _ => trivial) (by kernel_rfl) (by decide) ?_
      refine (callsIn_wide.2 (tag_any O hol q W hok (by rw [← hok.hb, hqb]; exact hTl))).mono ?_
      rintro e w' ⟨rfl, hb'⟩
      rw [hqb, ← HM.out]
      exact ⟨_, rfl, _, by kernel_rfl, hJ.next 5 (by decide) w' hb' _ rfl⟩
    | 6, _, hno, hdep =>
      have e5 : x 5 = .tuple #[.agg (bs M), .int .i64 0] := hJ.g 5 (hdep 5 (by simp [depT]))
      rw [updV_self e5] at hJ ⊢
      refine OI_value rfl rfl (about_none (by intro c h; cases h)) (by intro c h; cases h) (.tuple #[.agg (bs M), .int .i64 0]) W (by kernel_rfl) ?_
      exact ⟨_, by kernel_rfl, hJ.next 6 (by decide) W (Below.refl _ _) _ rfl⟩
    | 7, _, hno, hdep =>
      have e6 : x 6 = .tuple #[.agg (bs M), .int .i64 0] := hJ.g 6 (hdep 6 (by simp [depT]))
      rw [updV_self e6] at hJ ⊢
      refine OI_value rfl rfl (about_none (by intro c h; cases h)) (by intro c h; cases h) (.agg (bs M)) W (by kernel_rfl) ?_
      exact ⟨_, by kernel_rfl, hJ.next 7 (by decide) W (Below.refl _ _) _ rfl⟩
    | 8, _, hno, hdep =>
      have e6 : x 6 = .tuple #[.agg (bs M), .int .i64 0] := hJ.g 6 (hdep 6 (by simp [depT]))
      rw [updV_self e6] at hJ ⊢
      refine OI_value rfl rfl (about_none (by intro c h; cases h)) (by intro c h; cases h) (.int .i64 0) W (by kernel_rfl) ?_
      exact ⟨_, by kernel_rfl, hJ.next 8 (by decide) W (Below.refl _ _) _ rfl⟩
    | 9, _, hno, _ =>
      refine OI_value rfl rfl (about_none (by intro c h; cases h)) (by intro c h; cases h) (.pointer (some ⟨W.heap.size, 0, none⟩)) (W.alloc (.cells (bs z16) 83)) (exec_alloc_row 83 rfl (bs z16) (by kernel_rfl)) ?_
      exact ⟨_, by kernel_rfl, hJ.next 9 (by decide) _ ((Below.refl _ W).alloc (Nat.le_refl _) _) _ ⟨_, z16, rfl, hJ.bel.size, Row.new _ _ _, rfl, fun hk => absurd (hJ.after (hk.of_set (by decide))) hno⟩⟩
    | 10, _, hno, hdep =>
      have e7 : x 7 = .agg (bs M) := hJ.g 7 (hdep 7 (by simp [depT]))
      obtain ⟨g, cs, e9, hg, rg, hcl, _⟩ := hJ.g 9 (hdep 9 (by simp [depT]))
      have o9 := hdep 9 (by simp [depT])
      have o5 := hdep 5 (by simp [depT])
      have o4 := hdep 4 (by simp [depT])
      rw [updV_self e7] at hJ ⊢
      rw [updV_self (show updV x 7 (.agg (bs M)) 9 = .pointer (some ⟨g, 0, none⟩) from e9)] at hJ ⊢
      refine OI_skip rfl rfl (about_none (by intro c h; cases h)) (by intro c h; cases h) (W.setRow g (bs M)) (run_store_row 83 _ _ rfl g (bs M) (by kernel_rfl) (by kernel_rfl) _ _ rg 16 (by kernel_rfl) (by rw [bs_size, hcl]) (by rw [bs_size, hml]) (bs_one _)) ?_
      refine ⟨updV (updV x 7 (.agg (bs M))) 9 (.pointer (some ⟨g, 0, none⟩)), by kernel_rfl, ⟨bSetRow hJ.bel hg _, fun j hj => ?_, fun _ => o9.set⟩⟩
      have hoth : j ≠ 10 → GT O M T h b w4.heap.size j l W (updV (updV x 7 (.agg (bs M))) 9 (.pointer (some ⟨g, 0, none⟩)) j) := fun hne => hJ.g j (hj.of_set (Ne.symm hne))
      match j, hoth with
      | 0, q => exact q (by decide)
      | 1, q => exact q (by decide)
      | 2, q => exact q (by decide)
      | 3, _ => exact fun hn => absurd o4.set hn
      | 4, _ => exact fun hn => absurd o5.set hn
      | 5, q => exact q (by decide)
      | 6, q => exact q (by decide)
      | 7, q => exact q (by decide)
      | 8, q => exact q (by decide)
      | 9, _ => exact ⟨g, M, rfl, hg, rg.put _, hml, fun _ => rfl⟩
      | 10, _ => trivial
      | 11, q => exact q (by decide)
      | _ + 12, _ => trivial
    | 11, _, hno, hdep =>
      have e8 : x 8 = .int .i64 0 := hJ.g 8 (hdep 8 (by simp [depT]))
      rw [updV_self e8] at hJ ⊢
      refine OI_value rfl rfl (about_none (by intro c h; cases h)) (by intro c h; cases h) (.int .i64 0) W (by kernel_rfl) ?_
      exact ⟨_, by kernel_rfl, hJ.next 11 (by decide) W (Below.refl _ _) _ rfl⟩
  case done =>
    rintro l a W ⟨x, rfl, hJ⟩ hon
    obtain ⟨g, cs, e9, hg, rg, _, hcs⟩ := hJ.g 9 (hon 9 (by omega))
    have hcs' := hcs (hon 10 (by omega))
    subst hcs'
    have bW := b4.trans (hJ.bel.mono hs4)
    have roW := ro4.below hJ.bel ro4.lt
    have hmz : (bs cs).size = 16 := by rw [bs_size, hml]
    have hz16 : (bs z16).size = 16 := by rw [bs_size]; rfl
    unfold tmT
    rw [e9]
    clear hJ hon hcs
    gi_wp2_with (first
      | (with_reducible (show wpListIn _ _ _ _ _ (⟨_, Op.load 83 _, _, _, _, _⟩ :: _) _ _)
         refine load_rowIn rfl 83 _ rfl g rfl _ _ rg 16 5 Tryz.underlying83 (by kernel_rfl) hmz ?_)
      | (with_reducible (show wpListIn _ _ _ _ _ (⟨_, Op.store 83 _ _, _, _, _, _⟩ :: _) _ _)
         refine store_rowIn rfl 83 _ _ rfl (w.heap.size + 1) (bs cs) rfl rfl _ _ roW 16 (by kernel_rfl) hz16 hmz (bs_one _) ?_))
    refine bodyPost_ret (result_row rfl _ _ (w.heap.size + 1) _ _ (roW.put _) 16 5 rfl Tryz.underlying83 (by kernel_rfl) hmz) rfl ⟨?_, bSetRow bW (by omega) _⟩
    unfold markL
    rw [HBB.out, HOO.out, ← HTT.out, ← HM.out]
end Go.Proofs.YtbheoldakmcppaaGreatDoor
