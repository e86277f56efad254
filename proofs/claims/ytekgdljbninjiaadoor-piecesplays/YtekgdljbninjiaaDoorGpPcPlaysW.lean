/-
  PiecesPlays, the walk. Written by mkplays9.py.
-/
import Derived.Test.YtekgdljbninjiaaDoorGpPcPlaysN
import Derived.Test.YtekgdljbninjiaaDoorGp9
import Derived.Test.YtekgdljbninjiaaDoorGp2
import Derived.Test.YtekgdljbninjiaaDoorGpPcFix
namespace Go.Proofs.YtekgdljbninjiaaDoor
open Go Go.RowKit Go.Maps Go.Shelf
attribute [local go_sem] Oper.semAt_some

/-- What stands after so many of the region's calls. -/
structure R16 (w : World) (P : Option Addr) (g m : Nat) (R : Option Addr) (r z B n bo tw : Nat) (x y : Option PS) (at_ : Nat) (sb : SL) (lst : Bool) (tk : Int) (k : Nat) (W : World) : Prop where
  pl : Pl w P g m R r z B n (fun b => b = bo ∨ b = tw) (if k = 0 then x else y) (if k < 2 then x else y) W
  row : Row W bo 51 #[.int .u64 (at_ : Int), .slice sb.a sb.len sb.cap, .bool lst, .int .i64 tk]
  twi : Twin W tw sb.b
  mid : 0 < sb.len → ∃ xs, Mid W (some ⟨tw, 0, none⟩) sb.len (sb.len + 1) tw 0 xs
section
variable {w W W' : World} {P R : Option Addr} {g m r z B n bo tw at_ k : Nat} {x y : Option PS} {sb : SL} {lst : Bool} {tk : Int}
theorem Twin.same9 {g : Nat} {b : List By} (h : Twin W g b) (hs : W'.heap[g]? = W.heap[g]?) : Twin W' g b := by
  have hl : g < W'.heap.size := by
    have h1 := Array.getElem?_eq_getElem h.lt
    rw [← hs] at h1
    exact (Array.getElem?_eq_some_iff.1 h1).1
  exact ⟨hl, fun j hj => (World.cell?_of_block (a := ⟨g, j, none⟩) hs).trans (h.cell j hj), (World.cell?_of_block (a := ⟨g, b.length, none⟩) hs).trans h.mark⟩
theorem R16.stay {k' : Nat} (h : R16 w P g m R r z B n bo tw x y at_ sb lst tk k W) (hp : Pl w P g m R r z B n (fun b => b = bo ∨ b = tw) (if k' = 0 then x else y) (if k' < 2 then x else y) W') (hs : Stay (fun b => b = bo ∨ b = tw) W W') : R16 w P g m R r z B n bo tw x y at_ sb lst tk k' W' :=
  ⟨hp, (hs.1 bo (.inl rfl)).trans h.row, h.twi.same9 (hs.1 tw (.inr rfl)), fun q => by
    obtain ⟨xs, hm⟩ := h.mid q
    exact ⟨xs, hm.same (fun _ => hs.1 tw (.inr rfl)) hs.2⟩⟩
theorem R16.below (h : R16 w P g m R r z B n bo tw x y at_ sb lst tk k W) (hb : Below W.heap.size W W') : R16 w P g m R r z B n bo tw x y at_ sb lst tk k W' :=
  h.stay (h.pl.below hb) ⟨fun b e => hb.block b (by obtain ⟨_, _, _, q⟩ := h.pl; exact (q.exs b e).1), hb.size⟩
theorem own_stay {W W' : World} {B e n : Nat} {v : Value} {xs : List Value} (h : W.ownsRow B e 1 v n xs) (hs : ∀ b, v.ownBlock = some b → W'.heap[b]? = W.heap[b]?) : W'.ownsRow B e 1 v n xs := by
  obtain ⟨h1, h2⟩ := h
  refine ⟨h1, ?_⟩
  rcases h2 with h2 | ⟨g', c, cur, rfl, h4, h5, h6⟩
  · exact .inl h2
  · exact .inr ⟨g', c, cur, rfl, h4, (hs g' rfl).trans h5, h6⟩
end
theorem take_oi (x : Option PS) (P : Option Addr) (g m N : Nat) (w : World) (h : PV w P g m x) (hN : N ≤ 9223372036854775807) (n : Int) (hn : n = (N : Int)) :
    Calls Tryd.prog 11 #[.pointer P, .int .i64 n] w fun e w' => ∃ v, e = .returned (.tuple #[v, .bool (Pc.oEnd x N), .int .i64 (Pc.oTE x : Int)]) ∧ w'.ownsRow w.heap.size 5 1 v (Pc.oL x N).length (vb (Pc.oL x N)) ∧ PV w' P g m (Pc.oTake x N) ∧ KeepP (oTwo x g m) w w' := by
  subst hn
  exact take_o x P g m N w h hN
theorem rtake_oi (x : Option PS) (R : Option Addr) (r gt gb N : Nat) (w : World) (h : RV w R r gt gb x) (hN : N ≤ 9223372036854775807) (n : Int) (hn : n = (N : Int)) :
    Calls Tryd.prog 12 #[.pointer R, .int .i64 n] w fun e w' => ∃ v, e = .returned (.tuple #[v, .bool (Pc.oEnd x N), .int .i64 (Pc.oTE x : Int)]) ∧ w'.ownsRow w.heap.size 5 1 v (Pc.oL x N).length (vb (Pc.oL x N)) ∧ (∃ gt' gb', RV w' R r gt' gb' (Pc.oTake x N) ∧ RNext w x r gt gb gt' gb') ∧ KeepP (oThr x r gt gb) w w' := by
  subst hn
  exact rtake_o x R r gt gb N w h hN
theorem own_g {W : World} {s : SL} (k : s.Ok W) (p : 0 < s.len) : (Value.slice s.a s.len s.cap).ownBlock = some s.g := by rw [k.at_ p]; rfl

set_option maxRecDepth 100000 in
set_option maxHeartbeats 40000000 in
theorem plays_any (rm : Int) (s : OL) (w : World) (h : s.Ok w) (hl : s.len ≤ 140737488355328) (hb : ∀ j, j < s.len → (go s.l j).b.len ≤ 140737488355328) :
    Calls Tryd.prog 3 #[.int .i64 rm, .slice s.a s.len s.cap] w fun e w' => e = .returned (.bool true) ∧ Below w.heap.size w w' := by
  have HS := veil h
  have HGR := veil (great_any s w h hl hb)
  clear h hl hb
  by_cases h1 : s.len > 300
  · have d1 : (s.len : Int) > 300 := by omega
    clear h1 HGR HS
    go_enter Tryd.func3, Tryd.ntmps3
    go_wp2_with fail
    go_ret
    exact ⟨rfl, Below.refl _ _⟩
  have d1 : ¬ ((s.len : Int) > 300) := by omega
  refine (callsIn_wide (n := 5)).1 ?_
  refine callsIn_of_wp Tryd.func3 rfl trivial ?_ rfl
  simp only [Tryd.ntmps3, List.size_toArray, List.length_cons, List.length_nil, Nat.reduceAdd, Nat.reduceSub, Array.replicate_succ, Array.replicate_zero, List.push_toArray, List.append_toArray, List.nil_append, List.cons_append]
  gi_wp2_with fail
  refine ⟨trivial, (callsIn_wide.2 HGR.out).mono ?_⟩
  rintro e2 w2 ⟨rfl | ⟨rfl, hall⟩, rfl⟩
  · gi_wp2_with fail
    go_ret
    exact ⟨rfl, Below.refl _ _⟩
  have HALL := veil hall.2
  clear hall HGR
  gi_wp2_with fail
  refine ⟨trivial, (callsIn_wide.2 (new_o rm w2)).mono ?_⟩
  rintro e3 w3 ⟨P, g, m, rfl, hpv, hpl, hb3⟩
  gi_wp2_with fail
  refine ⟨trivial, (callsIn_wide.2 (rnew_o rm w3)).mono ?_⟩
  rintro e4 w4 ⟨R, r, rfl, hrv, hrl, hb4⟩
  have hq1 := pv_nil hpv
  have hq2 := rv_nil hrv
  have HST := veil (Pl.start hb3 hpv hpl hb4 hrv hrl 48)
  have HL3 := veil h1
  unfold zeroC at HST
  clear hpv hpl hb3 hrv hrl hb4 h1
  generalize Pc.oNE rm = ne at *
  generalize hx0 : Pc.oNew rm = x0 at *
  have HX0 := veil hx0
  clear hx0
  generalize x0.isNone = bn at *
  gi_wp2_with fail
  have HST2 := veil HST.out
  clear HST hq1 hq2
  generalize ((w4.alloc (.cells #[.int .u64 0, .map none, .int .u64 0, .int .u64 0, .bool false] 34)).alloc (.cells #[.int .i64 0, .slice none 0 0, .slice none 0 0, .slice none 0 0, .slice none 0 0, .slice none 0 0, .slice none 0 0, .slice none 0 0, .slice none 0 0, .slice none 0 0, .slice none 0 0, .slice none 0 0, .slice none 0 0] 48)) = wk at *
  generalize w4.heap.size = z at *
  generalize z + 1 = B at *
  gi_loopw [12] (fun iv wr => ∃ i : Nat, i ≤ s.len ∧ iv = .int .i64 (i : Int) ∧ ∃ x n, n ≤ i ∧ Pl w2 P g m R r z B n (fun _ => False) x x wr)
    (fun iv _ => s.len - (intOf iv).toNat)
  case atStart => exact ⟨0, Nat.zero_le _, rfl, x0, 0, Nat.le_refl _, HST2.out⟩
  case round =>
    obtain ⟨i, hi, rfl, x, n, hn, hpl⟩ := hrel
    by_cases hlt : i < s.len
    · have hSr := HS.out.below hpl.bel
      obtain ⟨c0, c1, c2, c3⟩ := hSr.cells hlt
      have hop := HS.out.each i hlt
      have hbl := HALL.out i hlt
      have hix : ∀ W, (Instr.indexAt 22 (.slice s.a s.len s.cap) (.int .i64 (i : Int))).run Tryd.prog W = .ok (.pointer (some ⟨s.g, s.off + i * 4, none⟩)) W := fun W => by
        have hsz : ∀ W, (sizeOf 51).run Tryd.prog W = .ok 4 W := fun W => by kernel_rfl
        rw [HS.out.at_ (by omega)]
        simp [Instr.indexAt, asIntOf, run_underlying Tryd.underlying22, hlt, hsz, Addr.add_mid]
      generalize go s.l i = op at *
      obtain ⟨at_, sb, lst, tk⟩ := op
      simp only at c0 c1 c2 c3 hbl
      have hw2 : IntKind.i64.wrap ((i : Int) + 1) = ((i + 1 : Nat) : Int) := by rw [IntKind.wrap_i64]; have := HL3.out; omega
      have HN := veil (show n ≤ i ∧ i < 301 by have := HL3.out; omega)
      have HSB := veil hop.b
      have HHI := veil (show tk ≤ 9223372036854775807 from hop.hi)
      have HPL := veil hpl
      have HLEN := veil (show sb.len ≤ 4611686018427387903 by omega)
      have HL4 := veil (show sb.len ≤ 4194304 by omega)
      have R0 : Hid (Row (wr.alloc (.cells #[.int .u64 (at_ : Int), .slice sb.a sb.len sb.cap, .bool lst, .int .i64 tk] 51)) wr.heap.size 51 #[.int .u64 (at_ : Int), .slice sb.a sb.len sb.cap, .bool lst, .int .i64 tk]) := Row.new _ _ _
      have P0 := veil (hpl.more (W' := wr.alloc (.cells #[.int .u64 (at_ : Int), .slice sb.a sb.len sb.cap, .bool lst, .int .i64 tk] 51)) ((Below.refl _ _).alloc (Nat.le_refl _) _) (fun b => b = wr.heap.size) (fun b e => by rw [e]; exact ⟨Nat.le_refl _, by simp⟩))
      have HLO := veil hpl.bel.size
      clear hSr hop hpl hbl hn
      by_cases ht : tk < 0
      · clear HHI
        gi_wp2_with fail
        clear c0 c1 c2 c3 hix
        generalize (wr.alloc (.cells #[.int .u64 (at_ : Int), .slice sb.a sb.len sb.cap, .bool lst, .int .i64 tk] 51)) = wo at *
        generalize wr.heap.size = bo at *
        refine ⟨trivial, (callsIn_wide.2 (twin_own sb wo (HSB.out.below P0.out.bel) HL4.out)).mono ?_⟩
        rintro e5 w5 ⟨tw, rfl, htw, hown, hb5⟩
        obtain ⟨y, hy⟩ : ∃ y, y = Pc.oPut x at_ sb.b lst := ⟨_, rfl⟩
        obtain ⟨E, hE⟩ : ∃ E, E = Pc.oE x at_ sb.len lst := ⟨_, rfl⟩
        have HE := veil hE
        have HTWL := veil (show w2.heap.size ≤ tw from Nat.le_trans P0.out.bel.size (hown.lt tw rfl).1)
        have HR0 := veil (show R16 w2 P g m R r z B n bo tw x (Pc.oPut x at_ sb.b lst) at_ sb lst tk 0 w5 from
          ⟨(P0.out.more hb5 (fun b => b = tw) (fun b e => by rw [e]; exact hown.lt tw rfl)).less (fun b e => e.elim (fun q => .inl (.inr q)) .inr), R0.out.below hb5 R0.out.lt, htw, fun q => by
            obtain ⟨g', c', e1, _, _, hm⟩ := Mid.of_own hown q
            injection e1 with e1 e2 e3
            injection e1 with e1
            injection e1 with e1
            subst e1 e3
            exact ⟨_, hm⟩⟩)
        rw [← hy] at HR0
        have HY := veil hy
        clear hy hE htw hown hb5 P0 R0 HPL
        gi_wp2_with fail
        refine wpIn_region_any (by kernel_rfl) ?_
        refine anyIn_line (val16 P R bo tw z at_ E sb lst) (R16 w2 P g m R r z B n bo tw x y at_ sb lst tk) [6, 14, 20, 30, 40] ds16 dep16 (by kernel_rfl) rfl (by decide) (by decide) ?ord ?inn ?h0 ?fix ?cal ?done
        case ord =>
          intro k i j h1 h2
          match k, h1, h2 with
          | 0, h1, h2 => obtain rfl := Option.some.inj h1; obtain rfl := Option.some.inj h2; exact .inl (by decide)
          | 1, h1, h2 => obtain rfl := Option.some.inj h1; obtain rfl := Option.some.inj h2; exact .inr ⟨16, by decide, by decide⟩
          | 2, h1, h2 => obtain rfl := Option.some.inj h1; obtain rfl := Option.some.inj h2; exact .inr ⟨23, by decide, by decide⟩
          | 3, h1, h2 => obtain rfl := Option.some.inj h1; obtain rfl := Option.some.inj h2; exact .inr ⟨33, by decide, by decide⟩
          | k + 4, _, h2 => simp at h2
        case inn => intro j hj; simp at hj; show j < 43; omega
        case h0 => exact HR0.out.below ((Below.refl _ _).drew)
        case fix =>
          intro x' W k i d hR hdi hc hdep
          have q0 := hR.row.cell 0
          have q1 := hR.row.cell 1
          have q2 := hR.row.cell 2
          simp only [List.getElem?_toArray, List.getElem?_cons_succ, List.getElem?_cons_zero] at q0 q1 q2
          clear hR
          refine wp_cast (ops' := opsOf 16 Tryd.f3) (by kernel_rfl) ?_
          exact fix16_line (of_decide_eq_true (by kernel_rfl)) (by kernel_rfl) (by kernel_rfl) (by kernel_rfl) (by kernel_rfl) (by kernel_rfl) (by kernel_rfl) q0 q1 q2 hdi hc hdep
        case cal =>
          intro x' W k i d hR hk hdi hdep
          match k, hk, hR with
          | 0, hk, hR =>
            obtain rfl := Option.some.inj hk
            obtain rfl := Option.some.inj hdi
            rw [updV_self (show x' 0 = _ from hdep 0 (by simp [dep16])), updV_self (show (updV x' 0 _) 2 = _ from hdep 2 (by simp [dep16])), updV_self (show (updV (updV x' 0 _) 2 _) 3 = _ from hdep 3 (by simp [dep16])), updV_self (show (updV (updV (updV x' 0 _) 2 _) 3 _) 5 = _ from hdep 5 (by simp [dep16]))]
            with_reducible refine OI_call2 ?_ ?_ ?_ 8 #[.pointer P, .int .u64 (at_ : Int), .slice (some ⟨tw, 0, none⟩) sb.len (sb.len + 1), .bool lst] ?_ ?_ ?_ ?_
            · decide
            · kernel_rfl
            · intro c h; cases h
            · exact fun _ _ => trivial
            · kernel_rfl
            · decide
            · refine (callsIn_wide.2 (c_put w2 W P R g m r z B n _ x x hR.pl at_ (twinS tw sb.len sb.b) lst (hR.twi.ok HSB.out.hb) HLEN.out)).mono ?_
              rintro e w' ⟨rfl, h1, h2⟩
              have h4 : Pl w2 P g m R r z B n (fun b => b = bo ∨ b = tw) (Pc.oPut x at_ sb.b lst) x w' := h1
              rw [← HY.out] at h4
              exact ⟨_, rfl, by rw [HE.out]; rfl, hR.stay (k' := 1) h4 h2⟩
          | 1, hk, hR =>
            obtain rfl := Option.some.inj hk
            obtain rfl := Option.some.inj hdi
            rw [updV_self (show x' 7 = _ from hdep 7 (by simp [dep16])), updV_self (show (updV x' 7 _) 9 = _ from hdep 9 (by simp [dep16])), updV_self (show (updV (updV x' 7 _) 9 _) 11 = _ from hdep 11 (by simp [dep16])), updV_self (show (updV (updV (updV x' 7 _) 9 _) 11 _) 13 = _ from hdep 13 (by simp [dep16]))]
            with_reducible refine OI_call2 ?_ ?_ ?_ 9 #[.pointer R, .int .u64 (at_ : Int), .slice sb.a sb.len sb.cap, .bool lst] ?_ ?_ ?_ ?_
            · decide
            · kernel_rfl
            · intro c h; cases h
            · exact fun _ _ => trivial
            · kernel_rfl
            · decide
            · refine (callsIn_wide.2 (c_rput w2 W P R g m r z B n _ _ x hR.pl at_ sb lst (HSB.out.below hR.pl.bel) HSB.out.lt HLEN.out)).mono ?_
              rintro e w' ⟨rfl, h1, h2⟩
              have h4 : Pl w2 P g m R r z B n (fun b => b = bo ∨ b = tw) y (Pc.oPut x at_ sb.b lst) w' := h1
              rw [← HY.out] at h4
              exact ⟨_, rfl, by rw [HE.out]; rfl, hR.stay (k' := 2) h4 h2⟩
          | 2, hk, hR =>
            obtain rfl := Option.some.inj hk
            obtain rfl := Option.some.inj hdi
            rw [updV_self (show x' 17 = _ from hdep 17 (by simp [dep16])), updV_self (show (updV x' 17 _) 19 = _ from hdep 19 (by simp [dep16])), updV_self (show (updV (updV x' 17 _) 19 _) 16 = _ from hdep 16 (by simp [dep16]))]
            with_reducible refine OI_call2 ?_ ?_ ?_ 10 #[.slice (some ⟨tw, 0, none⟩) sb.len (sb.len + 1), .slice sb.a sb.len sb.cap] ?_ ?_ ?_ ?_
            · decide
            · kernel_rfl
            · intro c h; cases h
            · exact fun _ _ => trivial
            · kernel_rfl
            · decide
            · refine (callsIn_wide.2 (left_sl sb tw W (HSB.out.below hR.pl.bel) HL4.out hR.twi)).mono ?_
              rintro e w' ⟨rfl, hb⟩
              exact ⟨_, rfl, rfl, (hR.below hb).stay (k' := 3) (hR.below hb).pl ⟨fun _ _ => rfl, Nat.le_refl _⟩⟩
          | 3, hk, hR =>
            obtain rfl := Option.some.inj hk
            obtain rfl := Option.some.inj hdi
            rw [updV_self (show x' 24 = _ from hdep 24 (by simp [dep16])), updV_self (show (updV x' 24 _) 26 = _ from hdep 26 (by simp [dep16])), updV_self (show (updV (updV x' 24 _) 26 _) 27 = _ from hdep 27 (by simp [dep16])), updV_self (show (updV (updV (updV x' 24 _) 26 _) 27 _) 29 = _ from hdep 29 (by simp [dep16])), updV_self (show (updV (updV (updV (updV x' 24 _) 26 _) 27 _) 29 _) 23 = _ from hdep 23 (by simp [dep16]))]
            with_reducible refine OI_call2 ?_ ?_ ?_ 8 #[.pointer (some ⟨z, 0, none⟩), .int .u64 (at_ : Int), .slice (some ⟨tw, 0, none⟩) sb.len (sb.len + 1), .bool lst] ?_ ?_ ?_ ?_
            · decide
            · kernel_rfl
            · intro c h; cases h
            · exact fun _ _ => trivial
            · kernel_rfl
            · decide
            · refine (callsIn_wide.2 (put_zero W z at_ _ _ _ lst hR.pl.zcell.1)).mono ?_
              rintro e w' ⟨rfl, rfl⟩
              exact ⟨_, rfl, rfl, hR.stay (k' := 4) hR.pl ⟨fun _ _ => rfl, Nat.le_refl _⟩⟩
          | 4, hk, hR =>
            obtain rfl := Option.some.inj hk
            obtain rfl := Option.some.inj hdi
            rw [updV_self (show x' 34 = _ from hdep 34 (by simp [dep16])), updV_self (show (updV x' 34 _) 36 = _ from hdep 36 (by simp [dep16])), updV_self (show (updV (updV x' 34 _) 36 _) 37 = _ from hdep 37 (by simp [dep16])), updV_self (show (updV (updV (updV x' 34 _) 36 _) 37 _) 39 = _ from hdep 39 (by simp [dep16])), updV_self (show (updV (updV (updV (updV x' 34 _) 36 _) 37 _) 39 _) 33 = _ from hdep 33 (by simp [dep16]))]
            with_reducible refine OI_call2 ?_ ?_ ?_ 8 #[.pointer none, .int .u64 (at_ : Int), .slice (some ⟨tw, 0, none⟩) sb.len (sb.len + 1), .bool lst] ?_ ?_ ?_ ?_
            · decide
            · kernel_rfl
            · intro c h; cases h
            · exact fun _ _ => trivial
            · kernel_rfl
            · decide
            · refine (callsIn_wide.2 (put_nil W at_ _ _ _ lst)).mono ?_
              rintro e w' ⟨rfl, rfl⟩
              exact ⟨_, rfl, rfl, hR.stay (k' := 5) hR.pl ⟨fun _ _ => rfl, Nat.le_refl _⟩⟩
          | k + 5, hk, _ => simp at hk
        case done =>
          intro W hR
          have hR5 : R16 w2 P g m R r z B n bo tw x y at_ sb lst tk 5 W := hR
          have PL5 := veil (show Pl w2 P g m R r z B n (fun b => b = bo ∨ b = tw) y y W from hR5.pl)
          have MI5 := veil hR5.mid
          clear hR hR5 HR0
          simp only [ds16, putsV, val16, Act.put, List.setIfInBounds_toArray, List.set_cons_succ, List.set_cons_zero, Nat.reduceAdd]
          gi_wp2_with fail
          gi_loopw [15] (fun jv wq => ∃ j : Nat, j ≤ sb.len ∧ jv = .int .i64 (j : Int) ∧ Pl w2 P g m R r z B n (fun b => b = bo ∨ b = tw) y y wq ∧ (0 < sb.len → ∃ xs, Mid wq (some ⟨tw, 0, none⟩) sb.len (sb.len + 1) tw 0 xs))
            (fun jv _ => sb.len - (intOf jv).toNat)
          case atStart => exact ⟨0, Nat.zero_le _, rfl, PL5.out, MI5.out⟩
          case round =>
            obtain ⟨j, hj, rfl, hplq, hmi⟩ := hrel
            by_cases hlj : j < sb.len
            · obtain ⟨xs, hm⟩ := hmi (by omega)
              have hth := hm.there j (by omega)
              rw [Nat.zero_add] at hth
              obtain ⟨u, hu⟩ := Option.isSome_iff_exists.1 hth.1
              have hfz := hth.2
              have hwj : IntKind.i64.wrap ((j : Int) + 1) = ((j + 1 : Nat) : Int) := by rw [IntKind.wrap_i64]; have := HL4.out; omega
              have hms := hm.set hlj (.int .u8 238)
              rw [Nat.zero_add] at hms
              have MS := veil hms
              have PW := veil (hplq.write (t := tw) (.inr rfl) HTWL.out (KeepP.setCell (st := fun b => b = tw) rfl wr j (.int .u8 238)))
              clear hth hm hms hplq hmi
              gi_wp2_with fail
              go_roundw
              case rel => exact ⟨j + 1, hlj, by go_num, PW.out, fun _ => ⟨_, MS.out⟩⟩
              case measure => simp [intOf]; omega
            · obtain rfl : j = sb.len := by omega
              have PLA := veil (hplq.less (ex' := fun _ => False) (fun b e => e.elim))
              clear hplq hmi
              gi_wp2_with fail
              refine ⟨trivial, (callsIn_wide.2 (end_o y P g m _ PLA.out.reads.1)).mono ?_⟩
              rintro e16 w16 ⟨rfl, hb16⟩
              have PLB := veil (PLA.out.below hb16)
              clear hb16 PLA
              gi_wp2_with fail
              obtain ⟨gt16, gb16, hrv16⟩ := PLB.out.reads.2
              refine ⟨trivial, (callsIn_wide.2 (rend_o y R r gt16 gb16 w16 hrv16)).mono ?_⟩
              rintro e17 w17 ⟨rfl, hb17⟩
              have PLC := veil (PLB.out.below hb17)
              clear hb17 hrv16 PLB
              generalize Pc.oLast y = ol at *
              generalize Pc.oKnown y = ok at *
              gi_wp2_with fail
              refine ⟨trivial, (callsIn_wide.2 (read_o y P g m _ PLC.out.reads.1)).mono ?_⟩
              rintro e18 w18 ⟨rfl, rfl⟩
              gi_wp2_with fail
              obtain ⟨gt18, gb18, hrv18⟩ := PLC.out.reads.2
              refine ⟨trivial, (callsIn_wide.2 (rread_o y R r gt18 gb18 _ hrv18)).mono ?_⟩
              rintro e19 w19 ⟨rfl, rfl⟩
              clear hrv18
              generalize Pc.oRead y = ord at *
              gi_wp2_with fail
              refine ⟨trivial, (callsIn_wide.2 (held_o y P g m _ PLC.out.reads.1)).mono ?_⟩
              rintro e20 w20 ⟨rfl, rfl⟩
              gi_wp2_with fail
              obtain ⟨gt20, gb20, hrv20⟩ := PLC.out.reads.2
              refine ⟨trivial, (callsIn_wide.2 (rheld_o y R r gt20 gb20 _ hrv20)).mono ?_⟩
              rintro e21 w21 ⟨rfl, rfl⟩
              clear hrv20
              generalize Pc.oHeld y = ohd at *
              gi_wp2_with fail
              go_roundw
              case rel => exact ⟨i + 1, hlt, by go_num, y, n, by have := HN.out; omega, PLC.out⟩
              case measure => simp [intOf]; omega
      · obtain ⟨N, hN⟩ : ∃ N : Nat, tk = (N : Int) := ⟨tk.toNat, by omega⟩
        have hN2 : N ≤ 9223372036854775807 := by have := HHI.out; omega
        clear ht HHI
        subst hN
        have d2 : ¬ ((N : Int) < 0) := by omega
        gi_wp2_with fail
        clear c0 c1 c2 c3 hix
        generalize (wr.alloc (.cells #[.int .u64 (at_ : Int), .slice sb.a sb.len sb.cap, .bool lst, .int .i64 (N : Int)] 51)) = wo at *
        generalize wr.heap.size = bo at *
        refine ⟨trivial, (callsIn_wide.2 (c_take w2 wo P R g m r z B n _ x x P0.out N hN2)).mono ?_⟩
        rintro e5 w5 ⟨v, rfl, hv, hp5, hs5⟩
        obtain ⟨s1, e1, l1, b1, k1, _⟩ := SL.of_own hv
        have e1' : v = .slice s1.a s1.len s1.cap := e1.symm
        subst e1'
        rw [← l1] at hv
        have HV := veil (own_low hv P0.out.bel.size)
        have HL1 := veil (show s1.len ≤ 1048576 by rw [l1]; exact P0.out.fine N)
        have R5 : Hid (Row w5 bo 51 #[.int .u64 (at_ : Int), .slice sb.a sb.len sb.cap, .bool lst, .int .i64 (N : Int)]) := (hs5.1 bo (.inr rfl)).trans R0.out
        have P5 := veil hp5
        have K1 := veil k1
        have B1 := veil b1
        have q3 := R5.out.cell 3
        simp only [List.getElem?_toArray, List.getElem?_cons_succ, List.getElem?_cons_zero] at q3
        clear hv hp5 hs5 e1 l1 b1 k1 R0 P0 HPL HSB HLEN HL4
        gi_wp2_with fail
        refine ⟨trivial, (callsIn_wide.2 (c_rtake w2 w5 P R g m r z B n _ _ x P5.out N hN2)).mono ?_⟩
        rintro e6 w6 ⟨v2, rfl, hv2, hp6, hs6⟩
        obtain ⟨s2, e2, l2, b2, k2, _⟩ := SL.of_own hv2
        have e2' : v2 = .slice s2.a s2.len s2.cap := e2.symm
        subst e2'
        have R6 : Hid (Row w6 bo 51 #[.int .u64 (at_ : Int), .slice sb.a sb.len sb.cap, .bool lst, .int .i64 (N : Int)]) := (hs6.1 bo (.inl (.inr rfl))).trans R5.out
        have V6 := veil (own_stay HV.out (fun b e => hs6.1 b (.inr e)))
        have K6 := veil (K1.out.same (fun p => hs6.1 s1.g (.inr (own_g K1.out p))) hs6.2)
        have K2 := veil k2
        have B2 := veil (B1.out.trans b2.symm)
        have P6 := veil hp6
        have HZ6 := veil hp6.zcell
        clear q3
        have q3 := R6.out.cell 3
        simp only [List.getElem?_toArray, List.getElem?_cons_succ, List.getElem?_cons_zero] at q3
        clear hv2 hp6 hs6 e2 l2 b2 k2 R5 HV K1 B1 P5
        obtain ⟨y, hy⟩ : ∃ y, y = Pc.oTake x N := ⟨_, rfl⟩
        rw [← hy] at P6
        clear hy
        generalize Pc.oEnd x N = en at *
        generalize Pc.oTE x = te at *
        gi_wp2_with fail
        refine ⟨trivial, (callsIn_wide.2 (take_zero z (N : Int) w6 HZ6.out.2 HZ6.out.1)).mono ?_⟩
        rintro e7 w7 ⟨rfl, hb7⟩
        have P7 := veil (P6.out.below hb7)
        have V7 := veil (own_below V6.out hb7)
        have K7 := veil (K6.out.below hb7)
        have J7 := veil (K2.out.below hb7)
        clear hb7 P6 V6 K6 K2 R6 q3 HZ6
        gi_wp2_with fail
        refine ⟨trivial, (callsIn_wide.2 (same_sl s1 s2 w7 K7.out J7.out B2.out (by have := HL1.out; omega))).mono ?_⟩
        rintro e8 w8 ⟨rfl, hb8⟩
        have P8 := veil (P7.out.below hb8)
        have V8 := veil (own_below V7.out hb8)
        clear hb8 P7 V7 K7 J7 B2
        gi_wp2_with fail
        refine ⟨trivial, (callsIn_wide.2 (c_tell w2 w8 P R g m r z B n _ _ _ P8.out (by have := HN.out; omega) s1.a s1.len s1.cap _ V8.out (by have := HL1.out; omega) (fun b e => .inr e))).mono ?_⟩
        rintro e9 w9 ⟨rfl, hp9, _⟩
        have PLA := veil (hp9.less (ex' := fun _ => False) (fun b e => e.elim))
        clear hp9 P8 V8
        gi_wp2_with fail
        refine ⟨trivial, (callsIn_wide.2 (end_o y P g m _ PLA.out.reads.1)).mono ?_⟩
        rintro e16 w16 ⟨rfl, hb16⟩
        have PLB := veil (PLA.out.below hb16)
        clear hb16 PLA
        gi_wp2_with fail
        obtain ⟨gt16, gb16, hrv16⟩ := PLB.out.reads.2
        refine ⟨trivial, (callsIn_wide.2 (rend_o y R r gt16 gb16 w16 hrv16)).mono ?_⟩
        rintro e17 w17 ⟨rfl, hb17⟩
        have PLC := veil (PLB.out.below hb17)
        clear hb17 hrv16 PLB
        generalize Pc.oLast y = ol at *
        generalize Pc.oKnown y = ok at *
        gi_wp2_with fail
        refine ⟨trivial, (callsIn_wide.2 (read_o y P g m _ PLC.out.reads.1)).mono ?_⟩
        rintro e18 w18 ⟨rfl, rfl⟩
        gi_wp2_with fail
        obtain ⟨gt18, gb18, hrv18⟩ := PLC.out.reads.2
        refine ⟨trivial, (callsIn_wide.2 (rread_o y R r gt18 gb18 _ hrv18)).mono ?_⟩
        rintro e19 w19 ⟨rfl, rfl⟩
        clear hrv18
        generalize Pc.oRead y = ord at *
        gi_wp2_with fail
        refine ⟨trivial, (callsIn_wide.2 (held_o y P g m _ PLC.out.reads.1)).mono ?_⟩
        rintro e20 w20 ⟨rfl, rfl⟩
        gi_wp2_with fail
        obtain ⟨gt20, gb20, hrv20⟩ := PLC.out.reads.2
        refine ⟨trivial, (callsIn_wide.2 (rheld_o y R r gt20 gb20 _ hrv20)).mono ?_⟩
        rintro e21 w21 ⟨rfl, rfl⟩
        clear hrv20
        generalize Pc.oHeld y = ohd at *
        gi_wp2_with fail
        go_roundw
        case rel => exact ⟨i + 1, hlt, by go_num, y, n + 1, by have := HN.out; omega, PLC.out⟩
        case measure => simp [intOf]; omega
    · obtain rfl : i = s.len := by omega
      have HPL := veil hpl
      have HN := veil (show n ≤ 300 by have := HL3.out; omega)
      clear hpl hn
      gi_wp2_with fail
      refine ⟨trivial, (callsIn_wide.2 (c_apart w2 _ P R g m r z B n _ x x HPL.out (by have := HN.out; omega))).mono ?_⟩
      rintro e5 w5 ⟨rfl, ⟨gt, gb, hpv, hrv, htt, hlo, htz⟩, hz5, hb5⟩
      have PV5 := veil hpv
      have RV5 := veil hrv
      have TT := veil htt
      have LO := veil hlo
      have TZ := veil htz
      have Z5 := veil hz5
      have B5 := veil hb5
      clear HPL hpv hrv htt hlo htz hz5 hb5
      gi_wp2_with fail
      refine ⟨trivial, (callsIn_wide.2 (take_oi x P g m 1099511627776 w5 PV5.out (by decide) 1099511627776 rfl)).mono ?_⟩
      rintro e6 w6 ⟨v, rfl, hv, _, k6⟩
      obtain ⟨s1, e1, l1, b1, k1, g1⟩ := SL.of_own hv
      have e1' : v = .slice s1.a s1.len s1.cap := e1.symm
      subst e1'
      have RV6 := veil (RV5.out.keep k6 (fun b e => (TT.out b e).1))
      have Z6 := veil (k6.row Z5.out TZ.out)
      have B6 := veil (B5.out.trans (low_of k6 B5.out.size (fun b e => LO.out b (.inl e))))
      have K1 := veil k1
      have BL := veil (show (s1.len ≤ 1048576 ∧ s1.b = Pc.oL x 1099511627776) ∧ ∀ b, oThr x r gt gb b → 0 < s1.len → b ≠ s1.g from ⟨⟨by rw [l1]; exact Pc.oL_le x PV5.out.fine _, b1⟩, fun b e p q => by have := RV5.out.lt b e; have := g1 (by omega); omega⟩)
      clear hv k6 e1 l1 b1 k1 g1 RV5 Z5 B5 PV5
      gi_wp2_with fail
      refine ⟨trivial, (callsIn_wide.2 (rtake_oi x R r gt gb 1099511627776 w6 RV6.out (by decide) 1099511627776 rfl)).mono ?_⟩
      rintro e7 w7 ⟨v2, rfl, hv2, _, k7⟩
      obtain ⟨s2, e2, l2, b2, k2, _⟩ := SL.of_own hv2
      have e2' : v2 = .slice s2.a s2.len s2.cap := e2.symm
      subst e2'
      have Z7 := veil (k7.row Z6.out (fun e => (TT.out z e).2 rfl))
      have B7 := veil (B6.out.trans (low_of k7 B6.out.size (fun b e => LO.out b (.inr e))))
      have K7 := veil (K1.out.same (fun p => k7.block s1.g (K1.out.lt p) (fun e => BL.out.2 s1.g e p rfl)) k7.size)
      have K2 := veil k2
      have BB := veil (show s1.b = s2.b ∧ s1.len ≤ 1048576 from ⟨BL.out.1.2.trans b2.symm, BL.out.1.1⟩)
      clear hv2 k7 e2 l2 b2 k2 RV6 Z6 B6 K1 BL
      generalize Pc.oEnd x 1099511627776 = en at *
      generalize Pc.oTE x = te at *
      gi_wp2_with fail
      refine ⟨trivial, (callsIn_wide.2 (end_zero w7 z (Z7.out.cell 1))).mono ?_⟩
      rintro e8 w8 ⟨rfl, rfl⟩
      gi_wp2_with fail
      refine ⟨trivial, (callsIn_wide.2 (same_sl s1 s2 _ K7.out K2.out BB.out.1 (by have := BB.out.2; omega))).mono ?_⟩
      rintro e9 w9 ⟨rfl, hb9⟩
      have Z9 := veil (Z7.out.below hb9 Z7.out.lt)
      have B9 := veil (B7.out.trans (hb9.mono B7.out.size))
      clear hb9 Z7 B7 K7 K2
      gi_wp2_with fail
      refine ⟨trivial, (callsIn_wide.2 (read_zero w9 z (Z9.out.cell 1))).mono ?_⟩
      rintro e10 w10 ⟨rfl, rfl⟩
      gi_wp2_with fail
      refine ⟨trivial, (callsIn_wide.2 (held_zero _ z (Z9.out.cell 1))).mono ?_⟩
      rintro e11 w11 ⟨rfl, rfl⟩
      gi_wp2_with fail
      go_ret
      exact ⟨rfl, B9.out⟩
end Go.Proofs.YtekgdljbninjiaaDoor
