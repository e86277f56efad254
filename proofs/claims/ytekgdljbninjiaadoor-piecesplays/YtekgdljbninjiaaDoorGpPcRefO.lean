/-
  What the document's Put does.
-/
import Derived.Test.YtekgdljbninjiaaDoorGpPcRefP
namespace Go.Proofs.YtekgdljbninjiaaDoor
open Go Go.RowKit Go.Maps Go.Shelf

section
variable {P : Program} {ops : Array Oper} {rest : List Oper} {o : Oper} {a : Act} {w : World} {Q : Exit → Act → World → Prop}
theorem appendW (hgd : o.guard = .none) (s x : Operand) (t : TypeId) (ho : o.op = .call { callee := .builtin .append, args := #[s, x], argTypes := #[t, t] }) (vs vx : Value) (hs : a.eval s = vs) (hx : a.eval x = vx)
    (v : Value) (w' : World) (hr : (Builtin.append_ #[t, t] o.type #[vs, vx]).run P w = .ok v w') (h : wpList P ops Q rest (a.put o.dst v) w') : wpList P ops Q (o :: rest) a w :=
  wpList_plain hgd fun _ hK => by
    unfold Oper.wp
    rw [exec_append s x t t ho vs vx hs hx v w' hr]
    exact hK _ _ h
end
def SL.byte (s : SL) (i : Nat) : By := gb s.b i
def PS.withF (S : PS) (f : Nat → Option By) : PS := { S with f := f }
/-- While bytes are laid. -/
structure PutI (w : World) (r gt gb : Nat) (S : PS) (f : Nat → Option By) (wr : World) (n : Nat) (gt' gb' : Nat) (a : Option Addr) (c o : Nat) (a' : Option Addr) (c' o' : Nat) : Prop where
  at_ : RfAt wr r gt' gb' (S.withF f) n a c o a' c' o'
  wt : Went w gt gt'
  wb : Went w gb gb'
  keep : KeepP (Thr r gt gb) w wr
theorem PutI.sub {w wr : World} {r gt gb : Nat} {S : PS} {f : Nat → Option By} {n gt' gb' : Nat} {a : Option Addr} {c o : Nat} {a' : Option Addr} {c' o' : Nat} (h : PutI w r gt gb S f wr n gt' gb' a c o a' c' o') : ∀ k, k < w.heap.size → Thr r gt' gb' k → Thr r gt gb k := by
  rintro k hk (rfl | rfl | rfl)
  · exact .inl rfl
  · rcases h.wt with e | e
    · exact .inr (.inl e)
    · omega
  · rcases h.wb with e | e
    · exact .inr (.inr e)
    · omega
theorem PutI.go {w wr wr' : World} {r gt gb : Nat} {S : PS} {f f' : Nat → Option By} {n gt' gb' : Nat} {a : Option Addr} {c o : Nat} {a' : Option Addr} {c' o' : Nat} (h : PutI w r gt gb S f wr n gt' gb' a c o a' c' o') {n2 gt2 gb2 : Nat} {a2 : Option Addr} {c2 o2 : Nat} {a3 : Option Addr} {c3 o3 : Nat} (h2 : RfAt wr' r gt2 gb2 (S.withF f') n2 a2 c2 o2 a3 c3 o3) (wt : Went wr gt' gt2) (wb : Went wr gb' gb2) (k : KeepP (Thr r gt' gb') wr wr') : PutI w r gt gb S f' wr' n2 gt2 gb2 a2 c2 o2 a3 c3 o3 := by
  have hz := h.keep.size
  refine ⟨h2, ?_, ?_, ?_⟩
  · rcases wt with e | e
    · rw [e]; exact h.wt
    · exact .inr (by omega)
  · rcases wb with e | e
    · rw [e]; exact h.wb
    · exact .inr (by omega)
  · exact ⟨k.os.trans h.keep.os, k.tape.trans h.keep.tape, k.output.trans h.keep.output, Nat.le_trans hz k.size, fun i hi hn => (k.block i (by omega) (fun e => hn (h.sub i hi e))).trans (h.keep.block i hi hn)⟩
/-- How many there are. -/
def lenAt (r : Nat) (w : World) : Nat := match w.cell? ⟨r, 5, .none⟩ with | some (.slice _ n _) => n | _ => 0
theorem lenAt_of {w : World} {r gt gb : Nat} {S : PS} {n : Nat} {a : Option Addr} {c o : Nat} {a' : Option Addr} {c' o' : Nat} (h : RfAt w r gt gb S n a c o a' c' o') : lenAt r w = n := by
  unfold lenAt
  simp only [h.cells.2.2.2.2.2.1]
theorem PutI.drew {w wr : World} {r gt gb : Nat} {S : PS} {f : Nat → Option By} {n gt' gb' : Nat} {a : Option Addr} {c o : Nat} {a' : Option Addr} {c' o' : Nat} (h : PutI w r gt gb S f wr n gt' gb' a c o a' c' o') (nq : Nat) : PutI w r gt gb S f (wr.drewN nq) n gt' gb' a c o a' c' o' :=
  h.go (h.at_.same (fun _ _ => rfl) (Nat.le_refl _)) (.inl rfl) (.inl rfl) (KeepP.of_below (below_drewN (Below.refl _ _) _))
theorem put_done {w wr W : World} {r gt gb : Nat} {S : PS} {F : Nat → Option By} {n gt' gb' : Nat} {a : Option Addr} {c o : Nat} {a' : Option Addr} {c' o' : Nat} (h : PutI w r gt gb S F wr n gt' gb' a c o a' c' o') {p : Nat} {b : List By} {last : Bool} (hF : (Pc.putS S p b last).f = F) (hFI : (Pc.putS S p b last).Fine)
    (hR : Row W r 66 (rfC (Pc.putS S p b last) n a c a' c')) (hK : KeepP (fun k => k = r) wr W) : (∃ gt' gb', RfOk W r gt' gb' (Pc.putS S p b last) ∧ Went w gt gt' ∧ Went w gb gb') ∧ KeepP (Thr r gt gb) w W := by
  have e := h.at_
  have m1 : Mid W a n c gt' o (tlR (Pc.putS S p b last).f (Pc.putS S p b last).read n) := by
    rw [hF]
    exact e.there.same (fun q => hK.block gt' (e.there.lt q) (e.t1 q)) hK.size
  have m2 : Mid W a' n c' gb' o' (blR (Pc.putS S p b last).f (Pc.putS S p b last).read n) := by
    rw [hF]
    exact e.bytes.same (fun q => hK.block gb' (e.bytes.lt q) (e.b1 q)) hK.size
  refine ⟨⟨gt', gb', ⟨hFI, n, a, c, o, a', c', o', hR, m1, m2, e.t0, e.t1, e.b0, e.b1, e.tb, e.room, fun x hx => ?_⟩, h.wt, h.wb⟩, h.keep.trans (hK.weak (fun k _ e => .inl e))⟩
  rw [hF]
  exact e.none x hx
theorem putLast {S : PS} {p : Nat} {b : List By} {last : Bool} {q : Nat} (hq : q = p + b.length) (hf1 : ¬ (S.known = true ∧ S.come < q)) (hf2 : ¬ (last = true ∧ q < S.come)) : lastN (Pc.putS S p b last) = if last then q else lastN S := by
  unfold lastN Pc.putS
  simp only [← hq]
  cases hl : last with
  | true =>
    have : ¬ q < S.come := fun e => hf2 ⟨hl, e⟩
    simp only [Bool.or_true, if_true]
    omega
  | false =>
    simp only [Bool.or_false, if_false, Bool.false_eq_true]
    cases hk : S.known with
    | true =>
      have : ¬ S.come < q := fun e => hf1 ⟨hk, e⟩
      simp only [if_true]
      omega
    | false => rfl

set_option maxRecDepth 20000 in
set_option maxHeartbeats 4000000 in
theorem rput_ok (S : PS) (r gt gb p : Nat) (s : SL) (last : Bool) (w : World) (h : RfOk w r gt gb S) (hs : s.Ok w) (hsep : 0 < s.len → ¬ Thr r gt gb s.g) (hE : Pc.putE S p s.len last = 0) :
    Calls Tryd.prog 9 #[.pointer (some ⟨r, 0, .none⟩), .int .u64 (p : Int), .slice s.a s.len s.cap, .bool last] w fun e w' => e = .returned (.int .i64 0) ∧ (∃ gt' gb', RfOk w' r gt' gb' (Pc.putS S p s.b last) ∧ Went w gt gt' ∧ Went w gb gb') ∧ KeepP (Thr r gt gb) w w' := by
  obtain ⟨hq, hf1, hf2, hfl⟩ := Pc.putE_zero hE
  obtain ⟨hf, n0, a0, cc0, o0, a0', cc0', o0', h⟩ := h
  obtain ⟨c0, c1, c2, c3, c4, c5, c6⟩ := h.cells
  have hrm := hf.room
  have hrd : S.read ≤ 4611686018427387903 := by have := hf.rc; have := hf.come; omega
  have hcm := hf.come
  have HFI := veil (Pc.put_fine (b := s.b) hf (by rw [hs.hb]; exact hE))
  have hw0 : IntKind.u64.wrap (s.len : Int) = (s.len : Int) := by rw [IntKind.wrap_u64]; omega
  obtain ⟨q, hq0⟩ : ∃ q, q = p + s.len := ⟨_, rfl⟩
  have hw1 : IntKind.u64.wrap ((p : Int) + (s.len : Int)) = (q : Int) := by rw [IntKind.wrap_u64]; omega
  have h1 : decide ((p : Int) > 4611686018427387903) = false := by simp; omega
  have h2 : decide ((q : Int) > 4611686018427387903) = false := by simp; omega
  obtain ⟨rr, hr0⟩ : ∃ rr, rr = S.read + S.room := ⟨_, rfl⟩
  have hwr : IntKind.u64.wrap (S.room : Int) = (S.room : Int) := by rw [IntKind.wrap_u64]; omega
  have hw2 : IntKind.u64.wrap ((S.read : Int) + (S.room : Int)) = (rr : Int) := by rw [IntKind.wrap_u64]; omega
  have hg : decide ((q : Int) > (rr : Int)) = false := by simp; omega
  have hgn : decide (rr < q) = false := by simp; omega
  obtain ⟨lo, hlo⟩ : ∃ lo, lo = max p S.read := ⟨_, rfl⟩
  have HLO := veil hlo
  have HS := veil hs
  have HSEP := veil hsep
  have HN := veil (show p + s.len ≤ 4611686018427387903 ∧ q = p + s.len ∧ p + s.len ≤ S.read + S.room ∧ S.room ≤ 1048576 ∧ S.read ≤ 4611686018427387903 from ⟨hq, hq0, hfl, hrm, hrd⟩)
  have HI0 := veil (show PutI w r gt gb S (Pc.holdK S.f lo (p + 0) p s.b) w n0 gt gb a0 cc0 o0 a0' cc0' o0' by
    have e : Pc.holdK S.f lo (p + 0) p s.b = S.f := Pc.hold_start _ _ _ (by omega)
    rw [e]
    exact ⟨h, .inl rfl, .inl rfl, KeepP.refl _ _⟩)
  rw [← hq0] at hf1 hf2
  have F1 := veil hf1
  have F2 := veil hf2
  obtain ⟨mx, hmx0⟩ : ∃ mx, mx = max S.come q := ⟨_, rfl⟩
  have hmx : ∀ ty W, (Builtin.max_ #[31, 31] ty #[.int .u64 (S.come : Int), .int .u64 (q : Int)]).run Tryd.prog W = .ok (.int .u64 (mx : Int)) W := fun ty W => by rw [hmx0]; exact run_maxU _ _ _ _ _ _
  have HEQ := veil (show ∀ n a c a' c', rfC (Pc.putS S p s.b last) n a c a' c' = #[.int .i64 (S.room : Int), .int .u64 (S.read : Int), .int .u64 (mx : Int), .int .u64 ((if last then q else lastN S : Nat) : Int), .bool (S.known || last), .slice a n c, .slice a' n c'] from fun n a c a' c' => by
    unfold rfC
    rw [putLast (last := last) (by rw [hs.hb]; exact hq0) hf1 hf2, hmx0, hq0, ← hs.hb]
    rfl)
  have HFE := veil (show (Pc.putS S p s.b last).f = Pc.holdK S.f lo (p + s.len) p s.b by unfold Pc.putS; rw [hs.hb, hlo])
  have hlst : S.known = true → lastN S = S.come := fun e => by unfold lastN; rw [if_pos e]
  generalize lastN S = lst at c3 hlst
  clear hmx0 hq hf1 hf2 hfl hE hrm hrd hcm hq0 hr0 h hs hsep hf hlo c5 c6
  have G1 : S.known = true → decide ((q : Int) > (lst : Int)) = false ∧ decide (lst < q) = false := fun hk => by
    have e := hlst hk
    have e1 : ¬ S.come < q := fun e => F1.out ⟨hk, e⟩
    exact ⟨by simp; omega, by simp; omega⟩
  have G2 : S.known = true → last = true → ((q : Int) != (lst : Int)) = false ∧ (q != lst) = false := fun hk hl => by
    have e := hlst hk
    have e1 : ¬ S.come < q := fun e => F1.out ⟨hk, e⟩
    have e2 : ¬ q < S.come := fun e => F2.out ⟨hl, e⟩
    exact ⟨by simp; omega, by simp; omega⟩
  have G3 : last = true → decide ((q : Int) < (S.come : Int)) = false ∧ decide (q < S.come) = false := fun hl => by
    have e2 : ¬ q < S.come := fun e => F2.out ⟨hl, e⟩
    exact ⟨by simp; omega, by simp; omega⟩
  clear hlst
  cases hkn : S.known <;> cases last
  all_goals
    rw [hkn] at c4
    first | (have g1 := (G1 hkn).1; have g1n := (G1 hkn).2) | skip
    first | (have g2 := (G2 hkn rfl).1; have g2n := (G2 hkn rfl).2) | skip
    first | (have g3 := (G3 rfl).1; have g3n := (G3 rfl).2) | skip
    clear G1 G2 G3
    go_enter Tryd.func9, Tryd.ntmps9
    go_wp2_with fail
    go_quiet (fail)
    go_wp2_with fail
    have HI1 := veil (HI0.out.drew nq)
    clear HI0 c0 c1 c2 c3 c4
    generalize w.drewN nq = wq at *
    go_loopw [11] (fun iv wr => ∃ i : Nat, i ≤ s.len ∧ iv = .int .i64 (i : Int) ∧ ∃ n gt' gb' a c o a' c' o', PutI w r gt gb S (Pc.holdK S.f lo (p + i) p s.b) wr n gt' gb' a c o a' c' o')
      (fun iv _ => s.len - (intOf iv).toNat)
    case atStart => exact ⟨0, Nat.zero_le _, rfl, _, _, _, _, _, _, _, _, _, HI1.out⟩
    case round =>
      obtain ⟨i, hi, rfl, n1, gt1, gb1, a1, ca1, o1, a1', ca1', o1', hI⟩ := hrel
      by_cases hlt : i < s.len
      · obtain ⟨x, hx⟩ : ∃ x, x = p + i := ⟨_, rfl⟩
        have hnn := HN.out
        have hwi : IntKind.u64.wrap (i : Int) = (i : Int) := by rw [IntKind.wrap_u64]; omega
        have hwx : IntKind.u64.wrap ((p : Int) + (i : Int)) = (x : Int) := by rw [IntKind.wrap_u64]; omega
        have hwj : IntKind.i64.wrap ((i : Int) + 1) = ((i + 1 : Nat) : Int) := by rw [IntKind.wrap_i64]; omega
        have c1 : wr.cell? ⟨r, 1, .none⟩ = some (.int .u64 (S.read : Int)) := hI.at_.cells.2.1
        by_cases hxr : x < S.read
        · have d1 : (x : Int) < (S.read : Int) := by omega
          have HI := veil (show PutI w r gt gb S (Pc.holdK S.f lo (p + (i + 1)) p s.b) wr n1 gt1 gb1 a1 ca1 o1 a1' ca1' o1' by
            have e1 : Pc.holdK S.f lo (p + i) p s.b = S.f := Pc.hold_start _ _ _ (by have := HLO.out; omega)
            have e2 : Pc.holdK S.f lo (p + (i + 1)) p s.b = S.f := Pc.hold_start _ _ _ (by have := HLO.out; omega)
            rw [e2, ← e1]
            exact hI)
          clear hI hnn
          go_wp2_with fail
          go_roundw
          case rel => exact ⟨i + 1, hlt, by go_num, _, _, _, _, _, _, _, _, _, HI.out⟩
          case measure => simp [intOf]; omega
        · have d1 : ¬ ((x : Int) < (S.read : Int)) := by omega
          obtain ⟨kk, hkk⟩ : ∃ kk, kk = x - S.read := ⟨_, rfl⟩
          have hwk : IntKind.u64.wrap ((x : Int) - (S.read : Int)) = (kk : Int) := by rw [IntKind.wrap_u64]; omega
          have hwk2 : IntKind.i64.wrap (kk : Int) = (kk : Int) := by rw [IntKind.wrap_i64]; omega
          have HKK := veil (show x = S.read + kk ∧ kk < S.room ∧ lo ≤ x by have := HLO.out; omega)
          have HX := veil hx
          have HI := veil hI
          clear hI hnn hx hkk hxr
          go_wp2_with fail
          go_loopw [] (fun wv => ∃ n gt' gb' a c o a' c' o', PutI w r gt gb S (Pc.holdK S.f lo (p + i) p s.b) wv n gt' gb' a c o a' c' o')
            (fun wv => kk + 1 - lenAt r wv)
          case atStart => exact ⟨_, _, _, _, _, _, _, _, _, HI.out⟩
          case round =>
            obtain ⟨n2, gt2, gb2, a2, ca2, o2, a2', ca2', o2', hJ⟩ := hrel
            have c5 := hJ.at_.cells.2.2.2.2.2.1
            by_cases hm : n2 ≤ kk
            · have dm : (n2 : Int) ≤ (kk : Int) := by omega
              obtain ⟨a3, c3, W2, hap, x5, f5, W3, hW3, x6, a4, c4, W5, hap', x6', f6, gt3, gb3, o3, o4, hat, wt3, wb3, hk3⟩ := grow_step hJ.at_ (by show n2 < S.room; have := HKK.out; omega) (by show S.room ≤ 1048576; have := HN.out; omega)
              have HJ2 := veil (hJ.go hat wt3 wb3 hk3)
              have HM2 := veil (show lenAt r (W5.setCell ⟨r, 6, .none⟩ (.slice a4 (n2 + 1) c4)) = n2 + 1 ∧ lenAt r wr = n2 from ⟨lenAt_of hat, lenAt_of hJ.at_⟩)
              clear hat wt3 wb3 hk3 hJ HI c1
              subst hW3
              have hsz3 : (W2.setCell ⟨r, 5, .none⟩ (.slice a3 (n2 + 1) c3)).heap.size = W2.heap.size := by simp [World.setCell]
              rw [hsz3] at hap'
              clear hsz3
              have HAP := veil hap
              have HAP' := veil hap'
              clear hap hap'
              go_wp2_with (first
                | (with_reducible (show wpList _ _ _ (⟨some 113, Op.call _, _, _, _, _⟩ :: _) _ _)
                   refine appendW rfl _ _ 64 rfl _ _ rfl rfl _ _ HAP.out ?_)
                | (with_reducible (show wpList _ _ _ (⟨some 122, Op.call _, _, _, _, _⟩ :: _) _ _)
                   refine appendW rfl _ _ 49 rfl _ _ rfl rfl _ _ HAP'.out ?_))
              go_roundw
              case rel => exact ⟨_, _, _, _, _, _, _, _, _, HJ2.out⟩
              case measure => rw [HM2.out.1, HM2.out.2]; omega
            · have dm : ¬ ((n2 : Int) ≤ (kk : Int)) := by omega
              have hkn2 : kk < n2 := by omega
              have hca : 0 < ca2 := by have := hJ.at_.there.le; omega
              have hca' : 0 < ca2' := by have := hJ.at_.bytes.le; omega
              have ea := hJ.at_.there.addr hca
              have ea' := hJ.at_.bytes.addr hca'
              subst ea ea'
              have cl := hJ.at_.there.cell kk _ (tlR_at _ _ hkn2)
              have hfx : (S.withF (Pc.holdK S.f lo (p + i) p s.b)).f ((S.withF (Pc.holdK S.f lo (p + i) p s.b)).read + kk) = S.f x := by
                show Pc.holdK S.f lo (p + i) p s.b (S.read + kk) = S.f x
                rw [← HKK.out.1, ← HX.out]
                exact Pc.hold_at
              rw [hfx] at cl
              cases hsf : S.f x with
              | some y =>
                rw [hsf] at cl
                simp only [Option.isSome_some] at cl
                have HJ2 := veil (show PutI w r gt gb S (Pc.holdK S.f lo (p + (i + 1)) p s.b) wr n2 gt2 gb2 _ ca2 o2 _ ca2' o2' by
                  rw [← Nat.add_assoc, Pc.hold_here (by rw [← HX.out, hsf]; simp)]
                  exact hJ)
                clear hJ HI c1 hfx hsf
                go_wp2_with fail
                go_roundw
                case rel => exact ⟨i + 1, hlt, by go_num, _, _, _, _, _, _, _, _, _, HJ2.out⟩
                case measure => simp [intOf]; omega
              | none =>
                rw [hsf] at cl
                simp only [Option.isSome_none] at cl
                have hla := lay_step hJ.at_ hkn2 (s.byte i) (f' := Pc.holdK S.f lo (p + (i + 1)) p s.b) (by
                  show Pc.holdK S.f lo (p + (i + 1)) p s.b (S.read + kk) = _
                  rw [← HKK.out.1, HX.out, ← Nat.add_assoc, Pc.hold_next (by rw [← HX.out]; exact hsf) (by rw [← HX.out]; exact HKK.out.2.2), Nat.add_sub_cancel_left]
                  rfl) (fun z hz => by
                  show Pc.holdK S.f lo (p + (i + 1)) p s.b z = Pc.holdK S.f lo (p + i) p s.b z
                  have hz' : z ≠ S.read + kk := hz
                  rw [← Nat.add_assoc]
                  exact Pc.hold_other (by rw [← HX.out, HKK.out.1]; exact hz'))
                have HJ2 := veil (show PutI w r gt gb S (Pc.holdK S.f lo (p + (i + 1)) p s.b) _ n2 gt2 gb2 _ ca2 o2 _ ca2' o2' from hJ.go hla.1 (.inl rfl) (.inl rfl) hla.2)
                have hsg : s.g < w.heap.size ∧ ¬ Thr r gt gb s.g := ⟨HS.out.lt (by omega), HSEP.out (by omega)⟩
                have hsr : wr.heap[s.g]? = w.heap[s.g]? := hJ.keep.block _ hsg.1 hsg.2
                have hsne : s.g ≠ gt2 := fun e => hsg.2 (hJ.sub _ hsg.1 (.inr (.inl e)))
                have fz : wr.frozen? ⟨gt2, o2 + kk, .none⟩ = false := (hJ.at_.there.there kk (by have := hJ.at_.there.le; omega)).2
                have k1 : KeepP (fun j => j = gt2) wr (wr.setCell ⟨gt2, o2 + kk, .none⟩ (.bool true)) := KeepP.setCell (st := fun j => j = gt2) rfl _ _ _
                have R1 := k1.row hJ.at_.row (Ne.symm (hJ.at_.t1 hca))
                have z6 : (wr.setCell ⟨gt2, o2 + kk, .none⟩ (.bool true)).cell? ⟨r, 6, .none⟩ = some (.slice (some ⟨gb2, o2', .none⟩) n2 ca2') := R1.cell 6
                have mb := hJ.at_.bytes.same (fun _ => k1.block gb2 (hJ.at_.bytes.lt hca') (Ne.symm (hJ.at_.tb hca hca'))) k1.size
                have zb := mb.cell kk _ (blR_at _ _ hkn2)
                have fb : (wr.setCell ⟨gt2, o2 + kk, .none⟩ (.bool true)).frozen? ⟨gb2, o2' + kk, .none⟩ = false := (mb.there kk (by have := mb.le; omega)).2
                have zs : (wr.setCell ⟨gt2, o2 + kk, .none⟩ (.bool true)).cell? ⟨s.g, s.off + i, .none⟩ = some (.int .u8 (v8 (s.byte i))) := by
                  rw [World.cell?_of_block (a := ⟨s.g, s.off + i, .none⟩) ((k1.block s.g (by have := hJ.keep.size; omega) hsne).trans hsr)]
                  exact HS.out.cell i hlt
                have esa : s.a = some ⟨s.g, s.off, .none⟩ := HS.out.at_ (by omega)
                generalize ob ((S.withF (Pc.holdK S.f lo (p + i) p s.b)).f ((S.withF (Pc.holdK S.f lo (p + i) p s.b)).read + kk)) = bz at zb
                generalize v8 (s.byte i) = vy at *
                have hix : ∀ W, (Instr.indexAt 49 (.slice s.a s.len s.cap) (.int .i64 (i : Int))).run Tryd.prog W = .ok (.pointer (some ⟨s.g, s.off + i, .none⟩)) W := fun W => by
                  have hsz : ∀ W, (sizeOf 5).run Tryd.prog W = .ok 1 W := fun W => by kernel_rfl
                  rw [esa]
                  simp [Instr.indexAt, asIntOf, run_underlying Tryd.underlying49, hlt, hsz, Addr.add_mid]
                clear hla hJ HI c1 hfx hsf hsg hsr hsne k1 R1 mb esa
                go_wp2_with fail
                go_region
                all_goals
                  go_wp2_with fail
                  go_roundw
                  case rel => exact ⟨i + 1, hlt, by go_num, _, _, _, _, _, _, _, _, _, HJ2.out.drew 1⟩
                  case measure => simp [intOf]; omega
      · obtain rfl : s.len = i := by omega
        have R0 := hI.at_.row
        have R2 := R0.set 2 (.int .u64 (mx : Int))
        have x2 := R0.cell 2
        have f2 := R0.frozen 2
        have x4 := R2.cell 4
        have f4 := R2.frozen 4
        have R4 := R2.set 4 (.bool true)
        have x3 := R4.cell 3
        have f3 := R4.frozen 3
        have R3 := R4.set 3 (.int .u64 (q : Int))
        simp only [rfC, PS.withF, List.setIfInBounds_toArray, List.set_cons_succ, List.set_cons_zero, List.getElem?_toArray, List.getElem?_cons_succ, List.getElem?_cons_zero] at x2 x4 x3 R2 R3
        have HR2 := veil R2
        have HR3 := veil R3
        have HI := veil hI
        clear R0 R2 R4 R3 hI
        go_wp2_with fail
        go_ret
        first
          | exact ⟨rfl, put_done HI.out HFE.out HFI.out (by rw [HEQ.out, Bool.or_false]; exact HR2.out) (KeepP.setCell (st := fun k => k = r) rfl _ _ _)⟩
          | exact ⟨rfl, put_done HI.out HFE.out HFI.out (by rw [HEQ.out, Bool.or_true]; exact HR3.out) (((KeepP.setCell (st := fun k => k = r) rfl _ _ _).trans (KeepP.setCell (st := fun k => k = r) rfl _ _ _)).trans (KeepP.setCell (st := fun k => k = r) rfl _ _ _))⟩

/-- What the document's Put answers, and what becomes of its pieces. -/
theorem rput_any (S : PS) (r gt gb p : Nat) (s : SL) (last : Bool) (w : World) (h : RfOk w r gt gb S) (hs : s.Ok w) (hsep : 0 < s.len → ¬ Thr r gt gb s.g) (hl : s.len ≤ 4611686018427387903) :
    Calls Tryd.prog 9 #[.pointer (some ⟨r, 0, .none⟩), .int .u64 (p : Int), .slice s.a s.len s.cap, .bool last] w fun e w' => e = .returned (.int .i64 (Pc.putE S p s.len last : Int)) ∧ (∃ gt' gb', RfOk w' r gt' gb' (Pc.put S p s.b last) ∧ Went w gt gt' ∧ Went w gb gb') ∧ KeepP (Thr r gt gb) w w' := by
  have hb := hs.hb
  by_cases hE : Pc.putE S p s.len last = 0
  · have e : Pc.put S p s.b last = Pc.putS S p s.b last := by unfold Pc.put; rw [hb, if_pos hE]
    rw [e, hE]
    exact rput_ok S r gt gb p s last w h hs hsep hE
  · have e : Pc.put S p s.b last = S := by unfold Pc.put; rw [hb, if_neg hE]
    rw [e]
    have same : ∀ (e' : Int), e' = (Pc.putE S p s.len last : Int) → (Calls Tryd.prog 9 #[.pointer (some ⟨r, 0, .none⟩), .int .u64 (p : Int), .slice s.a s.len s.cap, .bool last] w fun e w' => e = .returned (.int .i64 e') ∧ Below w.heap.size w w') →
        Calls Tryd.prog 9 #[.pointer (some ⟨r, 0, .none⟩), .int .u64 (p : Int), .slice s.a s.len s.cap, .bool last] w fun e w' => e = .returned (.int .i64 (Pc.putE S p s.len last : Int)) ∧ (∃ gt' gb', RfOk w' r gt' gb' S ∧ Went w gt gt' ∧ Went w gb gb') ∧ KeepP (Thr r gt gb) w w' := fun e' he hc => by
      refine hc.mono ?_
      rintro e w' ⟨rfl, hb'⟩
      exact ⟨by rw [he], ⟨gt, gb, h.below hb', .inl rfl, .inl rfl⟩, KeepP.of_below hb'⟩
    have nob : ∀ (e' : Int) {w' : World} {e : Ending}, e = .returned (.int .i64 e') ∧ w' = w → e = .returned (.int .i64 e') ∧ Below w.heap.size w w' := by
      rintro e' w' e ⟨rfl, rfl⟩
      exact ⟨rfl, Below.refl _ _⟩
    have hfine := h.fine
    obtain ⟨_, n, a, c, o, a', c', o', hat⟩ := h
    obtain ⟨c0, c1, c2, c3, c4, c5, c6⟩ := hat.cells
    have hlst : S.known = true → lastN S = S.come := fun e => by unfold lastN; rw [if_pos e]
    unfold Pc.putE at hE same ⊢
    by_cases a1 : 4611686018427387903 < p
    · rw [if_pos (.inl a1)] at same ⊢
      exact same 1 rfl ((rput_arg1 r p s.a s.len s.cap last w a1 hl).mono (fun _ _ => nob 1))
    · by_cases a2 : 4611686018427387903 < p + s.len
      · rw [if_pos (.inr a2)] at same ⊢
        exact same 1 rfl ((rput_arg2 r p s.a s.len s.cap last w (by omega) hl a2).mono (fun _ _ => nob 1))
      · rw [if_neg (by omega)] at same hE ⊢
        by_cases a3 : S.known = true ∧ S.come < p + s.len ∨ last = true ∧ p + s.len < S.come
        · rw [if_pos a3] at same ⊢
          exact same 8 rfl ((rput_final r p s.a s.len s.cap last w S.come (lastN S) S.known c2 c3 c4 hlst (by omega) a3).mono (fun _ _ => nob 8))
        · rw [if_neg a3] at same hE ⊢
          by_cases a4 : S.read + S.room < p + s.len
          · rw [if_pos a4] at same ⊢
            exact same 6 rfl (rput_full r p s.a s.len s.cap last w S.room S.read S.come (lastN S) S.known c0 c1 c2 c3 c4 hlst (by omega) (fun c => a3 (.inl c)) (fun c => a3 (.inr c)) (by have := hfine.room; have := hfine.rc; have := hfine.come; omega) a4)
          · rw [if_neg a4] at hE
            exact absurd rfl hE
end Go.Proofs.YtekgdljbninjiaaDoor
