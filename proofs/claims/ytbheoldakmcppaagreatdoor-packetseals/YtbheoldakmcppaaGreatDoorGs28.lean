/-
  Out of AeLockOf, AeSeal, AeOpen.
-/
import Derived.Test.YtbheoldakmcppaaGreatDoorGs10
import Derived.Test.YtbheoldakmcppaaGreatDoorGsAeTag
import Derived.Test.YtbheoldakmcppaaGreatDoorGs5

/-! What aead.lockOf and lock.taken answer. -/
namespace Go.Proofs.YtbheoldakmcppaaGreatDoor
open Go Go.RowKit

theorem load_part6 {P : Program} {ops : Array Oper} {rest : List Oper} {o : Oper} {a : Act} {w : World} {Q : Exit → Act → World → Prop} (hgd : o.guard = none) (ty : TypeId) (x : Operand) (ho : o.op = .load ty x) (g off : Nat) (hx : a.eval x = .pointer (some ⟨g, off, none⟩)) (cs : Array Value) (d : TypeDesc) (hu : P.underlying ty = some d) (hd : d.isRow = true) (n : Nat) (hi : (P.info? ty).map (·.size) = some n) (hn : cs.size = n) (hc : w.rangeAt g off cs.toList)
    (h : wpList P ops Q rest (a.put o.dst (.agg cs)) w) : wpList P ops Q (o :: rest) a w :=
  wpList_plain hgd fun _ hK => by unfold Oper.wp; rw [run_mid ty x g off cs d ho hx hu hd (by rw [hn]; exact hi) w hc, Oper.upon_value]; exact hK _ _ h
/-- A whole structure is handed back, with a second result. -/
theorem result_part_tmp {P : Program} {fn : Func} {p q : Tmp} {ty : TypeId} (h : fn.results = #[.cell p ty, .tmp q]) (tmps : Array Value) (w : World) (g : Nat) (t : TypeId) (cs : Array Value) (hg : Row w g t cs) (n : Nat) (fs : Array Field) (v : Value)
    (hp : tmps.getD p undef = .pointer (some ⟨g, 0, none⟩)) (hq : tmps.getD q undef = v) (hu : P.underlying ty = some (.struct fs)) (hi : (P.info? ty).map (·.size) = some n) (hc : cs.size = n) :
    (results fn tmps).run P w = .ok (.tuple #[.agg cs, v]) w := by
  rw [results_cell_tmp h, hp, hq]
  simp [asAddr, Result.andThen, run_loadVar_row w g t ty cs (0, 0) _ hg hu rfl (by rw [hc]; exact hi)]

set_option maxRecDepth 20000 in
set_option maxHeartbeats 1000000 in
theorem taken_any (key nonce : List By) (hk : key.length = 32) (hn : nonce.length = 12) (b : SL) (w : World) (hg : Glob w) (hb : b.Ok w) (hl : b.len ≤ 1048576) :
    Calls Tryz.prog 76 #[.agg (bs (key ++ nonce)), .slice b.a b.len b.cap] w fun e w' => ∃ g, e = .returned (.slice (some ⟨g, 0, none⟩) b.len b.len) ∧ w'.ownsRow w.heap.size 5 1 (.slice (some ⟨g, 0, none⟩) b.len b.len) b.len (vb (xorL key 1 nonce b.b)) ∧ Below w.heap.size w w' := by
  have r0 : Row (w.alloc (.cells (bs (key ++ nonce)) 80)) w.heap.size 80 (bs (key ++ nonce)) := Row.new _ _ _
  have b0 : Below w.heap.size w (w.alloc (.cells (bs (key ++ nonce)) 80)) := (Below.refl _ w).alloc (Nat.le_refl _) _
  have hkz : (bs key).size = 32 := by rw [bs_size, hk]
  have hnz : (bs nonce).size = 12 := by rw [bs_size, hn]
  have p0 := lock_key r0
  have p1 := lock_nonce r0 hk
  have HK := veil hk
  have HN := veil hn
  have HB := veil hb
  have HG := veil hg
  clear hk hn hb hg
  go_enter Tryz.func76, Tryz.ntmps76
  go_wp2_with (first
    | (with_reducible (show wpList _ _ _ (⟨_, Op.load 78 _, _, _, _, _⟩ :: _) _ _)
       refine load_part6 rfl 78 _ rfl w.heap.size 0 rfl (bs key) _ Tryz.underlying78 rfl 32 (by kernel_rfl) hkz p0 ?_)
    | (with_reducible (show wpList _ _ _ (⟨_, Op.load 76 _, _, _, _, _⟩ :: _) _ _)
       refine load_part6 rfl 76 _ rfl w.heap.size 32 rfl (bs nonce) _ Tryz.underlying76 rfl 12 (by kernel_rfl) hnz p1 ?_))
  refine (xor_ok key 1 nonce HK.out HN.out b _ (HG.out.below b0 (Nat.le_refl _)) (HB.out.below b0) hl (by rw [u_one]; omega)).mono ?_
  rintro e1 w1 ⟨g, rfl, hown, hb1⟩
  have hown' := own_low hown b0.size
  have hb' := b0.trans (hb1.mono b0.size)
  go_wp2_with fail
  go_ret
  exact ⟨g, rfl, hown', hb'⟩

set_option maxRecDepth 20000 in
set_option maxHeartbeats 2000000 in
theorem lockOf_any (key nonce : SL) (w : World) (hk : key.Ok w) (hn : nonce.Ok w) :
    Calls Tryz.prog 75 #[.slice key.a key.len key.cap, .slice nonce.a nonce.len nonce.cap] w fun e w' => Below w.heap.size w w' ∧
      ((key.len = 32 ∧ nonce.len = 12 ∧ e = .returned (.tuple #[.agg (bs (key.b ++ nonce.b)), .int .i64 0])) ∨ (¬ (key.len = 32 ∧ nonce.len = 12) ∧ e = .returned (.tuple #[.agg (bs z44), .int .i64 1]))) := by
  have H1 : ∃ (ks : List By) (kf : Bool), (kf = true ↔ key.len = 32) ∧ (key.len = 32 → ks = key.b) ∧ ks.length = 32 ∧ ∀ W, Below w.heap.size w W → Calls Tryz.prog 117 #[.slice key.a key.len key.cap] W fun e w' => e = .returned (.tuple #[.agg (bs ks), .bool kf]) ∧ Below W.heap.size W w' := by
    by_cases h : key.len = 32
    · exact ⟨key.b, true, by simp [h], fun _ => rfl, by rw [hk.hb, h], fun W hW => array32_yes key W (hk.below hW) h⟩
    · exact ⟨z32b, false, by simp [h], fun e => absurd e h, rfl, fun W hW => array32_no key W h⟩
  have H2 : ∃ (ns : List By) (nf : Bool), (nf = true ↔ nonce.len = 12) ∧ (nonce.len = 12 → ns = nonce.b) ∧ ns.length = 12 ∧ ∀ W, Below w.heap.size w W → Calls Tryz.prog 118 #[.slice nonce.a nonce.len nonce.cap] W fun e w' => e = .returned (.tuple #[.agg (bs ns), .bool nf]) ∧ Below W.heap.size W w' := by
    by_cases h : nonce.len = 12
    · exact ⟨nonce.b, true, by simp [h], fun _ => rfl, by rw [hn.hb, h], fun W hW => array12_yes nonce W (hn.below hW) h⟩
    · exact ⟨z12, false, by simp [h], fun e => absurd e h, rfl, fun W hW => array12_no nonce W h⟩
  obtain ⟨ks, kf, k1, k2, k3, k4⟩ := H1
  obtain ⟨ns, nf, n1, n2, n3, n4⟩ := H2
  have K1 := (show Hid (kf = true ↔ key.len = 32) from k1)
  have N1 := (show Hid (nf = true ↔ nonce.len = 12) from n1)
  have K2 := (show Hid (key.len = 32 → ks = key.b) from k2)
  have N2 := (show Hid (nonce.len = 12 → ns = nonce.b) from n2)
  have K4 := veil k4
  have N4 := veil n4
  have hkz : (bs ks).size = 32 := by rw [bs_size, k3]
  have hnz : (bs ns).size = 12 := by rw [bs_size, n3]
  have HBU := veil (lock_built ks ns k3 n3)
  have hz44 : (bs z44).size = 44 := by rw [bs_size]; rfl
  have hk44 : (bs (ks ++ ns)).size = 44 := by rw [bs_size, List.length_append, k3, n3]
  clear k1 k2 k3 k4 n1 n2 n3 n4 hk hn
  have b0 : Below w.heap.size w (w.alloc (.cells (bs z44) 80)) := (Below.refl _ w).alloc (Nat.le_refl _) _
  have r0 : Row (w.alloc (.cells (bs z44) 80)) w.heap.size 80 (bs z44) := Row.new _ _ _
  go_enter Tryz.func75, Tryz.ntmps75
  go_wp2_with (first
    | (with_reducible (show wpList _ _ _ (⟨_, Op.alloc 80, _, _, _, _⟩ :: _) _ _)
       refine alloc_row rfl 80 rfl (bs z44) (by kernel_rfl) ?_))
  refine (K4.out _ b0).mono ?_
  rintro e1 w1 ⟨rfl, hb1⟩
  have b1 := b0.trans (hb1.mono b0.size)
  have r1 := r0.below hb1 r0.lt
  clear hb1 r0 b0
  have b2 := b1.alloc b1.size (.cells (bs ks) 78)
  have r2 := r1.alloc (.cells (bs ks) 78)
  have q2 : Row (w1.alloc (.cells (bs ks) 78)) w1.heap.size 78 (bs ks) := Row.new _ _ _
  go_wp2_with (first
    | (with_reducible (show wpList _ _ _ (⟨_, Op.alloc 78, _, _, _, _⟩ :: _) _ _)
       refine alloc_row rfl 78 rfl (bs z32b) (by kernel_rfl) ?_)
    | (with_reducible (show wpList _ _ _ (⟨_, Op.store 78 _ _, _, _, _, _⟩ :: _) _ _)
       refine store_new (w := w1) (by rfl) 78 _ _ (by rfl) w1.heap.size (bs ks) (by rfl) (by rfl) 78 (bs z32b) (by rfl) 32 (by kernel_rfl) (by rfl) hkz (bs_one _) ?_))
  refine (N4.out _ b2).mono ?_
  rintro e3 w3 ⟨rfl, hb3⟩
  have b3 := b2.trans (hb3.mono b2.size)
  have r3 := r2.below hb3 r2.lt
  have q3 := q2.below hb3 q2.lt
  have hs1 := b1.size
  have hs3 := hb3.size
  clear hb3 r2 b2 q2 r1 b1
  have b4 := b3.alloc b3.size (.cells (bs ns) 76)
  have r4 := r3.alloc (.cells (bs ns) 76)
  have q4 := q3.alloc (.cells (bs ns) 76)
  have n4 : Row (w3.alloc (.cells (bs ns) 76)) w3.heap.size 76 (bs ns) := Row.new _ _ _
  clear r3 q3
  cases kf with
  | false =>
    have h1 : ¬ (key.len = 32 ∧ nonce.len = 12) := fun h => by have := K1.out.2 h.1; cases this
    go_wp2_with (first
      | (with_reducible (show wpList _ _ _ (⟨_, Op.alloc 76, _, _, _, _⟩ :: _) _ _)
         refine alloc_row rfl 76 rfl (bs z12) (by kernel_rfl) ?_)
      | (with_reducible (show wpList _ _ _ (⟨_, Op.store 76 _ _, _, _, _, _⟩ :: _) _ _)
         refine store_new (w := w3) (by rfl) 76 _ _ (by rfl) w3.heap.size (bs ns) (by rfl) (by rfl) 76 (bs z12) (by rfl) 12 (by kernel_rfl) (by rfl) hnz (bs_one _) ?_)
      | (with_reducible (show wpList _ _ _ (⟨_, Op.build 80 _, _, _, _, _⟩ :: _) _ _)
         refine build_row rfl 80 _ rfl (bs z44) (by kernel_rfl) ?_)
      | (with_reducible (show wpList _ _ _ (⟨_, Op.store 80 _ _, _, _, _, _⟩ :: _) _ _)
         refine store_row rfl 80 _ _ rfl w.heap.size (bs z44) rfl rfl _ _ r4 44 (by kernel_rfl) hz44 hz44 (bs_one _) ?_))
    exact bodyPost_ret (result_part_tmp rfl _ _ w.heap.size _ _ (r4.put _) 44 _ (.int .i64 1) rfl rfl Tryz.underlying80 (by kernel_rfl) hz44) rfl ⟨bSetRow b4 (Nat.le_refl _) _, .inr ⟨h1, rfl⟩⟩
  | true =>
    have h1 := K1.out.1 rfl
    cases nf with
    | false =>
      have h2 : ¬ (key.len = 32 ∧ nonce.len = 12) := fun h => by have := N1.out.2 h.2; cases this
      go_wp2_with (first
        | (with_reducible (show wpList _ _ _ (⟨_, Op.alloc 76, _, _, _, _⟩ :: _) _ _)
           refine alloc_row rfl 76 rfl (bs z12) (by kernel_rfl) ?_)
        | (with_reducible (show wpList _ _ _ (⟨_, Op.store 76 _ _, _, _, _, _⟩ :: _) _ _)
           refine store_new (w := w3) (by rfl) 76 _ _ (by rfl) w3.heap.size (bs ns) (by rfl) (by rfl) 76 (bs z12) (by rfl) 12 (by kernel_rfl) (by rfl) hnz (bs_one _) ?_)
        | (with_reducible (show wpList _ _ _ (⟨_, Op.build 80 _, _, _, _, _⟩ :: _) _ _)
           refine build_row rfl 80 _ rfl (bs z44) (by kernel_rfl) ?_)
        | (with_reducible (show wpList _ _ _ (⟨_, Op.store 80 _ _, _, _, _, _⟩ :: _) _ _)
           refine store_row rfl 80 _ _ rfl w.heap.size (bs z44) rfl rfl _ _ r4 44 (by kernel_rfl) hz44 hz44 (bs_one _) ?_))
      exact bodyPost_ret (result_part_tmp rfl _ _ w.heap.size _ _ (r4.put _) 44 _ (.int .i64 1) rfl rfl Tryz.underlying80 (by kernel_rfl) hz44) rfl ⟨bSetRow b4 (Nat.le_refl _) _, .inr ⟨h2, rfl⟩⟩
    | true =>
      have h2 := N1.out.1 rfl
      have ek := K2.out h1
      have en := N2.out h2
      subst ek en
      go_wp2_with (first
        | (with_reducible (show wpList _ _ _ (⟨_, Op.alloc 76, _, _, _, _⟩ :: _) _ _)
           refine alloc_row rfl 76 rfl (bs z12) (by kernel_rfl) ?_)
        | (with_reducible (show wpList _ _ _ (⟨_, Op.store 76 _ _, _, _, _, _⟩ :: _) _ _)
           refine store_new (w := w3) (by rfl) 76 _ _ (by rfl) w3.heap.size (bs nonce.b) (by rfl) (by rfl) 76 (bs z12) (by rfl) 12 (by kernel_rfl) (by rfl) hnz (bs_one _) ?_)
        | (with_reducible (show wpList _ _ _ (⟨_, Op.load 78 _, _, _, _, _⟩ :: _) _ _)
           refine load_row rfl 78 _ rfl w1.heap.size rfl _ _ q4 32 5 Tryz.underlying78 (by kernel_rfl) hkz ?_)
        | (with_reducible (show wpList _ _ _ (⟨_, Op.load 76 _, _, _, _, _⟩ :: _) _ _)
           refine load_row rfl 76 _ rfl w3.heap.size rfl _ _ n4 12 5 Tryz.underlying76 (by kernel_rfl) hnz ?_)
        | (with_reducible (show wpList _ _ _ (⟨_, Op.build 80 _, _, _, _, _⟩ :: _) _ _)
           refine build_row rfl 80 _ rfl (bs (key.b ++ nonce.b)) ?hbb ?_
           case hbb => exact Eq.trans (congrArg (Tryz.prog.built 80) (show _ = [(0, Value.agg (bs key.b)), (1, Value.agg (bs nonce.b))] from by kernel_rfl)) HBU.out)
        | (with_reducible (show wpList _ _ _ (⟨_, Op.store 80 _ _, _, _, _, _⟩ :: _) _ _)
           refine store_row rfl 80 _ _ rfl w.heap.size (bs (key.b ++ nonce.b)) rfl rfl _ _ r4 44 (by kernel_rfl) hz44 hk44 (bs_one _) ?_))
      refine bodyPost_ret (result_part_tmp rfl _ _ w.heap.size _ _ (r4.put _) 44 _ (.int .i64 0) rfl rfl Tryz.underlying80 (by kernel_rfl) hk44) rfl ⟨bSetRow b4 (Nat.le_refl _) _, .inl ⟨h1, h2, rfl⟩⟩
end Go.Proofs.YtbheoldakmcppaaGreatDoor

/-! What aead.Seal answers, at any bytes. -/
namespace Go.Proofs.YtbheoldakmcppaaGreatDoor
open Go Go.RowKit

/-- What Seal answers: its error; its bytes. -/
def sealE (k n p b : List By) : Int := if k.length = 32 ∧ n.length = 12 then (if p.length ≤ 1048576 ∧ b.length ≤ 1048576 then 0 else 3) else 1
def sealO (k n p b : List By) : List By := if sealE k n p b = 0 then sealL k n p b else []
theorem seal_arg {k n p b : List By} (h : ¬ (k.length = 32 ∧ n.length = 12)) : sealE k n p b = 1 ∧ sealO k n p b = [] := by
  have e : sealE k n p b = 1 := by unfold sealE; rw [if_neg h]
  exact ⟨e, by unfold sealO; rw [e]; rfl⟩
theorem seal_limit {k n p b : List By} (h : k.length = 32 ∧ n.length = 12) (h2 : ¬ (p.length ≤ 1048576 ∧ b.length ≤ 1048576)) : sealE k n p b = 3 ∧ sealO k n p b = [] := by
  have e : sealE k n p b = 3 := by unfold sealE; rw [if_pos h, if_neg h2]
  exact ⟨e, by unfold sealO; rw [e]; rfl⟩
theorem seal_fine {k n p b : List By} (h : k.length = 32 ∧ n.length = 12) (h2 : p.length ≤ 1048576 ∧ b.length ≤ 1048576) : sealE k n p b = 0 ∧ sealO k n p b = sealL k n p b := by
  have e : sealE k n p b = 0 := by unfold sealE; rw [if_pos h, if_pos h2]
  exact ⟨e, by unfold sealO; rw [e]; rfl⟩

set_option maxRecDepth 20000 in
set_option maxHeartbeats 4000000 in
theorem seal_any (k n p b : SL) (w : World) (hg : Glob w) (hk : k.Ok w) (hn : n.Ok w) (hp : p.Ok w) (hb : b.Ok w) :
    Calls Tryz.prog 23 #[.slice k.a k.len k.cap, .slice n.a n.len n.cap, .slice p.a p.len p.cap, .slice b.a b.len b.cap] w fun e w' => ∃ a c, e = .returned (.tuple #[.slice a (sealO k.b n.b p.b b.b).length c, .int .i64 (sealE k.b n.b p.b b.b)]) ∧ w'.ownsRow w.heap.size 5 1 (.slice a (sealO k.b n.b p.b b.b).length c) (sealO k.b n.b p.b b.b).length (vb (sealO k.b n.b p.b b.b)) ∧ Below w.heap.size w w' := by
  obtain ⟨i0, hi, hz0, hz1, hz2⟩ := info_parts (P := Tryz.prog) (e := 5) (z := .int .u8 0) (size := 1) (bytes := 1) (by kernel_rfl)
  have HG := veil hg
  have HK := veil hk
  have HN := veil hn
  have HP := veil hp
  have HB := veil hb
  clear hg hk hn hp hb
  go_enter Tryz.func23, Tryz.ntmps23
  go_wp2_with fail
  refine (lockOf_any k n w HK.out HN.out).mono ?_
  rintro e1 w1 ⟨hb1, ⟨h32, h12, rfl⟩ | ⟨hno, rfl⟩⟩
  · have hk32 : k.b.length = 32 := by rw [HK.out.hb, h32]
    have hn12 : n.b.length = 12 := by rw [HN.out.hb, h12]
    have hz44 : (bs (k.b ++ n.b)).size = 44 := by rw [bs_size, List.length_append, hk32, hn12]
    have b2 := hb1.alloc hb1.size (.cells (bs (k.b ++ n.b)) 80)
    have r2 : Row (w1.alloc (.cells (bs (k.b ++ n.b)) 80)) w1.heap.size 80 (bs (k.b ++ n.b)) := Row.new _ _ _
    have hs1 := hb1.size
    clear hb1
    by_cases hbig : p.len ≤ 1048576 ∧ b.len ≤ 1048576
    · obtain ⟨hE, hO⟩ := seal_fine (k := k.b) (n := n.b) (p := p.b) (b := b.b) ⟨hk32, hn12⟩ (by rw [HP.out.hb, HB.out.hb]; exact hbig)
      have d1 : decide ((1048576 : Int) < (p.len : Int)) = false := by simp; omega
      have d2 : decide ((1048576 : Int) < (b.len : Int)) = false := by simp; omega
      obtain ⟨hpl, hbl⟩ := hbig
      have HE := veil hE
      have HO := veil hO
      clear hE hO
      go_wp2_with (first
        | (with_reducible (show wpList _ _ _ (⟨_, Op.alloc 80, _, _, _, _⟩ :: _) _ _)
           refine alloc_row rfl 80 rfl (bs z44) (by kernel_rfl) ?_)
        | (with_reducible (show wpList _ _ _ (⟨_, Op.store 80 _ _, _, _, _, _⟩ :: _) _ _)
           refine store_new (w := w1) (by rfl) 80 _ _ (by rfl) w1.heap.size (bs (k.b ++ n.b)) (by rfl) (by rfl) 80 (bs z44) (by rfl) 44 (by kernel_rfl) (by rfl) hz44 (bs_one _) ?_)
        | (with_reducible (show wpList _ _ _ (⟨_, Op.load 80 _, _, _, _, _⟩ :: _) _ _)
           refine load_part6 rfl 80 _ rfl w1.heap.size 0 rfl (bs (k.b ++ n.b)) _ Tryz.underlying80 rfl 44 (by kernel_rfl) hz44 (lock_whole r2) ?_))
      refine (taken_any k.b n.b hk32 hn12 p _ (HG.out.below b2 (Nat.le_refl _)) (HP.out.below b2) hpl).mono ?_
      rintro e3 w3 ⟨g, rfl, hown, hb3⟩
      have b3 := b2.trans (hb3.mono b2.size)
      have r3 := r2.below hb3 r2.lt
      have hs2 := b2.size
      have hs3 := b3.size
      have HO3 := veil hown
      have HB3 := veil b3
      have HOK := veil (own_ok6 hown)
      clear hown hb3 b2 r2 b3
      have hxl : (xorL k.b 1 n.b p.b).length = p.len := by rw [xorL_length, HP.out.hb]
      obtain ⟨X, hX⟩ : ∃ X, X = xorL k.b 1 n.b p.b := ⟨_, rfl⟩
      rw [← hX] at HO3 HOK hxl
      have HXX := veil hX
      clear hX
      go_wp2_with (first
        | (with_reducible (show wpList _ _ _ (⟨_, Op.load 80 _, _, _, _, _⟩ :: _) _ _)
           refine load_part6 rfl 80 _ rfl w1.heap.size 0 rfl (bs (k.b ++ n.b)) _ Tryz.underlying80 rfl 44 (by kernel_rfl) hz44 (lock_whole r3) ?_))
      refine (lockTag_any k.b n.b hk32 hn12 ⟨some ⟨g, 0, none⟩, p.len, p.len, g, 0, X⟩ b w3 (HG.out.below HB3.out (Nat.le_refl _)) HOK.out (HB.out.below HB3.out) hpl hbl).mono ?_
      rintro e4 w4 ⟨rfl, hb4⟩
      simp only []
      have b4 := HB3.out.trans (hb4.mono hs3)
      have HO4 := veil (own_low (own_below HO3.out hb4) (show w.heap.size ≤ _ from hs2))
      have hml : (markL k.b n.b X b.b).length = 16 := markL_length _ _ _ _
      obtain ⟨M, hM⟩ : ∃ M, M = markL k.b n.b X b.b := ⟨_, rfl⟩
      rw [← hM] at hml ⊢
      have hmz : (bs M).size = 16 := by rw [bs_size, hml]
      have HM := veil hM
      clear hM hb4 HO3 HOK HB3 r3
      have b5 := b4.alloc b4.size (.cells (bs M) 83)
      have r5 : Row (w4.alloc (.cells (bs M) 83)) w4.heap.size 83 (bs M) := Row.new _ _ _
      have hs5 := b5.size
      have HB5 := veil b5
      clear b4 b5
      go_wp2_with (first
        | (with_reducible (show wpList _ _ _ (⟨_, Op.alloc 83, _, _, _, _⟩ :: _) _ _)
           refine alloc_row rfl 83 rfl (bs z16) (by kernel_rfl) ?_)
        | (with_reducible (show wpList _ _ _ (⟨_, Op.store 83 _ _, _, _, _, _⟩ :: _) _ _)
           refine store_new (w := w4) (by rfl) 83 _ _ (by rfl) w4.heap.size (bs M) (by rfl) (by rfl) 83 (bs z16) (by rfl) 16 (by kernel_rfl) (by rfl) hmz (bs_one _) ?_)
        | (with_reducible (show wpList _ _ _ (⟨some 40, Op.call _, _, _, _, _⟩ :: _) _ _)
           refine append_sl rfl _ _ 22 rfl w.heap.size i0 Tryz.underlying22 hi hz0 hz1 hz2 _ p.len X rfl (HO4.out.alloc _) (rowN w4.heap.size 16 M) (rowN_ok r5 hml) rfl (by show p.len + 16 ≤ 8388608; omega) hs5 ?_
           intro v6 w6 hown6 hgrow6))
      obtain ⟨a6, c6, rfl⟩ := own_shape hown6
      have b6 := HB5.out.grown hgrow6 hs5 (fun z e => ((HO4.out.alloc (.cells (bs M) 83)).lt z e).1)
      have e6 : X ++ M = sealL k.b n.b p.b b.b := by rw [HXX.out, HM.out, HXX.out]; rfl
      have HO6 : w6.ownsRow w.heap.size 5 1 (.slice a6 (p.len + 16) c6) (p.len + 16) (vb (sealL k.b n.b p.b b.b)) := by rw [← e6]; exact hown6
      clear hown6 hgrow6
      go_wp2_with fail
      go_ret2
      rw [HE.out, HO.out, sealL_length, HP.out.hb]
      exact ⟨a6, c6, rfl, HO6, b6⟩
    · obtain ⟨hE, hO⟩ := seal_limit (k := k.b) (n := n.b) (p := p.b) (b := b.b) ⟨hk32, hn12⟩ (by rw [HP.out.hb, HB.out.hb]; exact hbig)
      have HE := veil hE
      have HO := veil hO
      clear hE hO
      by_cases h1 : p.len ≤ 1048576
      · have d1 : decide ((1048576 : Int) < (p.len : Int)) = false := by simp; omega
        have d2 : decide ((1048576 : Int) < (b.len : Int)) = true := by simp; omega
        go_wp2_with (first
          | (with_reducible (show wpList _ _ _ (⟨_, Op.alloc 80, _, _, _, _⟩ :: _) _ _)
             refine alloc_row rfl 80 rfl (bs z44) (by kernel_rfl) ?_)
          | (with_reducible (show wpList _ _ _ (⟨_, Op.store 80 _ _, _, _, _, _⟩ :: _) _ _)
             refine store_new (w := w1) (by rfl) 80 _ _ (by rfl) w1.heap.size (bs (k.b ++ n.b)) (by rfl) (by rfl) 80 (bs z44) (by rfl) 44 (by kernel_rfl) (by rfl) hz44 (bs_one _) ?_))
        go_ret2
        rw [HE.out, HO.out]
        exact ⟨none, 0, rfl, World.ownsRow_nil _ _ _ _, b2⟩
      · have d1 : decide ((1048576 : Int) < (p.len : Int)) = true := by simp; omega
        go_wp2_with (first
          | (with_reducible (show wpList _ _ _ (⟨_, Op.alloc 80, _, _, _, _⟩ :: _) _ _)
             refine alloc_row rfl 80 rfl (bs z44) (by kernel_rfl) ?_)
          | (with_reducible (show wpList _ _ _ (⟨_, Op.store 80 _ _, _, _, _, _⟩ :: _) _ _)
             refine store_new (w := w1) (by rfl) 80 _ _ (by rfl) w1.heap.size (bs (k.b ++ n.b)) (by rfl) (by rfl) 80 (bs z44) (by rfl) 44 (by kernel_rfl) (by rfl) hz44 (bs_one _) ?_))
        go_ret2
        rw [HE.out, HO.out]
        exact ⟨none, 0, rfl, World.ownsRow_nil _ _ _ _, b2⟩
  · obtain ⟨hE, hO⟩ := seal_arg (k := k.b) (n := n.b) (p := p.b) (b := b.b) (by rw [HK.out.hb, HN.out.hb]; exact hno)
    have HE := veil hE
    have HO := veil hO
    have b2 := hb1.alloc hb1.size (.cells (bs z44) 80)
    have hz44 : (bs z44).size = 44 := by rw [bs_size]; rfl
    clear hE hO hb1
    go_wp2_with (first
      | (with_reducible (show wpList _ _ _ (⟨_, Op.alloc 80, _, _, _, _⟩ :: _) _ _)
         refine alloc_row rfl 80 rfl (bs z44) (by kernel_rfl) ?_)
      | (with_reducible (show wpList _ _ _ (⟨_, Op.store 80 _ _, _, _, _, _⟩ :: _) _ _)
         refine store_new (w := w1) (by rfl) 80 _ _ (by rfl) w1.heap.size (bs z44) (by rfl) (by rfl) 80 (bs z44) (by rfl) 44 (by kernel_rfl) (by rfl) hz44 (bs_one _) ?_))
    go_ret2
    rw [HE.out, HO.out]
    exact ⟨none, 0, rfl, World.ownsRow_nil _ _ _ _, b2⟩
end Go.Proofs.YtbheoldakmcppaaGreatDoor

/-! What aead.Open answers, at any bytes. -/
namespace Go.Proofs.YtbheoldakmcppaaGreatDoor
open Go Go.RowKit

/-- The beginning of a slice; its end. -/
theorem SL.Ok.head {w : World} {s : SL} (h : s.Ok w) (m : Nat) (hm : m ≤ s.len) : (SL.mk s.a m s.cap s.g s.off (s.b.take m)).Ok w :=
  ⟨by show (s.b.take m).length = m; rw [List.length_take, h.hb]; omega, Nat.le_trans hm h.hcap, fun e => ⟨by have := (h.nil e).1; show m = 0; omega, (h.nil e).2⟩, fun p => h.at_ (Nat.lt_of_lt_of_le p hm), fun p => h.lt (Nat.lt_of_lt_of_le p hm), fun j hj => by
    have hj' : j < m := hj
    rw [show (SL.mk s.a m s.cap s.g s.off (s.b.take m)).off = s.off from rfl]
    refine (h.cell j (by omega)).trans ?_
    show _ = some (Value.int .u8 (v8 (gb (s.b.take m) j)))
    unfold gb
    rw [List.getElem?_take, if_pos hj']⟩
theorem SL.Ok.tail {w : World} {s : SL} (h : s.Ok w) (m : Nat) (hm : m ≤ s.len) : (SL.mk (some ⟨s.g, s.off + m, none⟩) (s.len - m) (s.cap - m) s.g (s.off + m) (s.b.drop m)).Ok w :=
  ⟨by show (s.b.drop m).length = s.len - m; rw [List.length_drop, h.hb], by have := h.hcap; show s.len - m ≤ s.cap - m; omega, fun e => by simp at e, fun _ => rfl, fun p => h.lt (by have : 0 < s.len - m := p; omega), fun j hj => by
    have hj' : j < s.len - m := hj
    have := h.cell (m + j) (by omega)
    show w.cell? ⟨s.g, s.off + m + j, none⟩ = some (.int .u8 (v8 (gb (s.b.drop m) j)))
    rw [Nat.add_assoc, this]
    unfold gb
    rw [List.getElem?_drop]⟩

/-- What Open answers: its error; its bytes. -/
def hidO (s : List By) : List By := s.take (s.length - 16)
def tagO (s : List By) : List By := s.drop (s.length - 16)
def openE (k n s b : List By) : Int := if k.length = 32 ∧ n.length = 12 then (if s.length < 16 then 4 else if s.length ≤ 1048592 ∧ b.length ≤ 1048576 then (if tagO s = markL k n (hidO s) b then 0 else 11) else 3) else 1
def openO (k n s b : List By) : List By := if openE k n s b = 0 then xorL k 1 n (hidO s) else []
theorem open_arg {k n s b : List By} (h : ¬ (k.length = 32 ∧ n.length = 12)) : openE k n s b = 1 ∧ openO k n s b = [] := by
  have e : openE k n s b = 1 := by unfold openE; rw [if_neg h]
  exact ⟨e, by unfold openO; rw [e]; rfl⟩
theorem open_short {k n s b : List By} (h : k.length = 32 ∧ n.length = 12) (h2 : s.length < 16) : openE k n s b = 4 ∧ openO k n s b = [] := by
  have e : openE k n s b = 4 := by unfold openE; rw [if_pos h, if_pos h2]
  exact ⟨e, by unfold openO; rw [e]; rfl⟩
theorem open_limit {k n s b : List By} (h : k.length = 32 ∧ n.length = 12) (h2 : ¬ s.length < 16) (h3 : ¬ (s.length ≤ 1048592 ∧ b.length ≤ 1048576)) : openE k n s b = 3 ∧ openO k n s b = [] := by
  have e : openE k n s b = 3 := by unfold openE; rw [if_pos h, if_neg h2, if_neg h3]
  exact ⟨e, by unfold openO; rw [e]; rfl⟩
theorem open_tag {k n s b : List By} (h : k.length = 32 ∧ n.length = 12) (h2 : ¬ s.length < 16) (h3 : s.length ≤ 1048592 ∧ b.length ≤ 1048576) (h4 : tagO s ≠ markL k n (hidO s) b) : openE k n s b = 11 ∧ openO k n s b = [] := by
  have e : openE k n s b = 11 := by unfold openE; rw [if_pos h, if_neg h2, if_pos h3, if_neg h4]
  exact ⟨e, by unfold openO; rw [e]; rfl⟩
theorem open_fine {k n s b : List By} (h : k.length = 32 ∧ n.length = 12) (h2 : ¬ s.length < 16) (h3 : s.length ≤ 1048592 ∧ b.length ≤ 1048576) (h4 : tagO s = markL k n (hidO s) b) : openE k n s b = 0 ∧ openO k n s b = xorL k 1 n (hidO s) := by
  have e : openE k n s b = 0 := by unfold openE; rw [if_pos h, if_neg h2, if_pos h3, if_pos h4]
  exact ⟨e, by unfold openO; rw [e]; rfl⟩

theorem load_part6In {F : Fence} {N : Nat} {P : Program} {ops : Array Oper} {rest : List Oper} {o : Oper} {a : Act} {w : World} {Q : Exit → Act → World → Prop} (hgd : o.guard = none) (ty : TypeId) (x : Operand) (ho : o.op = .load ty x) (g off : Nat) (hx : a.eval x = .pointer (some ⟨g, off, none⟩)) (cs : Array Value) (d : TypeDesc) (hu : P.underlying ty = some d) (hd : d.isRow = true) (n : Nat) (hi : (P.info? ty).map (·.size) = some n) (hn : cs.size = n) (hc : w.rangeAt g off cs.toList)
    (h : wpListIn F N P ops Q rest (a.put o.dst (.agg cs)) w) : wpListIn F N P ops Q (o :: rest) a w :=
  plain_value hgd (by simp [ho]) (by simp [ho]) _ (run_mid ty x g off cs d ho hx hu hd (by rw [hn]; exact hi) w hc) h
def depO : Nat → List Nat
  | 4 => [1, 2, 3]
  | 5 => [0, 4]
  | 6 => [5]
  | _ => []
def valO (tg M : List By) (kn : List By) (h b : Value) : Nat → Value
  | 0 => .agg (bs tg)
  | 1 => .agg (bs kn)
  | 2 => h
  | 3 => b
  | 4 => .agg (bs M)
  | 5 => .bool (decide (tg = M))
  | _ => .bool (!decide (tg = M))

set_option maxRecDepth 20000 in
set_option maxHeartbeats 4000000 in
theorem open_any (k n s b : SL) (w : World) (hg : Glob w) (hk : k.Ok w) (hn : n.Ok w) (hp : s.Ok w) (hb : b.Ok w) (hsl : s.len ≤ 140737488355328) :
    Calls Tryz.prog 140 #[.slice k.a k.len k.cap, .slice n.a n.len n.cap, .slice s.a s.len s.cap, .slice b.a b.len b.cap] w fun e w' => ∃ a c, e = .returned (.tuple #[.slice a (openO k.b n.b s.b b.b).length c, .int .i64 (openE k.b n.b s.b b.b)]) ∧ w'.ownsRow w.heap.size 5 1 (.slice a (openO k.b n.b s.b b.b).length c) (openO k.b n.b s.b b.b).length (vb (openO k.b n.b s.b b.b)) ∧ Below w.heap.size w w' := by
  have HG := veil hg
  have HK := veil hk
  have HN := veil hn
  have HS := veil hp
  have HB := veil hb
  clear hg hk hn hp hb
  refine (callsIn_wide (n := 4)).1 ?_
  refine callsIn_of_wp Tryz.func140 rfl trivial ?_ rfl
  simp only [Tryz.ntmps140, List.size_toArray, List.length_cons, List.length_nil, Nat.reduceAdd, Nat.reduceSub, Array.replicate_succ, Array.replicate_zero, List.push_toArray, List.append_toArray, List.nil_append, List.cons_append]
  gi_wp2_with fail
  refine ⟨trivial, (callsIn_wide.2 (lockOf_any k n w HK.out HN.out)).mono ?_⟩
  rintro e1 w1 ⟨hb1, ⟨h32, h12, rfl⟩ | ⟨hno, rfl⟩⟩
  · have hk32 : k.b.length = 32 := by rw [HK.out.hb, h32]
    have hn12 : n.b.length = 12 := by rw [HN.out.hb, h12]
    have hz44 : (bs (k.b ++ n.b)).size = 44 := by rw [bs_size, List.length_append, hk32, hn12]
    have b2 := hb1.alloc hb1.size (.cells (bs (k.b ++ n.b)) 80)
    have r2 : Row (w1.alloc (.cells (bs (k.b ++ n.b)) 80)) w1.heap.size 80 (bs (k.b ++ n.b)) := Row.new _ _ _
    have hs1 := hb1.size
    clear hb1
    by_cases h16 : s.len < 16
    · obtain ⟨hE, hO⟩ := open_short (k := k.b) (n := n.b) (s := s.b) (b := b.b) ⟨hk32, hn12⟩ (by rw [HS.out.hb]; exact h16)
      have HE := veil hE
      have HO := veil hO
      clear hE hO
      have d0 : decide ((s.len : Int) < 16) = true := by simp; omega
      gi_wp2_with (first
        | (with_reducible (show wpListIn _ _ _ _ _ (⟨_, Op.alloc 80, _, _, _, _⟩ :: _) _ _)
           refine alloc_rowIn rfl 80 rfl (bs z44) (by kernel_rfl) ?_)
        | (with_reducible (show wpListIn _ _ _ _ _ (⟨_, Op.store 80 _ _, _, _, _, _⟩ :: _) _ _)
           refine store_newIn (w := w1) (by rfl) 80 _ _ (by rfl) w1.heap.size (bs (k.b ++ n.b)) (by rfl) (by rfl) 80 (bs z44) (by rfl) 44 (by kernel_rfl) (by rfl) hz44 (bs_one _) ?_))
      go_ret2
      rw [HE.out, HO.out]
      exact ⟨none, 0, rfl, World.ownsRow_nil _ _ _ _, b2⟩
    have d0 : decide ((s.len : Int) < 16) = false := by simp; omega
    by_cases hbig : s.len ≤ 1048592 ∧ b.len ≤ 1048576
    · have d1 : decide ((1048592 : Int) < (s.len : Int)) = false := by simp; omega
      have d2 : decide ((1048576 : Int) < (b.len : Int)) = false := by simp; omega
      have hbig' : s.b.length ≤ 1048592 ∧ b.b.length ≤ 1048576 := by rw [HS.out.hb, HB.out.hb]; exact hbig
      have h16' : ¬ s.b.length < 16 := by rw [HS.out.hb]; exact h16
      have HBIG := veil hbig'
      have H16 := veil h16'
      have HPL := veil hbig
      clear hbig' h16'
      obtain ⟨m, hm⟩ : ∃ m, s.len = m + 16 := ⟨s.len - 16, by omega⟩
      have hsa : s.a = some ⟨s.g, s.off, none⟩ := HS.out.at_ (by omega)
      have hcap := HS.out.hcap
      have hmi : (s.len : Int) - 16 = (m : Int) := by omega
      have hml : m ≤ s.len := by omega
      have hw1 : IntKind.i64.wrap (m : Int) = (m : Int) := by rw [IntKind.wrap_i64]; omega
      have HM := veil hm
      have HSL := veil hsl
      rw [hsa]
      clear hbig hsl hm h16
      gi_wp2_with (first
        | (with_reducible (show wpListIn _ _ _ _ _ (⟨_, Op.alloc 80, _, _, _, _⟩ :: _) _ _)
           refine alloc_rowIn rfl 80 rfl (bs z44) (by kernel_rfl) ?_)
        | (with_reducible (show wpListIn _ _ _ _ _ (⟨_, Op.store 80 _ _, _, _, _, _⟩ :: _) _ _)
           refine store_newIn (w := w1) (by rfl) 80 _ _ (by rfl) w1.heap.size (bs (k.b ++ n.b)) (by rfl) (by rfl) 80 (bs z44) (by rfl) 44 (by kernel_rfl) (by rfl) hz44 (bs_one _) ?_))
      have htl := (HS.out.below b2).tail m hml
      rw [show s.len - m = 16 by omega]
      rw [show s.len - m = 16 by omega] at htl
      refine ⟨trivial, (callsIn_wide.2 (array16_yes _ _ htl rfl)).mono ?_⟩
      rintro e3 w3 ⟨rfl, hb3⟩
      simp only []
      have b3 := b2.trans (hb3.mono b2.size)
      have r3 := r2.below hb3 r2.lt
      have hs2 := b2.size
      have eT : s.b.drop m = tagO s.b := by unfold tagO; rw [HS.out.hb, HM.out]; congr 1
      have eH : s.b.take m = hidO s.b := by unfold hidO; rw [HS.out.hb, HM.out]; congr 1
      rw [eT]
      have htgl : (tagO s.b).length = 16 := by rw [← eT, List.length_drop, HS.out.hb, HM.out]; omega
      obtain ⟨tg, htg⟩ : ∃ tg, tg = tagO s.b := ⟨_, rfl⟩
      rw [← htg] at htgl ⊢
      have htz : (bs tg).size = 16 := by rw [bs_size, htgl]
      have HTG := veil htg
      have HH := veil eH
      clear hb3 htl r2 b2 eT eH htg
      have b4 := b3.alloc b3.size (.cells (bs tg) 83)
      have r4 := r3.alloc (.cells (bs tg) 83)
      have q4 : Row (w3.alloc (.cells (bs tg) 83)) w3.heap.size 83 (bs tg) := Row.new _ _ _
      have hs4 := b4.size
      clear b3 r3
      gi_wp2_with (first
        | (with_reducible (show wpListIn _ _ _ _ _ (⟨_, Op.alloc 83, _, _, _, _⟩ :: _) _ _)
           refine alloc_rowIn rfl 83 rfl (bs z16) (by kernel_rfl) ?_)
        | (with_reducible (show wpListIn _ _ _ _ _ (⟨_, Op.store 83 _ _, _, _, _, _⟩ :: _) _ _)
           refine store_newIn (w := w3) (by rfl) 83 _ _ (by rfl) w3.heap.size (bs tg) (by rfl) (by rfl) 83 (bs z16) (by rfl) 16 (by kernel_rfl) (by rfl) htz (bs_one _) ?_))
      obtain ⟨w4, hw4⟩ : ∃ w4, w4 = w3.alloc (.cells (bs tg) 83) := ⟨_, rfl⟩
      rw [← hw4] at b4 r4 q4
      have hml2 := markL_length k.b n.b (hidO s.b) b.b
      obtain ⟨M, hMM⟩ : ∃ M, M = markL k.b n.b (hidO s.b) b.b := ⟨_, rfl⟩
      rw [← hMM] at hml2
      have HMM := veil hMM
      have hO4 : (SL.mk (some ⟨s.g, s.off, none⟩) m s.cap s.g s.off (hidO s.b)).Ok w4 := by
        have := (HS.out.below b4).head m hml
        rw [hsa, HH.out] at this
        exact this
      have HO4 := veil hO4
      clear hMM hO4
      refine wpIn_region_any (by kernel_rfl) ?_
      refine anyIn_vals (w0 := w4) (valO tg M (k.b ++ n.b) (.slice (some ⟨s.g, s.off, none⟩) m s.cap) (.slice b.a b.len b.cap)) [49, 50, 51, 52, 53, 54, 55] depO (by kernel_rfl) rfl (by decide) (by kernel_rfl) (by rw [hw4]; exact (Below.refl _ _).drew) ?step ?done
      case step =>
        intro x W i d hW hdi hdep
        match i, hdi, hdep with
        | 0, hdi, _ =>
          obtain rfl := Option.some.inj hdi
          exact OI_value rfl rfl (about_none (by intro c h; cases h)) (by intro c h; cases h) (.agg (bs tg)) W (run_load_row 83 _ rfl w3.heap.size (by kernel_rfl) _ _ 16 5 Tryz.underlying83 (by kernel_rfl) htz W (q4.below hW q4.lt)) ⟨rfl, Below.refl _ _⟩
        | 1, hdi, _ =>
          obtain rfl := Option.some.inj hdi
          exact OI_value rfl rfl (about_none (by intro c h; cases h)) (by intro c h; cases h) (.agg (bs (k.b ++ n.b))) W (run_mid 80 _ w1.heap.size 0 (bs (k.b ++ n.b)) _ rfl (by kernel_rfl) Tryz.underlying80 rfl (by rw [hz44]; kernel_rfl) W (lock_whole (r4.below hW r4.lt))) ⟨rfl, Below.refl _ _⟩
        | 2, hdi, _ =>
          obtain rfl := Option.some.inj hdi
          exact OI_value rfl rfl (about_none (by intro c h; cases h)) (by intro c h; cases h) (.slice (some ⟨s.g, s.off, none⟩) m s.cap) W (by kernel_rfl) ⟨rfl, Below.refl _ _⟩
        | 3, hdi, _ =>
          obtain rfl := Option.some.inj hdi
          exact OI_value rfl rfl (about_none (by intro c h; cases h)) (by intro c h; cases h) (.slice b.a b.len b.cap) W (by kernel_rfl) ⟨rfl, Below.refl _ _⟩
        | 4, hdi, hdep =>
          obtain rfl := Option.some.inj hdi
          rw [updV_self (hdep 1 (by simp [depO])), updV_self (show updV x 1 _ 2 = _ from hdep 2 (by simp [depO])), updV_self (show updV (updV x 1 _) 2 _ 3 = _ from hdep 3 (by simp [depO]))]
          refine OI_call rfl rfl (by intro c h; cases h) 77 #[.agg (bs (k.b ++ n.b)), .slice (some ⟨s.g, s.off, none⟩) m s.cap, .slice b.a b.len b.cap] (fun _ _ => trivial) (by kernel_rfl) (by decide) ?_
          refine (callsIn_wide.2 (lockTag_any k.b n.b hk32 hn12 ⟨some ⟨s.g, s.off, none⟩, m, s.cap, s.g, s.off, hidO s.b⟩ b W ((HG.out.below b4 (Nat.le_refl _)).below hW (Nat.le_refl _)) (HO4.out.below hW) ((HB.out.below b4).below hW) (by have := HPL.out; have := HM.out; show m ≤ 1048576; omega) HPL.out.2)).mono ?_
          rintro e w' ⟨rfl, hb'⟩
          refine ⟨_, rfl, ?_, hb'⟩
          show _ = _
          rw [← HMM.out]
          rfl
        | 5, hdi, hdep =>
          obtain rfl := Option.some.inj hdi
          rw [updV_self (hdep 0 (by simp [depO])), updV_self (show updV x 0 _ 4 = _ from hdep 4 (by simp [depO]))]
          refine OI_call rfl rfl (by intro c h; cases h) 170 #[.agg (bs tg), .agg (bs M)] (fun _ _ => trivial) (by kernel_rfl) (by decide) ?_
          refine (callsIn_wide.2 (same_tags tg M htgl hml2 W)).mono ?_
          rintro e w' ⟨rfl, hb'⟩
          exact ⟨_, rfl, rfl, hb'⟩
        | 6, hdi, hdep =>
          obtain rfl := Option.some.inj hdi
          rw [updV_self (hdep 5 (by simp [depO]))]
          exact OI_value rfl rfl (about_none (by intro c h; cases h)) (by intro c h; cases h) (.bool (!decide (tg = M))) W (by kernel_rfl) ⟨rfl, Below.refl _ _⟩
        | _ + 7, hdi, _ => simp at hdi
      case done =>
        intro W hW
        have b5 := b4.trans (hW.mono b4.size)
        have r5 := r4.below hW r4.lt
        have hs5 := b5.size
        have ok5 := veil (HO4.out.below hW)
        by_cases hT : tg = M
        · obtain ⟨hE, hO⟩ := open_fine (k := k.b) (n := n.b) (s := s.b) (b := b.b) ⟨hk32, hn12⟩ H16.out HBIG.out (by rw [← HTG.out, ← HMM.out]; exact hT)
          have HE := veil hE
          have HO := veil hO
          have d5 : decide (tg = M) = true := decide_eq_true hT
          simp only [putsV, valO, Act.put, List.setIfInBounds_toArray, List.set_cons_succ, List.set_cons_zero, Nat.reduceAdd, d5, Bool.not_true]
          clear hE hO hT d5 hw4
          gi_wp2_with (with_reducible (show wpListIn _ _ _ _ _ (⟨_, Op.load 80 _, _, _, _, _⟩ :: _) _ _)
                       refine load_part6In rfl 80 _ rfl w1.heap.size 0 rfl (bs (k.b ++ n.b)) _ Tryz.underlying80 rfl 44 (by kernel_rfl) hz44 (lock_whole r5) ?_)
          refine ⟨trivial, (callsIn_wide.2 (taken_any k.b n.b hk32 hn12 ⟨some ⟨s.g, s.off, none⟩, m, s.cap, s.g, s.off, hidO s.b⟩ W (HG.out.below b5 (Nat.le_refl _)) ok5.out (by have := HPL.out; have := HM.out; show m ≤ 1048576; omega))).mono ?_⟩
          rintro e6 w6 ⟨g, rfl, hown, hb6⟩
          have b6 := b5.trans (hb6.mono hs5)
          have hown' := own_low hown hs5
          have hol : (xorL k.b 1 n.b (hidO s.b)).length = m := by rw [xorL_length]; exact ok5.out.hb
          clear hown hb6
          gi_wp2_with fail
          go_ret2
          rw [HE.out, HO.out, hol]
          exact ⟨_, _, rfl, hown', b6⟩
        · obtain ⟨hE, hO⟩ := open_tag (k := k.b) (n := n.b) (s := s.b) (b := b.b) ⟨hk32, hn12⟩ H16.out HBIG.out (by rw [← HTG.out, ← HMM.out]; exact hT)
          have HE := veil hE
          have HO := veil hO
          have d5 : decide (tg = M) = false := decide_eq_false hT
          simp only [putsV, valO, Act.put, List.setIfInBounds_toArray, List.set_cons_succ, List.set_cons_zero, Nat.reduceAdd, d5, Bool.not_false]
          clear hE hO hT d5 hw4
          gi_wp2_with fail
          go_ret2
          rw [HE.out, HO.out]
          exact ⟨none, 0, rfl, World.ownsRow_nil _ _ _ _, b5⟩
    · obtain ⟨hE, hO⟩ := open_limit (k := k.b) (n := n.b) (s := s.b) (b := b.b) ⟨hk32, hn12⟩ (by rw [HS.out.hb]; exact h16) (by rw [HS.out.hb, HB.out.hb]; exact hbig)
      have HE := veil hE
      have HO := veil hO
      clear hE hO
      by_cases h1 : s.len ≤ 1048592
      · have d1 : decide ((1048592 : Int) < (s.len : Int)) = false := by simp; omega
        have d2 : decide ((1048576 : Int) < (b.len : Int)) = true := by simp; omega
        gi_wp2_with (first
          | (with_reducible (show wpListIn _ _ _ _ _ (⟨_, Op.alloc 80, _, _, _, _⟩ :: _) _ _)
             refine alloc_rowIn rfl 80 rfl (bs z44) (by kernel_rfl) ?_)
          | (with_reducible (show wpListIn _ _ _ _ _ (⟨_, Op.store 80 _ _, _, _, _, _⟩ :: _) _ _)
             refine store_newIn (w := w1) (by rfl) 80 _ _ (by rfl) w1.heap.size (bs (k.b ++ n.b)) (by rfl) (by rfl) 80 (bs z44) (by rfl) 44 (by kernel_rfl) (by rfl) hz44 (bs_one _) ?_))
        go_ret2
        rw [HE.out, HO.out]
        exact ⟨none, 0, rfl, World.ownsRow_nil _ _ _ _, b2⟩
      · have d1 : decide ((1048592 : Int) < (s.len : Int)) = true := by simp; omega
        gi_wp2_with (first
          | (with_reducible (show wpListIn _ _ _ _ _ (⟨_, Op.alloc 80, _, _, _, _⟩ :: _) _ _)
             refine alloc_rowIn rfl 80 rfl (bs z44) (by kernel_rfl) ?_)
          | (with_reducible (show wpListIn _ _ _ _ _ (⟨_, Op.store 80 _ _, _, _, _, _⟩ :: _) _ _)
             refine store_newIn (w := w1) (by rfl) 80 _ _ (by rfl) w1.heap.size (bs (k.b ++ n.b)) (by rfl) (by rfl) 80 (bs z44) (by rfl) 44 (by kernel_rfl) (by rfl) hz44 (bs_one _) ?_))
        go_ret2
        rw [HE.out, HO.out]
        exact ⟨none, 0, rfl, World.ownsRow_nil _ _ _ _, b2⟩
  · obtain ⟨hE, hO⟩ := open_arg (k := k.b) (n := n.b) (s := s.b) (b := b.b) (by rw [HK.out.hb, HN.out.hb]; exact hno)
    have HE := veil hE
    have HO := veil hO
    have b2 := hb1.alloc hb1.size (.cells (bs z44) 80)
    have hz44 : (bs z44).size = 44 := by rw [bs_size]; rfl
    clear hE hO hb1
    gi_wp2_with (first
      | (with_reducible (show wpListIn _ _ _ _ _ (⟨_, Op.alloc 80, _, _, _, _⟩ :: _) _ _)
         refine alloc_rowIn rfl 80 rfl (bs z44) (by kernel_rfl) ?_)
      | (with_reducible (show wpListIn _ _ _ _ _ (⟨_, Op.store 80 _ _, _, _, _, _⟩ :: _) _ _)
         refine store_newIn (w := w1) (by rfl) 80 _ _ (by rfl) w1.heap.size (bs z44) (by rfl) (by rfl) 80 (bs z44) (by rfl) 44 (by kernel_rfl) (by rfl) hz44 (bs_one _) ?_))
    go_ret2
    rw [HE.out, HO.out]
    exact ⟨none, 0, rfl, World.ownsRow_nil _ _ _ _, b2⟩
end Go.Proofs.YtbheoldakmcppaaGreatDoor
