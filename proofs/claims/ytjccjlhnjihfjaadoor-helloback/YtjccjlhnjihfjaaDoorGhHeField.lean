/-
  A greeting's reader: a field of 32 bytes.
-/
import Derived.Test.YtjccjlhnjihfjaaDoorGhHeRead
namespace Go.Proofs.YtjccjlhnjihfjaaDoor
open Go Go.RowKit

/-- As many bytes as the row has are copied into it. -/
theorem copy_fst (w : World) (g : Nat) (t : TypeId) (old : List By) (n : Nat) (q : SL) (hr : Row w g t (bs old)) (hn : old.length = n) (hq : q.Ok w) (hl : n ≤ q.len) (hp : 0 < n) :
    (Builtin.copy_ #[28, 28] 3 #[.slice (some ⟨g, 0, none⟩) n n, .slice q.a q.len q.cap]).run Tryd.prog w = .ok (goInt n) (w.setRow g (bs (q.b.take n))) := by
  have hcs : (vb (q.b.take n)).length = n := by rw [vb_length, List.length_take, hq.hb]; omega
  have this := lgRun_copy (P := Tryd.prog) w 28 28 3 5 g 0 n n ⟨q.g, q.off, none⟩ q.len q.cap 1 (bs old) t (vb (q.b.take n)) Tryd.underlying28 (by kernel_rfl) hr (by rw [hcs, Nat.mul_one]; exact (Nat.min_eq_right hl).symm)
    (fun j v hv => by
      obtain ⟨h1, rfl⟩ := vb_get' _ j v hv
      rw [List.length_take] at h1
      rw [Addr.add_mid, hq.cell j (by omega)]
      unfold gb
      rw [List.getElem?_take, if_pos (by omega)]) (by rw [hcs, bs_size, hn]; omega) (fun v hv => by
      obtain ⟨z, _, rfl⟩ := List.mem_map.1 hv
      rfl)
  rw [← hq.at_ (by omega), show Nat.min q.len n = n from Nat.min_eq_right hl] at this
  rw [this]
  refine congrArg (fun c => Result.ok (goInt n) (w.setRow g c)) ?_
  apply Array.ext'
  have hd : (bs old).toList.drop (0 + (vb (q.b.take n)).length) = [] := by
    rw [hcs]
    apply List.drop_eq_nil_of_le
    simp [bs, hn]
  rw [hd]
  simp only [List.take_zero, List.nil_append, List.append_nil, bs, vb]
theorem step_copyH {P : Program} {ops : Array Oper} {o : Oper} {a : Act} {w : World} {K : Act → World → Prop} {Q : Exit → Act → World → Prop} {E : Prop} (hw : Region.wanted o (yielded ops a.tmps) = true) (s x : Operand) (t1 t2 : TypeId) (ho : o.op = .call { callee := .builtin .copy, args := #[s, x], argTypes := #[t1, t2] }) (vs vx : Value) (hs : a.eval s = vs) (hx : a.eval x = vx)
    (v : Value) (w' : World) (hr : (Builtin.copy_ #[t1, t2] o.type #[vs, vx]).run P w = .ok v w') (h : K (a.put o.dst v) w') : if Region.wanted o (yielded ops a.tmps) = true then Oper.wp P o a w K Q else E := by
  rw [if_pos hw]
  unfold Oper.wp
  rw [lgRun_copyB #[t1, t2] s x vs vx v w w' ho hs hx hr]
  exact h
theorem zs_size : (bs He.zs).size = 32 := by rw [bs_size]; rfl
theorem grown_setRow {w w' : World} {g k : Nat} {cs : Array Value} (h : w.grownBy w' (some g)) (hk : w.heap.size ≤ k) : w.grownBy (w'.setRow k cs) (some g) :=
  ⟨h.os, h.tape, h.output, by rw [setRow_size]; exact h.size, fun j hj hne => (setRow_other w' k j cs (by omega)).trans (h.block j hj hne)⟩
theorem grown_drew {w w' : World} {r : Option Nat} (h : w.grownBy w' r) : w.grownBy w'.drew r := ⟨h.os, h.tape, h.output, h.size, h.block⟩
theorem grown_alloc {w w' : World} {r : Option Nat} (h : w.grownBy w' r) (o : Obj) : w.grownBy (w'.alloc o) r :=
  h.trans (World.grownBy_alloc w' o r)

set_option maxRecDepth 20000 in
set_option maxHeartbeats 4000000 in
theorem rd_field (g : Nat) (s : SL) (f : Bool) (w : World) (hr : Row w g 70 (hrC s f)) (hs : s.Ok w) (ht : s.Told) (hne : 0 < s.len → s.g ≠ g) (hl : s.len ≤ 140737488355328) :
    Calls Tryd.prog 65 #[.pointer (some ⟨g, 0, none⟩)] w fun x w' => ∃ s' : SL, x = .returned (.agg (bs (He.rN (s.b, f)).1)) ∧ s'.Ok w' ∧ s'.Told ∧ s'.b = (He.rN (s.b, f)).2.1 ∧ s'.g = s.g ∧ s'.len ≤ s.len ∧ Row w' g 70 (hrC s' (He.rN (s.b, f)).2.2) ∧ w.grownBy w' (some g) := by
  have hgw := hr.lt
  obtain ⟨W0, hW0⟩ : ∃ W0, W0 = (w.alloc (.cells (bs He.zs) 23)).alloc (.cells (bs He.zs) 23) := ⟨_, rfl⟩
  have g0 : w.grownBy W0 (some g) := by rw [hW0]; exact grown_alloc (World.grownBy_alloc w _ _) _
  have rg0 : Row W0 g 70 (hrC s f) := by rw [hW0]; exact (hr.alloc _).alloc _
  have r2 : Row W0 w.heap.size 23 (bs He.zs) := by rw [hW0]; exact (Row.new _ _ _).alloc _
  have r3 : Row W0 (w.heap.size + 1) 23 (bs He.zs) := by rw [hW0]; exact Row.new1 _ _ _ _
  have s0 : s.Ok W0 := hs.apart g0 hne
  have HS := veil hs
  have HR := veil hr
  have HT := veil ht
  have HNE := veil hne
  have HL := veil hl
  have c0 : w.cell? ⟨g, 0, none⟩ = some (.slice s.a s.len s.cap) := hr.cell 0
  have z1 := hr.frozen 1
  have c1 : w.cell? ⟨g, 1, none⟩ = some (.bool f) := hr.cell 1
  clear hr hs ht hne hl
  by_cases h32 : s.len < 32
  · have hrd : He.rN (s.b, f) = (He.zs, (s.b, true)) := by
      unfold He.rN
      exact He.stp_none _ (by unfold He.fieldP; rw [if_pos (by rw [s0.hb]; exact h32)]) f
    have d1 : decide ((s.len : Int) < 32) = true := decide_eq_true (by omega)
    have hsz : (w.setCell ⟨g, 1, none⟩ (.bool true)).heap.size = w.heap.size := by simp [World.setCell]
    obtain ⟨W3, hW3⟩ : ∃ W3, W3 = ((w.setCell ⟨g, 1, none⟩ (.bool true)).alloc (.cells (bs He.zs) 23)).alloc (.cells (bs He.zs) 23) := ⟨_, rfl⟩
    have RG : Row W3 g 70 (hrC s true) := by rw [hW3]; exact ((HR.out.set 1 (.bool true)).alloc _).alloc _
    have R2 : Row W3 w.heap.size 23 (bs He.zs) := by
      rw [hW3]
      have := (Row.new (w.setCell ⟨g, 1, none⟩ (.bool true)) 23 (bs He.zs)).alloc (.cells (bs He.zs) 23)
      rwa [hsz] at this
    have R3 : Row W3 (w.heap.size + 1) 23 (bs He.zs) := by
      rw [hW3]
      have := Row.new1 (w.setCell ⟨g, 1, none⟩ (.bool true)) (.cells (bs He.zs) 23) 23 (bs He.zs)
      rwa [hsz] at this
    have G : w.grownBy (W3.setRow w.heap.size (bs He.zs)) (some g) := by rw [hW3]; exact grown_setRow (grown_alloc (grown_alloc (grown_set (grown_refl _ _)) _) _) (Nat.le_refl _)
    have HNG := veil (show g ≠ w.heap.size by omega)
    have HR3 := veil R3
    have HRG := veil RG
    have HR2 := veil R2
    have HGG := veil G
    rw [hrd]
    rw [hW3] at HRG HR2 HR3 HGG
    clear rg0 r2 r3 s0 g0 h32 hrd hW0 RG R2 R3 G hW3 hsz
    go_enter Tryd.func65, Tryd.ntmps65
    go_wp2_with (first
      | (with_reducible (show wpList _ _ _ (⟨_, Op.alloc 23, _, _, _, _⟩ :: _) _ _)
         refine alloc_row rfl 23 rfl (bs He.zs) (by kernel_rfl) ?_)
      | (with_reducible (show wpList _ _ _ (⟨_, Op.load 23 _, _, _, _, _⟩ :: _) _ _)
         refine load_row rfl 23 _ rfl (w.heap.size + 1) rfl _ _ HR3.out 32 5 Tryd.underlying23 (by kernel_rfl) zs_size ?_)
      | (with_reducible (show wpList _ _ _ (⟨_, Op.store 23 _ _, _, _, _, _⟩ :: _) _ _)
         refine store_row rfl 23 _ _ rfl w.heap.size (bs He.zs) rfl rfl _ _ HR2.out 32 (by kernel_rfl) zs_size zs_size (bs_one _) ?_))
    refine bodyPost_ret (result_row rfl _ _ w.heap.size _ _ (HR2.out.put _) 32 5 rfl Tryd.underlying23 (by kernel_rfl) zs_size) rfl ?_
    exact ⟨s, rfl, HS.out.apart HGG.out HNE.out, HT.out, rfl, rfl, Nat.le_refl _, HRG.out.putOther HNG.out _, HGG.out⟩
  · have hle : 32 ≤ s.len := by omega
    have hrd : He.rN (s.b, f) = (s.b.take 32, (s.b.drop 32, f)) := by
      unfold He.rN
      exact He.stp_some (by unfold He.fieldP; rw [if_neg (by rw [s0.hb]; exact h32)]) f
    have d1 : decide ((s.len : Int) < 32) = false := decide_eq_false (by omega)
    have hc := copy_fst W0.drew (w.heap.size + 1) 23 He.zs 32 s r3.drew rfl (s0.below ((Below.refl _ W0).drew)) hle (by decide)
    obtain ⟨W1, hW1⟩ : ∃ W1, W1 = W0.drew.setRow (w.heap.size + 1) (bs (s.b.take 32)) := ⟨_, rfl⟩
    have g1 : w.grownBy W1 (some g) := by rw [hW1]; exact grown_setRow (grown_drew g0) (by omega)
    have rg1 : Row W1 g 70 (hrC s f) := by rw [hW1]; exact rg0.drew.putOther (by omega) _
    have q2 : Row W1 w.heap.size 23 (bs He.zs) := by rw [hW1]; exact r2.drew.putOther (by omega) _
    have q3 : Row W1 (w.heap.size + 1) 23 (bs (s.b.take 32)) := by rw [hW1]; exact r3.drew.put _
    rw [← hW1, hW0] at hc
    have hsz : (bs (s.b.take 32)).size = 32 := by rw [bs_size, List.length_take, s0.hb]; omega
    clear z1 c1
    have c1 : W1.cell? ⟨g, 0, none⟩ = some (.slice s.a s.len s.cap) := rg1.cell 0
    have z1 := rg1.frozen 0
    have HNIL := veil HS.out.nil
    have HCUT := veil (cutF_ok (HS.out.apart g1 HNE.out) HT.out 32 hle)
    have h32' : (32 : Nat) ≤ s.len := hle
    obtain ⟨va, hva⟩ : ∃ v : Value, v = .slice (cutF s 32).a (cutF s 32).len (cutF s 32).cap := ⟨_, rfl⟩
    have RG := veil (rg1.set 0 va)
    have Q2 := veil (q2.other (a := ⟨g, 0, none⟩) (by show w.heap.size ≠ g; omega) va)
    have Q3 := veil (q3.other (a := ⟨g, 0, none⟩) (by show w.heap.size + 1 ≠ g; omega) va)
    have G := veil (grown_setRow (cs := bs (s.b.take 32)) (grown_set (j := 0) (v := va) g1) (Nat.le_refl w.heap.size))
    have HG := veil (show g ≠ w.heap.size by omega)
    have HSZ := veil hsz
    have HVA := veil hva
    rw [hva] at RG Q2 Q3 G
    have HSC := veil (show (cutF s 32).Ok ((W1.setCell ⟨g, 0, none⟩ (.slice (cutF s 32).a (cutF s 32).len (cutF s 32).cap)).setRow w.heap.size (bs (s.b.take 32))) from by
      refine HCUT.out.1.same (fun p => ?_) (by rw [setRow_size]; exact (grown_set (w := W1) (w' := W1) (j := 0) (grown_refl _ _)).size)
      have hl0 : 0 < s.len := by omega
      have hg : (cutF s 32).g = s.g := HCUT.out.2.2.2.2
      rw [hg]
      have h1 := HS.out.lt hl0
      have h2 := HNE.out hl0
      refine (setRow_other _ _ _ _ (by omega)).trans ?_
      exact Below.heap_setCell _ _ _ _ (fun e => h2 e))
    rw [hrd]
    clear rg0 r2 r3 s0 g0 h32 hrd hW0 rg1 q2 q3 g1 hW1 hva hsz
    go_enter Tryd.func65, Tryd.ntmps65
    go_wp2_with (first
      | (with_reducible (show wpList _ _ _ (⟨_, Op.alloc 23, _, _, _, _⟩ :: _) _ _)
         refine alloc_row rfl 23 rfl (bs He.zs) (by kernel_rfl) ?_))
    go_region_held3 (fun w' => w'.cell? ⟨g, 0, none⟩ = some (.slice s.a s.len s.cap)) (go_keep) (first
      | (refine step_copyH (by kernel_rfl) _ _ _ _ rfl _ _ (by kernel_rfl) (by kernel_rfl) _ W1 hc ?_))
    go_wp2_with (first
      | (with_reducible (show wpList _ _ _ (⟨some 25, Op.slice _ _ _ _ _, _, _, _, _⟩ :: _) _ _)
         refine value_wp rfl _ (run_cutF 28 5 _ _ s 32 HT.out HNIL.out rfl rfl rfl Tryd.underlying28 (by kernel_rfl) h32' _) ?_)
      | (with_reducible (show wpList _ _ _ (⟨_, Op.load 23 _, _, _, _, _⟩ :: _) _ _)
         refine load_row rfl 23 _ rfl (w.heap.size + 1) rfl _ _ Q3.out 32 5 Tryd.underlying23 (by kernel_rfl) HSZ.out ?_)
      | (with_reducible (show wpList _ _ _ (⟨_, Op.store 23 _ _, _, _, _, _⟩ :: _) _ _)
         refine store_row rfl 23 _ _ rfl w.heap.size (bs (s.b.take 32)) rfl rfl _ _ Q2.out 32 (by kernel_rfl) zs_size HSZ.out (bs_one _) ?_))
    refine bodyPost_ret (result_row rfl _ _ w.heap.size _ _ (Q2.out.put _) 32 5 rfl Tryd.underlying23 (by kernel_rfl) HSZ.out) rfl ?_
    exact ⟨cutF s 32, rfl, HSC.out, HCUT.out.2.1, HCUT.out.2.2.2.1, HCUT.out.2.2.2.2, by rw [HCUT.out.2.2.1]; omega, RG.out.putOther HG.out _, G.out⟩
end Go.Proofs.YtjccjlhnjihfjaaDoor
