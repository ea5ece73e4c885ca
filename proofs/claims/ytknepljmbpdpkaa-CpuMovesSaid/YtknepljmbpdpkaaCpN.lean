/- A machine in memory: a core, its memory, its answers. -/
import Derived.Test.YtknepljmbpdpkaaCpM
import Derived.Test.YtknepljmbpdpkaaCpH
import Derived.Test.YtknepljmbpdpkaaCpI
import Derived.RegionTactic
namespace Go.Proofs.Ytknepljmbpdpkaa
open Go.RowKit

/-- The answers, between two blocks' numbers. -/
def Ans8 (w : World) (lo hi mp : Nat) : Prop := ∃ D, AnsUp w lo mp D 10 opsL ∧ mp < hi ∧ ∀ op ∈ opsL, ∀ g, D.atKey (.int .i64 op) fnN = fnD (outF op) g → g < hi
theorem fnD_inj {f b f' b' : Nat} (h : fnD f b = fnD f' b') : b = b' := by
  simp [fnD] at h
  exact Int.ofNat_inj.1 h.2
theorem Ans8.mk' {w : World} {lo mp : Nat} {D : DataW Unit} (h : AnsUp w lo mp D 10 opsL) : Ans8 w lo w.heap.size mp :=
  ⟨D, h, h.lt, fun op ho g hg => by
    obtain ⟨b, h1, h2, -⟩ := h.val op ho
    rw [h1] at hg
    rw [← fnD_inj hg]; exact h2⟩
theorem Ans8.turned {w w' : World} {lo hi mp C B : Nat} (h : Ans8 w lo hi mp) (ht : Turned w w' [C, B]) (hB : B < lo) (hC : hi ≤ C ∨ C < lo) : Ans8 w' lo hi mp := by
  obtain ⟨D, h, hm, hg⟩ := h
  have hml := h.ml
  have hk : ∀ k, k < w.heap.size → lo ≤ k → k < hi → w'.heap[k]? = w.heap[k]? := fun k h1 h2 h3 => ht.block k h1 (by simp; omega)
  refine ⟨D, ⟨?_, h.ml, h.has, fun op ho => ?_⟩, hm, hg⟩
  · obtain ⟨es, clock, h1, F, hs, hD⟩ := h.own
    exact ⟨es, clock, (hk _ h.lt hml hm).trans h1, F, hs, hD⟩
  · obtain ⟨b, h1, h2, h3, h4, h5⟩ := h.val op ho
    exact ⟨b, h1, Nat.lt_of_lt_of_le h2 ht.size, h3, h4, (World.cell?_of_block (w := w) (a := ⟨b, 0, none⟩) (hk b h2 h3 (hg op ho b h1))).trans h5⟩
theorem Ans8.far' {w w' : World} {lo hi mp : Nat} (h : Ans8 w lo hi mp) (hs : w.heap.size ≤ w'.heap.size) (hk : ∀ k, k < w.heap.size → w'.heap[k]? = w.heap[k]?) : Ans8 w' lo hi mp := by
  obtain ⟨D, h, hm, hg⟩ := h
  refine ⟨D, ⟨?_, h.ml, h.has, fun op ho => ?_⟩, hm, hg⟩
  · obtain ⟨es, clock, h1, F, hs, hD⟩ := h.own
    exact ⟨es, clock, (hk _ h.lt).trans h1, F, hs, hD⟩
  · obtain ⟨b, h1, h2, h3, h4, h5⟩ := h.val op ho
    exact ⟨b, h1, Nat.lt_of_lt_of_le h2 hs, h3, h4, (World.cell?_of_block (w := w) (a := ⟨b, 0, none⟩) (hk b h2)).trans h5⟩
/-- Where a machine lies. -/
structure Lay8 where
  C : Nat
  F : Nat
  B : Nat
  mp : Nat
  lo : Nat
  hi : Nat
  ra : Option Addr
  rc : Nat
  bc : Nat
  top : Nat
structure Mach (w : World) (L : Lay8) (s : St8) (m : Mem8) : Prop where
  core : CoreAt w L.C s L.F L.mp
  flat : FlatAt w L.F L.B L.ra L.rc L.bc m
  ans : Ans8 w L.lo L.hi L.mp
  hB : L.B < L.lo
  hC : L.hi ≤ L.C ∨ L.C < L.lo
  hF : L.F < L.lo
  hR : ∀ b o, L.ra = some ⟨b, o, none⟩ → b < L.lo
  nB : L.B ≠ L.C
  nF : L.F ≠ L.C
  nR : ∀ b o, L.ra = some ⟨b, o, none⟩ → b ≠ L.C
  tC : L.C < L.top
  tH : L.hi ≤ L.top
  ht : L.top ≤ w.heap.size
theorem Mach.cb {w : World} {L : Lay8} {s : St8} {m : Mem8} (h : Mach w L s m) : L.C ≠ L.B := h.nB.symm
theorem Mach.lh {w : World} {L : Lay8} {s : St8} {m : Mem8} (h : Mach w L s m) : L.lo < L.hi := by
  obtain ⟨D, h1, h2, -⟩ := h.ans
  have := h1.ml
  omega
theorem turned_cb {w w' : World} {C B : Nat} (h : Turned w w' [C]) : Turned w w' [C, B] := h.mono (by simp)
theorem turned_cb' {w w' : World} {C B : Nat} (h : Turned w w' [B]) : Turned w w' [C, B] := h.mono (by simp)
theorem Mach.core' {w w' : World} {L : Lay8} {s s' : St8} {m : Mem8} (h : Mach w L s m) (hc : CoreAt w' L.C s' L.F L.mp) (ht : Turned w w' [L.C]) : Mach w' L s' m :=
  ⟨hc, h.flat.other ht (by simpa using h.nF) (by simpa using h.nB) (fun _ b o e => by simpa using h.nR b o e), h.ans.turned (turned_cb ht) h.hB h.hC, h.hB, h.hC, h.hF, h.hR, h.nB, h.nF, h.nR, h.tC, h.tH, Nat.le_trans h.ht ht.size⟩
theorem Mach.flat' {w w' : World} {L : Lay8} {s : St8} {m m' : Mem8} (h : Mach w L s m) (hc : CoreAt w' L.C s L.F L.mp) (hf : FlatAt w' L.F L.B L.ra L.rc L.bc m') (ht : Turned w w' [L.B]) : Mach w' L s m' :=
  ⟨hc, hf, h.ans.turned (turned_cb' ht) h.hB h.hC, h.hB, h.hC, h.hF, h.hR, h.nB, h.nF, h.nR, h.tC, h.tH, Nat.le_trans h.ht ht.size⟩
/-- What lies behind the core may turn. -/
theorem Mach.far {w w' : World} {L : Lay8} {s : St8} {m : Mem8} (h : Mach w L s m) (hs : w.heap.size ≤ w'.heap.size) (hk : ∀ k, k < L.top → w'.heap[k]? = w.heap[k]?) : Mach w' L s m := by
  have hlh := h.lh
  have htH := h.tH
  have htC := h.tC
  have hB := h.hB
  have hF := h.hF
  have hCs := h.core.lt
  have hcell : ∀ b o, b < L.top → w'.cell? ⟨b, o, none⟩ = w.cell? ⟨b, o, none⟩ := fun b o hb => World.cell?_of_block (w := w) (hk b hb)
  refine ⟨h.core.keep (hk _ htC), ⟨h.flat.ok, (hcell _ _ (by omega)).trans h.flat.c0, (hcell _ _ (by omega)).trans h.flat.c1, fun hp => ?_, fun k hkk => (hcell _ _ (by omega)).trans (h.flat.bs k hkk), fun k => (World.frozen?_of_block (w := w) (hk L.B (by omega))).trans (h.flat.fz k), h.flat.ne, Nat.lt_of_lt_of_le h.flat.fl hs, Nat.lt_of_lt_of_le h.flat.bl hs⟩, ?_, h.hB, h.hC, h.hF, h.hR, h.nB, h.nF, h.nR, h.tC, h.tH, Nat.le_trans h.ht hs⟩
  · obtain ⟨Rb, ro, e, n, l, c⟩ := h.flat.rr hp
    have := h.hR Rb ro e
    exact ⟨Rb, ro, e, n, Nat.lt_of_lt_of_le l hs, fun i hi => (hcell _ _ (by omega)).trans (c i hi)⟩
  · obtain ⟨D, hU, hm, hg⟩ := h.ans
    refine ⟨D, ⟨?_, hU.ml, hU.has, fun op ho => ?_⟩, hm, hg⟩
    · obtain ⟨es, clock, h1, F, hs2, hD⟩ := hU.own
      exact ⟨es, clock, (hk _ (by omega)).trans h1, F, hs2, hD⟩
    · obtain ⟨b, h1, h2, h3, h4, h5⟩ := hU.val op ho
      exact ⟨b, h1, Nat.lt_of_lt_of_le h2 hs, h3, h4, (hcell _ _ (by have := hg op ho b h1; omega)).trans h5⟩
theorem Mach.mset {w : World} {L : Lay8} {s : St8} {m : Mem8} (h : Mach w L s m) {g : Nat} (o : Nat) (v : Value) (hg : L.top ≤ g) : Mach (w.setCell ⟨g, o, none⟩ v) L s m :=
  h.far (by simp [World.setCell]) (fun k hk => Below.heap_setCell _ ⟨g, o, none⟩ _ k (by show k ≠ g; omega))
theorem Mach.malloc {w : World} {L : Lay8} {s : St8} {m : Mem8} (h : Mach w L s m) (o : Obj) : Mach (w.alloc o) L s m :=
  h.far (by simp) (fun k hk => Below.heap_alloc w o k (Nat.lt_of_lt_of_le hk h.ht))
theorem Mach.mdrew {w : World} {L : Lay8} {s : St8} {m : Mem8} (h : Mach w L s m) : Mach w.drew L s m := h.far (Nat.le_refl _) (fun _ _ => rfl)
theorem Mach.mdrewN {w : World} {L : Lay8} {s : St8} {m : Mem8} (h : Mach w L s m) (n : Nat) : Mach (w.drewN n) L s m := h.far (Nat.le_refl _) (fun _ _ => rfl)
theorem Mach.put {w : World} {L : Lay8} {s : St8} {m : Mem8} (h : Mach w L s m) (d : Nat) (hd : d < 16) (v : Int) (h0 : 0 ≤ v) (h1 : v < 4294967296) : Mach (w.setCell ⟨L.C, d, none⟩ (.int .u32 v)) L (s.put d v) m :=
  h.core' (h.core.put d hd v h0 h1) ((Turned.refl _ _).tset _ _ (.inl (by simp)))
theorem Mach.setPc {w : World} {L : Lay8} {s : St8} {m : Mem8} (h : Mach w L s m) (v : Int) (h0 : 0 ≤ v) (h1 : v < 4294967296) : Mach (w.setCell ⟨L.C, 16, none⟩ (.int .u32 v)) L { s with pc := v } m :=
  h.core' (h.core.setPc v h0 h1) ((Turned.refl _ _).tset _ _ (.inl (by simp)))
theorem Mach.below {w w' : World} {L : Lay8} {s : St8} {m : Mem8} (h : Mach w L s m) (hb : Below w.heap.size w w') : Mach w' L s m := h.core' (h.core.below hb) (Turned.of_below _ hb)
theorem Mach.up {w : World} {L : Lay8} {s : St8} {m : Mem8} (h : Mach w L s m) : ∃ D, AnsUp w L.lo L.mp D 10 opsL := by obtain ⟨D, h1, -⟩ := h.ans; exact ⟨D, h1⟩
def MachOut (L : Lay8) (r : St8 × Mem8 × Stop8) (w : World) (e : Ending) (w' : World) : Prop := e = .returned (stp8 r.2.2.kind r.2.2.call r.2.2.at' r.2.2.need r.2.2.used) ∧ Mach w' L r.1 r.2.1 ∧ Turned w w' [L.C, L.B]
theorem MachOut.of_below {L : Lay8} {s : St8} {m : Mem8} {w w' : World} (h : Mach w L s m) (t : Stop8) {e : Ending} (he : e = .returned (stp8 t.kind t.call t.at' t.need t.used)) (hb : Below w.heap.size w w') : MachOut L (s, m, t) w e w' :=
  ⟨he, h.below hb, Turned.of_below _ hb⟩
theorem MachOut.of_core {L : Lay8} {s s' : St8} {m : Mem8} {w w' : World} (h : Mach w L s m) (t : Stop8) {e : Ending} (he : e = .returned (stp8 t.kind t.call t.at' t.need t.used)) (hc : CoreAt w' L.C s' L.F L.mp) (ht : Turned w w' [L.C]) : MachOut L (s', m, t) w e w' :=
  ⟨he, h.core' hc ht, turned_cb ht⟩
theorem MachOut.of_flat {L : Lay8} {s : St8} {m m' : Mem8} {w w' : World} (h : Mach w L s m) (t : Stop8) {e : Ending} (he : e = .returned (stp8 t.kind t.call t.at' t.need t.used)) (hc : CoreAt w' L.C s L.F L.mp) (hf : FlatAt w' L.F L.B L.ra L.rc L.bc m') (ht : Turned w w' [L.B]) : MachOut L (s, m', t) w e w' :=
  ⟨he, h.flat' hc hf ht, turned_cb' ht⟩

/-! ### combine -/
theorem comb_any {w : World} {L : Lay8} {s : St8} {m : Mem8} (h : Mach w L s m) (op imm : Int) (d a b : Nat) (hd : d < 16) (hA : a < 16) (hB : b < 16) (hw : (Lit.int .i64 op).wf = true) :
    Calls Try.prog 63 #[.pointer (some ⟨L.C, 0, none⟩), insV op d a b imm] w (MachOut L (combT s m op d a b) w) := by
  obtain ⟨D, hD⟩ := h.up
  unfold combT
  by_cases ho : isAns op = true
  · rw [if_pos ho]
    have hr : 8 ≤ op ∧ op ≤ 17 := by unfold isAns at ho; simpa using ho
    by_cases h2 : op = 11 ∨ op = 12
    · by_cases hz : s.R b = 0
      · rw [ansB_no h2 hz]
        refine (comb_zero h.core hD op imm d a b hd hA hB h2 hz).mono ?_
        rintro e w' ⟨he, hc, ht⟩
        exact MachOut.of_core h _ he hc ht
      · rw [ansB_yes (.inr hz)]
        refine (comb_unless h.core hD op imm d a b hd hA hB h2 hz).mono ?_
        rintro e w' ⟨he, hc, ht⟩
        exact MachOut.of_core h _ he hc ht
    · rw [ansB_yes (.inl h2)]
      refine (comb_always h.core hD op imm d a b hd hA hB (by omega)).mono ?_
      rintro e w' ⟨he, hc, ht⟩
      exact MachOut.of_core h _ he hc ht
  · have ho : isAns op = false := by simpa using ho
    rw [ho]
    refine (comb_none h.core hD op d a b imm ho hw).mono ?_
    rintro e w' ⟨he, hc, ht⟩
    exact MachOut.of_core h _ he hc ht

/-! ### fill, store -/
theorem stp_eta (w : World) (L : Lay8) (r : St8 × Mem8 × Stop8) {e : Ending} (he : e = .returned (stp8 r.2.2.kind r.2.2.call r.2.2.at' r.2.2.need r.2.2.used)) : e = .returned (stp8 r.2.2.kind r.2.2.call r.2.2.at' r.2.2.need r.2.2.used) := he
theorem fill_any {w : World} {L : Lay8} {s : St8} {m : Mem8} (h : Mach w L s m) (x : Int) (d n : Nat) (hd : d < 16) (hn : n = 1 ∨ n = 4) (h0 : 0 ≤ x) (h1 : x < 4294967296) :
    Calls Try.prog 61 #[.pointer (some ⟨L.C, 0, none⟩), .pointer (some ⟨L.C, d, none⟩), .int .u32 x, .int .i64 n] w (MachOut L (fillT s m d x n) w) := by
  unfold fillT
  by_cases hm : (mayT m 1 n x).2 = true
  · rw [if_pos hm]
    rcases hn with rfl | rfl
    · refine (fill_one8 h.flat h.core x d hd h0 h1 hm).mono ?_
      rintro e w' ⟨he, hc, ht⟩
      exact MachOut.of_core h goOn he hc ht
    · refine (fill_four8 h.flat h.core x d hd h0 h1 hm).mono ?_
      rintro e w' ⟨he, hc, ht⟩
      exact MachOut.of_core h goOn he hc ht
  · have hm : (mayT m 1 n x).2 = false := by simpa using hm
    rw [hm]
    refine (fill_no8 h.flat h.core x d n hd h0 h1 (by omega) hm).mono ?_
    rintro e w' ⟨he, hb⟩
    exact MachOut.of_below h (fault8 (mayT m 1 n x).1 1) he hb
theorem put_all {w : World} {L : Lay8} {s : St8} {m : Mem8} (h : Mach w L s m) (v x : Int) (n : Nat) (hn : n = 1 ∨ n = 4) (v0 : 0 ≤ v) (v1 : v < 4294967296) (h0 : 0 ≤ x) (h1 : x < 4294967296) :
    Calls Try.prog 62 #[.pointer (some ⟨L.C, 0, none⟩), .int .u32 v, .int .u32 x, .int .i64 n] w (MachOut L (putT s m v x n) w) := by
  unfold putT
  by_cases hm : (mayT m 2 n x).2 = true
  · rw [if_pos hm]
    refine (put_any8 h.flat h.core h.cb v x n (by omega) (by omega) v0 v1 h0 h1 hm).mono ?_
    rintro e w' ⟨he, hc, hf, ht⟩
    exact MachOut.of_flat h goOn he hc hf ht
  · have hm : (mayT m 2 n x).2 = false := by simpa using hm
    rw [hm]
    refine (put_no8 h.flat h.core v x n (by omega) (by omega) v0 v1 h0 h1 hm).mono ?_
    rintro e w' ⟨he, hb⟩
    exact MachOut.of_below h (fault8 (mayT m 2 n x).1 2) he hb
end Go.Proofs.Ytknepljmbpdpkaa
