/- A frame is laid behind a page: lay. -/
import Derived.Test.YtgkfejnjjoaihaaDoorPgD
import Derived.Deep.DeepCutAuto
import Derived.Deep.CutRange
import Derived.Deep.CutBlock
namespace Go.Proofs.YtgkfejnjjoaihaaDoor
open Go.RowKit Go.ChangeMaps
open Go.Maps (Keyed)

theorem Tryd.zU32 (w : World) : (zeroValue 30).run Tryd.prog w = .ok (.int .u32 0) w := by kernel_rfl
theorem wf_u32 {n : Nat} (h : n < 4294967296) : (Lit.int .u32 (n : Int)).wf = true := by simp [Lit.wf]; exact ⟨by show (0 : Int) ≤ _; omega, by show (n : Int) ≤ 4294967295; omega⟩
theorem rd_u32 {n : Nat} (h : n < 4294967296) : plainElem (H := Unit) Tryd.prog 30 (.int .u32 (n : Int)) = some (.lit (.int .u32 (n : Int)), []) := plainElem_int Tryd.underlying30 (wf_u32 h)
theorem rd_zero : plainElem (H := Unit) Tryd.prog 30 (.int .u32 0) = some (.lit (.int .u32 0), []) := rd_u32 (n := 0) (by decide)
theorem rd_is {v : Value} {n : Nat} {ps : List MemPlace} (h : plainElem (H := Unit) Tryd.prog 30 v = some (.lit (.int .u32 (n : Int)), ps)) : v = .int .u32 n := by
  obtain ⟨a, rfl, e, -⟩ := plainElem_int_inv Tryd.underlying30 h
  simp at e
  rw [e.1]

section
variable {w : World} {b n : Nat} {D : DataW Unit} {f : Int} {s : Nat}
/-- What is looked up. -/
theorem look_map (h : w.ownsMap Tryd.prog 92 (plainElem Tryd.prog 30) b n D) (hf : (Lit.int .i64 f).wf = true) (hs : s < 16) {m : Nat} (hm : D.atKey (keyK f s) (.lit (.int .u32 0)) = .lit (.int .u32 (m : Int))) :
    (Instr.lookup 62 (.map (some b)) (.agg #[.int .i64 f, .int .i64 s]) false).run Tryd.prog w = .ok (.int .u32 (m : Int)) w := by
  obtain ⟨v, ps, hrun, hv⟩ := h.lookup Tryd.kStand Tryd.underlying62 (Tryd.zU32 w) (zd := .lit (.int .u32 0)) (zp := []) (rd_u32 (n := 0) (by decide)) (key_of f s hf (wf_nat (by omega)))
  rw [hm] at hv
  obtain rfl := rd_is hv
  exact hrun
end

/-- A slot was written. -/
theorem RowIs.put {w : World} {g ty : Nat} {tl : List Value} {T : Tb} (h : RowIs cvP w g ty tl T) (s p : Nat) (hs : s < 16) (hp : p < 32) (e : Ent) :
    RowIs cvP (((((w.setCell ⟨g, s * 160 + p * 5, none⟩ (.int .i64 e.fr)).setCell ⟨g, s * 160 + p * 5 + 1, none⟩ (.int .i64 e.ri)).setCell ⟨g, s * 160 + p * 5 + 2, none⟩ (.bool e.tc)).setCell ⟨g, s * 160 + p * 5 + 3, none⟩ (.bool e.wr)).setCell ⟨g, s * 160 + p * 5 + 4, none⟩ (.bool e.is)) g ty tl (setT T s p e) := by
  have h0 := h.set s p 0 hs hp (by omega) { T s p with fr := e.fr } _ rfl (fun m' _ h2 => by unfold cvP; simp [h2])
  have h1 := h0.set s p 1 hs hp (by omega) { T s p with fr := e.fr, ri := e.ri } _ rfl (fun m' _ h2 => by rw [setT_same]; unfold cvP; simp [h2])
  have h2 := h1.set s p 2 hs hp (by omega) { T s p with fr := e.fr, ri := e.ri, tc := e.tc } _ rfl (fun m' _ h2 => by rw [setT_same]; unfold cvP; simp [h2])
  have h3 := h2.set s p 3 hs hp (by omega) { T s p with fr := e.fr, ri := e.ri, tc := e.tc, wr := e.wr } _ rfl (fun m' _ h2 => by rw [setT_same]; unfold cvP; simp [h2])
  have h4 := h3.set s p 4 hs hp (by omega) e _ rfl (fun m' h1 h2 => by rw [setT_same]; unfold cvP; simp only [show ∀ a : Nat, a = m' → (a = 0 ∨ a = 1 ∨ a = 2 ∨ a = 3) from fun a ha => by omega]; rcases (show m' = 0 ∨ m' = 1 ∨ m' = 2 ∨ m' = 3 by omega) with rfl | rfl | rfl | rfl <;> rfl)
  simp only [setT_setT] at h4
  exact h4
theorem put_turned (w : World) (g s p : Nat) (a b c d e : Value) (gs : List Nat) (hg : g ∈ gs) :
    Turned w (((((w.setCell ⟨g, s * 160 + p * 5, none⟩ a).setCell ⟨g, s * 160 + p * 5 + 1, none⟩ b).setCell ⟨g, s * 160 + p * 5 + 2, none⟩ c).setCell ⟨g, s * 160 + p * 5 + 3, none⟩ d).setCell ⟨g, s * 160 + p * 5 + 4, none⟩ e) gs :=
  ((((Turned.of_set hg _).trans (Turned.of_set hg _)).trans (Turned.of_set hg _)).trans (Turned.of_set hg _)).trans (Turned.of_set hg _)
theorem put_other (w : World) (g k s p : Nat) (a b c d e : Value) (hk : k ≠ g) :
    (((((w.setCell ⟨g, s * 160 + p * 5, none⟩ a).setCell ⟨g, s * 160 + p * 5 + 1, none⟩ b).setCell ⟨g, s * 160 + p * 5 + 2, none⟩ c).setCell ⟨g, s * 160 + p * 5 + 3, none⟩ d).setCell ⟨g, s * 160 + p * 5 + 4, none⟩ e).heap[k]? = w.heap[k]? := by
  rw [heap_setCell_other _ _ _ _ hk, heap_setCell_other _ _ _ _ hk, heap_setCell_other _ _ _ _ hk, heap_setCell_other _ _ _ _ hk, heap_setCell_other _ _ _ _ hk]

/-- A frame that is laid: the mask. -/
theorem shl_one {p : Nat} (hp : p < 32) : IntKind.u32.wrap (1 * 2 ^ p) = ((2 ^ p : Nat) : Int) := by
  have h1 : (2 : Nat) ^ p < 2 ^ 32 := Nat.pow_lt_pow_right (by decide) hp
  obtain ⟨q, hq⟩ : ∃ q : Nat, 2 ^ p = q := ⟨_, rfl⟩
  have e : ((2 : Int) ^ p) = (q : Int) := by rw [← hq]; simp
  rw [hq] at h1 ⊢
  simp [IntKind.wrap, IntKind.signed, IntKind.bits]
  rw [e]
  omega

theorem key_inj {f f' : Int} {s s' : Nat} (hf : (Lit.int .i64 f).wf = true) (hf' : (Lit.int .i64 f').wf = true) (hs : s < 16) (hs' : s' < 16) (h : keyK f s = keyK f' s') : f = f' ∧ s = s' := by
  have e := Tryd.kStand.inj (key_of f s hf (wf_nat (by omega))) (h ▸ key_of f' s' hf' (wf_nat (by omega)))
  simp [keyV] at e
  exact ⟨e.1, by omega⟩
theorem mask_ext {T T' : Tb} {f f' : Int} {s s' : Nat} (h : ∀ p, p < 32 → hitB T' f' s' p = hitB T f s p) : mask T' f' s' = mask T f s := by
  apply Nat.eq_of_testBit_eq
  intro i
  rw [mask_bit, mask_bit]
  by_cases hi : i < 32
  · rw [h i hi]
  · simp [hi]
theorem mask_lay {T : Tb} {s p : Nat} {e : Ent} (hp : p < 32) (he : e.is = true) : mask (setT T s p e) e.fr s = mask T e.fr s ||| 2 ^ p := by
  apply Nat.eq_of_testBit_eq
  intro i
  rw [mask_bit, Nat.testBit_or, mask_bit, Nat.testBit_two_pow]
  unfold hitB
  by_cases h : i = p
  · subst h; rw [setT_same, he]; simp [hp]
  · rw [setT_other T s p e s i (Or.inr h)]; simp [Ne.symm h]
theorem MapIs.lay {D : DataW Unit} {T : Tb} (h : MapIs D T) (hD : Maps.IsMap D) {s p : Nat} {e : Ent} (hs : s < 16) (hp : p < 32) (hn : (T s p).is = false) (he : e.is = true) (hf : (Lit.int .i64 e.fr).wf = true) :
    MapIs (D.put (keyK e.fr s) (.lit (.int .u32 ((mask T e.fr s ||| 2 ^ p : Nat) : Int)))) (setT T s p e) := fun f' s' hf' hs' => by
  by_cases hk : keyK f' s' = keyK e.fr s
  · obtain ⟨rfl, rfl⟩ := key_inj hf' hf hs' hs hk
    rw [Maps.atKey_put_same hD (Tryd.kStand.key (key_of _ _ hf (wf_nat (by omega)))), mask_lay hp he]
  · rw [Maps.atKey_put_other hk, h f' s' hf' hs', mask_ext]
    intro q hq
    unfold hitB
    by_cases c : s' = s ∧ q = p
    · obtain ⟨rfl, rfl⟩ := c
      rw [setT_same, hn, he]
      have : f' ≠ e.fr := fun e1 => hk (by rw [e1])
      simp [Ne.symm this]
    · rw [setT_other T s p e s' q (by omega)]
theorem or_lt {m p : Nat} (hm : m < 4294967296) (hp : p < 32) : m ||| 2 ^ p < 4294967296 := Nat.or_lt_two_pow (n := 32) hm (Nat.pow_lt_pow_right (by decide) hp)
theorem or_bits {m p : Nat} (hm : m < 4294967296) (hp : p < 32) : bits .or .u32 (m : Int) ((2 : Int) ^ p % 4294967296) = ((m ||| 2 ^ p : Nat) : Int) := by
  have h1 : (2 : Nat) ^ p < 4294967296 := Nat.pow_lt_pow_right (n := 32) (by decide) hp
  have e : ((2 : Int) ^ p) = ((2 ^ p : Nat) : Int) := by simp
  rw [e, show ((2 ^ p : Nat) : Int) % 4294967296 = ((2 ^ p : Nat) : Int) by generalize (2 : Nat) ^ p = q at *; omega, u32_or_nat _ _ hm h1]

set_option maxRecDepth 100000 in
set_option maxHeartbeats 1000000 in
theorem lay_walk {w : World} {t b N : Nat} {T : Tb} (h : PT w t b N T) (hN : N < maxLen) (s p : Nat) (f r : Int) (hs : s < 16) (hp : p < 32) (hf : 0 ≤ f ∧ f < 256) (hr : 0 ≤ r ∧ r < 8) (hi : (T s p).is = false) :
    Calls Tryd.prog 52 #[.pointer (some ⟨t, 0, none⟩), .int .i64 s, .int .i64 p, .int .i64 f, .int .i64 r] w fun e w' => e = .returned (.tuple #[]) ∧ PT w' t b (N + 1) (setT T s p ⟨f, r, false, false, true⟩) ∧ Turned w w' [t, b] := by
  have hlt := h.ht
  have c0 := h.c0 s p hs hp
  have c1 := h.c1 s p hs hp
  have c2 := h.c2 s p hs hp
  have c3 := h.c3 s p hs hp
  have c4 := h.c4 s p hs hp
  have fz := h.row.fz
  have H := Lib.hid h
  have HI := Lib.hid hi
  have HN := Lib.hid hN
  have HF := Lib.hid (show (Lit.int .i64 f).wf = true by simp [Lit.wf]; exact ⟨by show (-9223372036854775808 : Int) ≤ _; omega, by omega⟩)
  clear h hi hN
  go_enter Tryd.func52, Tryd.ntmps52
  go_wp2_with fail
  clear c0 c1 c2 c3 c4 fz hlt
  have hrow := H.out.row.put s p hs hp ⟨f, r, false, false, true⟩
  have htu := put_turned w t s p (.int .i64 f) (.int .i64 r) (.bool false) (.bool false) (.bool true) [t, b] (by simp)
  have hoth := put_other w t b s p (.int .i64 f) (.int .i64 r) (.bool false) (.bool false) (.bool true) H.out.ne.symm
  dsimp only at hrow
  generalize (((((w.setCell ⟨t, s * 160 + p * 5, none⟩ (.int .i64 f)).setCell ⟨t, s * 160 + p * 5 + 1, none⟩ (.int .i64 r)).setCell ⟨t, s * 160 + p * 5 + 2, none⟩ (.bool false)).setCell ⟨t, s * 160 + p * 5 + 3, none⟩ (.bool false)).setCell ⟨t, s * 160 + p * 5 + 4, none⟩ (.bool true)) = W at hrow htu hoth ⊢
  obtain ⟨D, hown, hD⟩ := H.out.map
  have hownW : W.drew.ownsMap Tryd.prog 92 (plainElem Tryd.prog 30) b N D := ownsMap_eq hown hoth
  have tm : W.cell? ⟨t, 2560, none⟩ = some (.map (some b)) := hrow.tail 0
  have hlt := hrow.lt
  obtain ⟨m, hm⟩ : ∃ m, mask T f s = m := ⟨_, rfl⟩
  have hDm := hD f s HF.out hs
  rw [hm] at hDm
  have hl := look_map hownW HF.out hs hDm
  obtain ⟨v0, st, W1, he, hm1, ⟨D1, hown1, hat1⟩, hst⟩ := op_assign hownW Tryd.lawStand Tryd.underlying62 Tryd.zU32 rd_zero HN.out (key_of f s HF.out (wf_nat (by omega)))
  have hl1 := look_map hown1 HF.out hs (m := m) (by rw [hat1]; exact hDm)
  have hmlt : m < 4294967296 := by rw [← hm]; exact mask_lt _ _ _
  have hob := or_bits hmlt hp
  have hol := or_lt hmlt hp
  have HMap := Lib.hid (hD.lay hown.isMap (e := ⟨f, r, false, false, true⟩) hs hp HI.out rfl HF.out)
  have HMM := Lib.hid hm
  obtain ⟨m', hm'⟩ : ∃ m', m ||| 2 ^ p = m' := ⟨_, rfl⟩
  have HMM' := Lib.hid hm'
  rw [hm'] at hob hol
  obtain ⟨W2, hs2, hown2, hm2⟩ := hst (.int .u32 (m' : Int)) _ _ (rd_u32 hol)
  have HRow := Lib.hid hrow
  have HTu := Lib.hid htu
  have HO2 := Lib.hid hown2
  have HM2 := Lib.hid hm2
  clear hst hD hrow htu hoth hown2 hm2 hown hownW hDm hown1 hat1 hm1 hm hm'
  unfold keyV goInt at *
  go_region
  go_wp2_with fail
  go_end0
  have hg := HM2.out.grown
  have ne := H.out.ne
  refine ⟨rfl, ⟨H.out.ok.set hs hp ⟨hf.1, hf.2, hr.1, hr.2, fun h => by cases h⟩, HRow.out.keep ?_, _, HO2.out, ?_⟩, ?_⟩
  · exact hg.block t hlt (by simpa using ne)
  · have := HMap.out
    rw [HMM.out, HMM'.out] at this
    exact this
  · exact HTu.out.trans (Turned.of_grown (by simp) ⟨hg.os, hg.tape, hg.output, hg.size, hg.block⟩)
end Go.Proofs.YtgkfejnjjoaihaaDoor
