/- What stands behind a page is taken away: lift. -/
import Derived.Test.YtgkfejnjjoaihaaDoorPgE
namespace Go.Proofs.YtgkfejnjjoaihaaDoor
open Go.RowKit Go.ChangeMaps
open Go.Maps (Keyed)

theorem mask_lift {T : Tb} {s p : Nat} {f : Int} (hp : p < 32) : mask (setT T s p nilE) f s = mask T f s &&& (4294967295 - 2 ^ p) := by
  apply Nat.eq_of_testBit_eq
  intro i
  rw [mask_bit, Nat.testBit_and, mask_bit]
  have h1 : (4294967295 - 2 ^ p).testBit i = (decide (i < 32) && decide (i ≠ p)) := by
    have := Nat.testBit_two_pow_sub_succ (n := 32) (x := 2 ^ p) (Nat.pow_lt_pow_right (by decide) hp) i
    rw [show 2 ^ 32 - (2 ^ p + 1) = 4294967295 - 2 ^ p by omega] at this
    rw [this, Nat.testBit_two_pow]
    by_cases h : i = p
    · subst h; simp
    · simp [Ne.symm h, h]
  rw [h1]
  unfold hitB
  by_cases h : i = p
  · subst h; rw [setT_same]; simp [nilE]
  · rw [setT_other T s p nilE s i (Or.inr h)]; simp [h]; intro hx _ _; exact hx
theorem MapIs.lift {D : DataW Unit} {T : Tb} (h : MapIs D T) (hD : Maps.IsMap D) {s p : Nat} (hs : s < 16) (hp : p < 32) (hi : (T s p).is = true) (hf : (Lit.int .i64 (T s p).fr).wf = true) :
    MapIs (D.put (keyK (T s p).fr s) (.lit (.int .u32 ((mask T (T s p).fr s &&& (4294967295 - 2 ^ p) : Nat) : Int)))) (setT T s p nilE) := fun f' s' hf' hs' => by
  by_cases hk : keyK f' s' = keyK (T s p).fr s
  · obtain ⟨rfl, rfl⟩ := key_inj hf' hf hs' hs hk
    rw [Maps.atKey_put_same hD (Tryd.kStand.key (key_of _ _ hf (wf_nat (by omega)))), mask_lift hp]
  · rw [Maps.atKey_put_other hk, h f' s' hf' hs', mask_ext]
    intro q hq
    unfold hitB
    by_cases c : s' = s ∧ q = p
    · obtain ⟨rfl, rfl⟩ := c
      rw [setT_same]
      have : f' ≠ (T s' q).fr := fun e1 => hk (by rw [e1])
      simp [Ne.symm this, nilE]
    · rw [setT_other T s p nilE s' q (by omega)]
theorem MapIs.gone {D : DataW Unit} {T : Tb} (h : MapIs D T) {f : Int} {s : Nat} (hs : s < 16) (hf : (Lit.int .i64 f).wf = true) (hm : mask T f s = 0) : MapIs (D.del (keyK f s)) T := fun f' s' hf' hs' => by
  by_cases hk : keyK f' s' = keyK f s
  · obtain ⟨rfl, rfl⟩ := key_inj hf' hf hs' hs hk
    rw [Maps.atKey_del_same, hm]; rfl
  · rw [Maps.atKey_del_other hk, h f' s' hf' hs']
theorem andNot_bits {m p : Nat} (hm : m < 4294967296) (hp : p < 32) : bits .andNot .u32 (m : Int) ((2 : Int) ^ p % 4294967296) = ((m &&& (4294967295 - 2 ^ p) : Nat) : Int) := by
  have h1 : (2 : Nat) ^ p < 4294967296 := Nat.pow_lt_pow_right (n := 32) (by decide) hp
  have e : ((2 : Int) ^ p) = ((2 ^ p : Nat) : Int) := by simp
  rw [e, show ((2 ^ p : Nat) : Int) % 4294967296 = ((2 ^ p : Nat) : Int) by generalize (2 : Nat) ^ p = q at *; omega, u32_andNot_nat _ _ hm h1]

theorem three_alloc (V : World) (A B C : Obj) : (((V.alloc A).alloc B).alloc C).heap[V.heap.size]? = some A ∧ (((V.alloc A).alloc B).alloc C).heap[V.heap.size + 1]? = some B ∧ (((V.alloc A).alloc B).alloc C).heap[V.heap.size + 1 + 1]? = some C ∧
    (((V.alloc A).alloc B).alloc C).heap.size = V.heap.size + 1 + 1 + 1 ∧ Below V.heap.size V (((V.alloc A).alloc B).alloc C) := by
  refine ⟨?_, ?_, ?_, by simp, (((Below.refl _ V).alloc (Nat.le_refl _) _).alloc (by simp) _).alloc (by simp; omega) _⟩
  · rw [heap_alloc_old _ _ (by simp; omega), heap_alloc_old _ _ (by simp), heap_alloc_new]
  · rw [heap_alloc_old _ _ (by simp)]
    have := heap_alloc_new (V.alloc A) B
    rw [World.size_alloc] at this
    exact this
  · have := heap_alloc_new ((V.alloc A).alloc B) C
    simp only [World.size_alloc] at this
    exact this
theorem two_of {w : World} {n : Nat} {a b : Value} {ty : Nat} (h : w.heap[n]? = some (.cells #[a, b] ty (0, 0))) :
    (w.cell? ⟨n, 0, none⟩ = some a ∧ w.cell? ⟨n, 1, none⟩ = some b) ∧ (∀ o, w.frozen? ⟨n, o, none⟩ = false) ∧ n < w.heap.size := by
  refine ⟨⟨?_, ?_⟩, fun o => frozen_of_row _ _ _ _ _ h, (Array.getElem?_eq_some_iff.1 h).1⟩ <;> (rw [cell_of_row _ _ _ _ _ _ h]; rfl)

theorem put4 {w : World} {n ty : Nat} {a b c d : Value} (a' b' c' d' : Value) (h : w.heap[n]? = some (.cells #[a, b, c, d] ty (0, 0))) :
    ((((w.setCell ⟨n, 0, none⟩ a').setCell ⟨n, 1, none⟩ b').setCell ⟨n, 2, none⟩ c').setCell ⟨n, 3, none⟩ d').heap[n]? = some (.cells #[a', b', c', d'] ty (0, 0)) := by
  have h1 := heap_setCell_same w n 0 _ _ a' h
  have h2 := heap_setCell_same _ n 1 _ _ b' h1
  have h3 := heap_setCell_same _ n 2 _ _ c' h2
  exact heap_setCell_same _ n 3 _ _ d' h3
theorem Turned.fresh {w W : World} {gs : List Nat} (h : Turned w W gs) {n o : Nat} (hn : w.heap.size ≤ n) (v : Value) : Turned w (W.setCell ⟨n, o, none⟩ v) gs :=
  ⟨h.os, h.tape, h.output, by have := h.size; simpa [World.setCell] using this, fun k hk hg => (Below.heap_setCell _ _ _ _ (show k ≠ n by omega)).trans (h.block k hk hg)⟩
theorem PT.fresh {w : World} {t b N : Nat} {T : Tb} (h : PT w t b N T) {n o : Nat} (ht : t ≠ n) (hb : b ≠ n) (v : Value) : PT (w.setCell ⟨n, o, none⟩ v) t b N T :=
  h.keep (Below.heap_setCell _ _ _ _ ht) (Below.heap_setCell _ _ _ _ hb)

set_option maxRecDepth 100000 in
set_option maxHeartbeats 1000000 in
theorem lift_walk {w : World} {t b N : Nat} {T : Tb} (h : PT w t b N T) (hN : N < maxLen) (s p : Nat) (hs : s < 16) (hp : p < 32) (hi : (T s p).is = true) :
    Calls Tryd.prog 58 #[.pointer (some ⟨t, 0, none⟩), .int .i64 s, .int .i64 p] w fun e w' => e = .returned (entV (T s p)) ∧ PT w' t b (N + 1) (setT T s p nilE) ∧ Turned w w' [t, b] := by
  have hlt := h.ht
  have c0 := h.c0 s p hs hp
  have c1 := h.c1 s p hs hp
  have c2 := h.c2 s p hs hp
  have c3 := h.c3 s p hs hp
  have c4 := h.c4 s p hs hp
  have fz := h.row.fz
  have H := Lib.hid h
  have HI := Lib.hid hi
  have HN := Lib.hid hN
  have HOK := Lib.hid (h.ok.ok s p)
  obtain ⟨E, hE⟩ : ∃ E, T s p = E := ⟨_, rfl⟩
  have HE := Lib.hid hE
  rw [hE] at c0 c1 c2 c3 c4 ⊢
  clear h hi hN hE
  go_enter Tryd.func58, Tryd.ntmps58
  go_wp2_with fail
  clear c0 c1 c2 c3 c4 fz
  have hrow := H.out.row.put s p hs hp nilE
  have htu := put_turned w t s p (.int .i64 0) (.int .i64 0) (.bool false) (.bool false) (.bool false) [t, b] (by simp)
  have hoth := put_other w t b s p (.int .i64 0) (.int .i64 0) (.bool false) (.bool false) (.bool false) H.out.ne.symm
  unfold nilE at hrow
  dsimp only at hrow
  generalize hV : (((((w.setCell ⟨t, s * 160 + p * 5, none⟩ (.int .i64 0)).setCell ⟨t, s * 160 + p * 5 + 1, none⟩ (.int .i64 0)).setCell ⟨t, s * 160 + p * 5 + 2, none⟩ (.bool false)).setCell ⟨t, s * 160 + p * 5 + 3, none⟩ (.bool false)).setCell ⟨t, s * 160 + p * 5 + 4, none⟩ (.bool false)) = V at hrow htu hoth ⊢
  have hVs : V.heap.size = w.heap.size := by rw [← hV]; simp [World.setCell]
  have hbl := H.out.hb
  have hne := H.out.ne
  obtain ⟨r0, r1, r2, hsz, hBel⟩ := three_alloc V (.cells #[.int .i64 0, .int .i64 0, .bool false, .bool false] 38) (.cells #[.int .i64 E.fr, .int .i64 E.ri, .bool E.tc, .bool E.wr] 38) (.cells #[.int .i64 E.fr, .int .i64 s] 92)
  rw [hVs] at r0 r1 r2 hsz hBel
  have hrow := hrow.keep (hBel.block t hlt)
  have hoth := (hBel.block b hbl).trans hoth
  have htu := htu.trans (Turned.of_below [t, b] (by rw [hVs]; exact hBel))
  clear hV hVs hBel
  generalize hW : (((V.alloc (.cells #[.int .i64 0, .int .i64 0, .bool false, .bool false] 38)).alloc (.cells #[.int .i64 E.fr, .int .i64 E.ri, .bool E.tc, .bool E.wr] 38)).alloc (.cells #[.int .i64 E.fr, .int .i64 s] 92)) = W at hrow hoth htu r0 r1 r2 hsz ⊢
  clear hW
  generalize hn : w.heap.size = n at *
  obtain ⟨D, hown, hD⟩ := H.out.map
  have HF := Lib.hid (show (Lit.int .i64 E.fr).wf = true by
    have h0 := HOK.out.f0; have h1 := HOK.out.f1; rw [HE.out] at h0 h1
    simp [Lit.wf]; exact ⟨by show (-9223372036854775808 : Int) ≤ _; omega, by omega⟩)
  have hownW : W.drew.ownsMap Tryd.prog 92 (plainElem Tryd.prog 30) b N D := ownsMap_eq hown hoth
  have tm : W.cell? ⟨t, 2560, none⟩ = some (.map (some b)) := hrow.tail 0
  have hlt' := hrow.lt
  obtain ⟨m, hm⟩ : ∃ m, mask T E.fr s = m := ⟨_, rfl⟩
  have hDm := hD E.fr s HF.out hs
  rw [hm] at hDm
  have hl := look_map hownW HF.out hs hDm
  obtain ⟨v0, st, W1, he, hm1, ⟨D1, hown1, hat1⟩, hst⟩ := op_assign hownW Tryd.lawStand Tryd.underlying62 Tryd.zU32 rd_zero HN.out (key_of E.fr s HF.out (wf_nat (by omega)))
  have hl1 := look_map hown1 HF.out hs (m := m) (by rw [hat1]; exact hDm)
  have hmlt : m < 4294967296 := by rw [← hm]; exact mask_lt _ _ _
  have hob := andNot_bits hmlt hp
  have hol : m &&& (4294967295 - 2 ^ p) < 4294967296 := Nat.lt_of_le_of_lt Nat.and_le_left hmlt
  have hmap := hD.lift hown.isMap hs hp HI.out (by rw [HE.out]; exact HF.out)
  rw [HE.out, hm] at hmap
  have hmk : mask (setT T s p nilE) E.fr s = m &&& (4294967295 - 2 ^ p) := by rw [mask_lift hp, hm]
  obtain ⟨m', hm'⟩ : ∃ m', m &&& (4294967295 - 2 ^ p) = m' := ⟨_, rfl⟩
  rw [hm'] at hob hol hmap hmk
  have HMap := Lib.hid hmap
  have HMk := Lib.hid hmk
  obtain ⟨W2, hs2, hown2, hm2⟩ := hst (.int .u32 (m' : Int)) _ _ (rd_u32 hol)
  have HRow := Lib.hid hrow
  have HTu := Lib.hid htu
  have HO2 := Lib.hid hown2
  have HM2 := Lib.hid hm2
  have R0 := Lib.hid r0
  have R1 := Lib.hid r1
  have R2 := Lib.hid r2
  have HSZ := Lib.hid hsz
  have HN' := Lib.hid hn
  obtain ⟨⟨e0, e1⟩, -, hl2⟩ := two_of r2
  clear hst hD hrow htu hoth hown2 hm2 hown hownW hDm hown1 hat1 hm1 hm hm' hmap hmk r0 r1 r2 hsz hn hbl
  unfold keyV goInt at *
  go_region
  clear hl he hl1 hs2 hob hol e0 e1 hl2 tm hlt'
  have hg := HM2.out.grown
  have tb : t < W.heap.size := HRow.out.lt
  have hnn := HN'.out
  have hsz := HSZ.out
  have hbl := H.out.hb
  have htl := H.out.ht
  have hne := H.out.ne
  have r0 : W2.heap[n]? = _ := (hg.block n (by show n < W.heap.size; omega) (by intro e; have := Option.some.inj e; omega)).trans R0.out
  have r1 : W2.heap[n + 1]? = _ := (hg.block (n + 1) (by show n + 1 < W.heap.size; omega) (by intro e; have := Option.some.inj e; omega)).trans R1.out
  have r2 : W2.heap[n + 1 + 1]? = _ := (hg.block (n + 1 + 1) (by show n + 1 + 1 < W.heap.size; omega) (by intro e; have := Option.some.inj e; omega)).trans R2.out
  have hrow := HRow.out.keep (w' := W2) (hg.block t tb (by simpa using hne))
  have htu := HTu.out.trans (w2 := W2) (Turned.of_grown (by simp) ⟨hg.os, hg.tape, hg.output, hg.size, hg.block⟩)
  have hown2 : W2.drew.ownsMap Tryd.prog 92 (plainElem Tryd.prog 30) b (N + 1) _ := ownsMap_eq HO2.out rfl
  have hl := look_map hown2 HF.out hs (m := m') (by rw [HMap.out E.fr s HF.out hs, HMk.out])
  have tm : W2.cell? ⟨t, 2560, none⟩ = some (.map (some b)) := hrow.tail 0
  have hlt' := hrow.lt
  obtain ⟨⟨e0, e1⟩, -, hl2⟩ := two_of r2
  have hmap : ∃ D : DataW Unit, W2.ownsMap Tryd.prog 92 (plainElem Tryd.prog 30) b (N + 1) D ∧ MapIs D (setT T s p nilE) := ⟨_, HO2.out, HMap.out⟩
  have hpt : PT W2 t b (N + 1) (setT T s p nilE) := ⟨H.out.ok.set hs hp nilE_ok, hrow, hmap⟩
  have HP := Lib.hid hpt
  have HTu2 := Lib.hid htu
  have R0' := Lib.hid r0
  have R1' := Lib.hid r1
  have R2' := Lib.hid r2
  have HS2 := Lib.hid (show n + 1 + 1 < W2.heap.size from hl2)
  clear hpt hmap htu hrow hg hnn hsz hbl htl hne r0 r1 r2 HO2 HM2 tb hown2
  by_cases hm0 : m' = 0
  · subst hm0
    have hown3 : W2.drew.drew.ownsMap Tryd.prog 92 (plainElem Tryd.prog 30) b (N + 1) _ := HP.out.map.choose_spec.1
    obtain ⟨W3, hdel, hown4, hm4⟩ := hown3.drop Tryd.kStand Tryd.underlying62 (key_of E.fr s HF.out (wf_nat (by omega))) 0
    have HM := Lib.hid (HP.out.map.choose_spec.2.gone (f := E.fr) (s := s) hs HF.out HMk.out)
    have HO4 := Lib.hid hown4
    have HM4 := Lib.hid hm4
    clear hown3 hown4 hm4
    unfold keyV at hdel
    have hg := HM4.out.grown
    have hP := HP.out
    have hnb : n ≠ b := by have := H.out.hb; have := HN'.out; omega
    have hnb1 : n + 1 ≠ b := by have := H.out.hb; have := HN'.out; omega
    have s2 := HS2.out
    have r0 : W3.heap[n]? = _ := (hg.block n (by show n < W2.heap.size; omega) (by simpa using hnb)).trans R0'.out
    have r1 : W3.heap[n + 1]? = _ := (hg.block (n + 1) (by show n + 1 < W2.heap.size; omega) (by simpa using hnb1)).trans R1'.out
    have hpt : PT W3 t b (N + 1) (setT T s p nilE) := ⟨hP.ok, hP.row.keep (hg.block t hP.ht (by simpa using hP.ne)), _, HO4.out, HM.out⟩
    have htu := HTu2.out.trans (w2 := W3) (Turned.of_grown (by simp) ⟨hg.os, hg.tape, hg.output, hg.size, hg.block⟩)
    have HPT := Lib.hid hpt
    have HTU := Lib.hid htu
    obtain ⟨⟨a0, a1, a2, a3⟩, af, al⟩ := four_of r0
    obtain ⟨⟨b0, b1, b2, b3⟩, bf, bl⟩ := four_of r1
    have HR0 := Lib.hid r0
    clear hpt htu r0 r1 hg hP s2
    go_wp2_with (go_region)
    obtain ⟨⟨z0, z1, z2, z3⟩, -, -⟩ := four_of (put4 (.int .i64 E.fr) (.int .i64 E.ri) (.bool E.tc) (.bool E.wr) HR0.out)
    have hnn := HN'.out
    have h1 := H.out.ht
    have h2 := H.out.hb
    refine bodyPost_ret (v := entV E) (by simp [results, Tryd.results58, go_sem, entV, z0, z1, z2, z3]) rfl ⟨rfl, ?_, ?_⟩
    · exact (((HPT.out.fresh (by omega) (by omega) _).fresh (by omega) (by omega) _).fresh (by omega) (by omega) _).fresh (by omega) (by omega) _
    · exact (((HTU.out.fresh (by omega) _).fresh (by omega) _).fresh (by omega) _).fresh (by omega) _
  · have hm0' : ((m' : Int) == 0) = false := by simp; omega
    obtain ⟨⟨a0, a1, a2, a3⟩, af, al⟩ := four_of R0'.out
    obtain ⟨⟨b0, b1, b2, b3⟩, bf, bl⟩ := four_of R1'.out
    go_wp2_with (go_region)
    obtain ⟨⟨z0, z1, z2, z3⟩, -, -⟩ := four_of (put4 (w := W2) (.int .i64 E.fr) (.int .i64 E.ri) (.bool E.tc) (.bool E.wr) R0'.out)
    have hnn := HN'.out
    have h1 := H.out.ht
    have h2 := H.out.hb
    have hP := HP.out
    have hT := HTu2.out
    refine bodyPost_ret (v := entV E) (by simp [results, Tryd.results58, go_sem, entV, z0, z1, z2, z3]) rfl ⟨rfl, ?_, ?_⟩
    · exact ((((hP.fresh (by omega) (by omega) _).fresh (by omega) (by omega) _).fresh (by omega) (by omega) _).fresh (by omega) (by omega) _).keep rfl rfl
    · exact ((((hT.fresh (by omega) _).fresh (by omega) _).fresh (by omega) _).fresh (by omega) _).trans (Turned.of_below _ ((Below.refl _ _).drew))
end Go.Proofs.YtgkfejnjjoaihaaDoor
