/- Ask in one contract; the map: what is looked up, or-ed in, taken out. -/
import Derived.Test.YtgkfejnjjoaihaaDoorPgC
namespace Go.Proofs.YtgkfejnjjoaihaaDoor
open Go.RowKit Go.ChangeMaps
open Go.Maps (Keyed)

set_option maxRecDepth 100000 in
set_option maxHeartbeats 1000000 in
theorem ask_bad {w : World} {t b N : Nat} {T : Tb} (h : PT w t b N T) (s : Int) (a : Nat) (r : Int) (hb : (spaceB s && rightB r) = false) :
    Calls Tryd.prog 19 #[.pointer (some ⟨t, 0, none⟩), .int .i64 s, .int .u32 a, .int .i64 r] w fun e w' => e = .returned (.tuple #[.int .i64 0, .int .i64 0, .int .i64 2]) ∧ w = w' := by
  have H := Lib.hid h
  clear h
  rcases hs : spaceB s with _ | _
  · clear hb
    go_enter Tryd.func19, Tryd.ntmps19
    go_wp2_with (first
      | (go_at_call 43; refine (there_any H.out).mono ?_; rintro e w' ⟨rfl, rfl⟩)
      | (go_at_call 46; refine (isSpace_any s _).mono ?_; rintro e w' ⟨rfl, rfl⟩))
    go_ret3
    exact ⟨rfl, rfl⟩
  · rw [hs] at hb
    have h1 : (r != 1) = true := by unfold rightB at hb; simp at hb; simp; omega
    have h2 : (r != 2) = true := by unfold rightB at hb; simp at hb; simp; omega
    have h4 : (r != 4) = true := by unfold rightB at hb; simp at hb; simp; omega
    clear hb
    go_enter Tryd.func19, Tryd.ntmps19
    go_wp2_with (first
      | (go_at_call 43; refine (there_any H.out).mono ?_; rintro e w' ⟨rfl, rfl⟩)
      | (go_at_call 46; refine (isSpace_any s _).mono ?_; rintro e w' ⟨rfl, rfl⟩))
    go_ret3
    exact ⟨rfl, rfl⟩
/-- Ask. -/
theorem ask_any {w : World} {t b N : Nat} {T : Tb} (h : PT w t b N T) (s : Int) (a : Nat) (r : Int) (ha : a < 4294967296) :
    Calls Tryd.prog 19 #[.pointer (some ⟨t, 0, none⟩), .int .i64 s, .int .u32 a, .int .i64 r] w fun e w' =>
      e = .returned (.tuple #[.int .i64 (askF T s a r), .int .i64 (askP T s a r), .int .i64 (askE T s a r)]) ∧ PT w' t b N (askT T s a r) ∧ Turned w w' [t] := by
  unfold askF askP askT
  cases hb : spaceB s && rightB r with
  | false =>
    have e : askE T s a r = 2 := by unfold askE; rw [hb]; rfl
    rw [e]
    refine (ask_bad h s a r hb).mono ?_
    rintro e w' ⟨rfl, rfl⟩
    exact ⟨rfl, h, Turned.refl _ _⟩
  | true =>
    have hs : spaceB s = true := by cases h1 : spaceB s <;> simp_all
    have hr : rightB r = true := by cases h1 : rightB r <;> simp_all
    by_cases hE : takE T s (a / 256 : Nat) = 0
    · obtain ⟨i, j, rfl, hj, h1, h2, h3⟩ := takE_yes hE
      obtain rfl : a / 256 = j := by omega
      by_cases hbits : bits .and .i64 (atT T i (a / 256 : Nat)).ri r = 0
      · have e : askE T i a r = 8 := by unfold askE; rw [hb, if_pos rfl, if_pos hE, if_pos hbits]
        rw [e]
        refine (ask_right h i a (a / 256) r ha h1 rfl h2 hr h3 hbits).mono ?_
        rintro e w' ⟨rfl, rfl⟩
        exact ⟨rfl, h, Turned.refl _ _⟩
      · have e : askE T i a r = 0 := by unfold askE; rw [hb, if_pos rfl, if_pos hE, if_neg hbits]
        rw [e, if_pos rfl, if_pos rfl, if_pos rfl]
        exact ask_yes h i a (a / 256) r ha h1 rfl h2 hr h3 (beq_eq_false_iff_ne.2 hbits)
    · have e : askE T s a r = 10 := by unfold askE; rw [hb, if_pos rfl, if_neg hE]
      rw [e]
      refine (ask_fault h s a r ha hs hr hE).mono ?_
      rintro e w' ⟨rfl, rfl⟩
      exact ⟨rfl, h, Turned.refl _ _⟩

/-! ### m[k] op= v, in the two operations that it is made of -/
theorem op_assign {P : Program} {k t e : TypeId} {R : Value → Option (DataW Unit × List MemPlace)} {w : World} {b n : Nat} {D : DataW Unit} (h : w.ownsMap P k R b n D) (K : WideMaps.KeyLaw P k) (ht : P.underlying t = some (.map k e))
    {z : Value} {zd : DataW Unit} {zp : List MemPlace} (hz : ∀ u : World, (zeroValue e).run P u = .ok z u) (hzd : R z = some (zd, zp)) (hn : n < maxLen) {key : Value} {kl : Lit} (hkey : keyOf P k key = some kl) :
    ∃ (v0 : Value) (st : Nat) (W1 : World), (Instr.mapEntry t (.map (some b)) key).run P w = .ok (.tuple #[v0, goInt st]) W1 ∧ w.mapTurned W1 b ∧
      (∃ D1, W1.ownsMap P k R b (n + 1) D1 ∧ D1.atKey kl zd = D.atKey kl zd) ∧
      ∀ val d ps, R val = some (d, ps) → ∃ W2, (Instr.entryStore t (.map (some b)) (goInt st) val).run P W1 = .ok () W2 ∧ W2.ownsMap P k R b (n + 1) (D.put kl d) ∧ w.mapTurned W2 b := by
  have KK := Keyed.of_law K
  have hown := h
  obtain ⟨es, clock, hb, F, hs, hD⟩ := h
  obtain ⟨v0, st, es1, clock1, hrun, -, hst⟩ := WideElems.entry_then_store K ht hz hb F hkey
  refine ⟨v0, st, setBlock w b (.map es1 clock1), hrun, ⟨es, clock, es1, clock1, hb, rfl⟩, ?_, fun val d ps hv => ?_⟩
  · rcases Maps.fit_look (w := w) false KK ht (hz w) hb F hkey with ⟨-, hne, hat⟩ | ⟨e0, y, hm0, hk0, -, -, -, -⟩
    · rcases K.find w hkey es.toList F.keys with ⟨h1, -⟩ | ⟨j, e1, -, h2, h3⟩
      · have r1 : (Instr.mapEntry t (.map (some b)) key).run P w = .ok (.tuple #[z, goInt clock]) (setBlock w b (.map (es.push ⟨key, z, clock⟩) (clock + 1))) := by
          simp [Instr.mapEntry, run_underlying ht, MapKept.run_getObj_map hb, K.check w false hkey, h1, hz, MapKept.run_setObj_map _ hb, Result.andThen, setBlock]
        have r2 : (Instr.mapUpdate t (.map (some b)) key z).run P w = .ok () (setBlock w b (.map (es.push ⟨key, z, clock⟩) (clock + 1))) := by
          simp [Instr.mapUpdate, run_underlying ht, MapKept.run_getObj_map hb, K.check w false hkey, h1, MapKept.run_setObj_map _ hb, Result.andThen, setBlock]
        obtain ⟨w', hr, ho, -⟩ := hown.store KK ht hn hkey hzd
        rw [r2] at hr
        rw [hrun] at r1
        injection r1 with _ e1
        injection hr with _ e2
        rw [e1, e2]
        exact ⟨_, ho, by rw [Maps.atKey_put_same hown.isMap (KK.key hkey), hD, hat]⟩
      · exact absurd h3 (hne e1 (List.mem_of_getElem? h2))
    · rcases K.find w hkey es.toList F.keys with ⟨-, h2⟩ | ⟨j, e1, h1, h2, h3⟩
      · exact absurd hk0 (h2 e0 hm0)
      · have hj : es[j]? = some e1 := by simpa using h2
        have hsame : es.modify j (fun e => { e with key := key }) = es := by
          apply Array.ext_getElem?
          intro i
          rw [Array.getElem?_modify]
          split
          · rename_i hji
            subst hji
            rw [hj]
            simp only [Option.map_some]
            rw [← h3]
          · rfl
        have r1 : (Instr.mapEntry t (.map (some b)) key).run P w = .ok (.tuple #[e1.val, goInt e1.born]) (setBlock w b (.map es clock)) := by
          simp [Instr.mapEntry, run_underlying ht, MapKept.run_getObj_map hb, K.check w false hkey, h1, hj, h3, K.stays w hkey, hsame, MapKept.run_setObj_map _ hb, Result.andThen, setBlock]
        rw [hrun] at r1
        injection r1 with _ e1'
        rw [e1']
        exact ⟨D, ⟨es, clock, ChangeMaps.heap_setBlock_same hb _, F, Nat.le_succ_of_le hs, hD⟩, rfl⟩
  · obtain ⟨es', clock', h1, h2⟩ := hst (setBlock w b (.map es1 clock1)) val (ChangeMaps.heap_setBlock_same hb _)
    obtain ⟨w', hr, ho, hm⟩ := hown.store KK ht hn hkey hv
    rw [h2] at hr
    injection hr with _ e2
    refine ⟨setBlock (setBlock w b (.map es1 clock1)) b (.map es' clock'), h1, ?_, ?_⟩
    · rw [show setBlock (setBlock w b (.map es1 clock1)) b (.map es' clock') = w' by rw [← e2]; simp [setBlock]]; exact ho
    · rw [show setBlock (setBlock w b (.map es1 clock1)) b (.map es' clock') = w' by rw [← e2]; simp [setBlock]]; exact hm
end Go.Proofs.YtgkfejnjjoaihaaDoor
