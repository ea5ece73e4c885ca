/- Flush. (the region's walk: tools/gen_dkg.py) -/
import Derived.Test.YtgpdkfmneoggkaaDkF
namespace Go.Proofs.Ytgpdkfmneoggkaa
open Go.RowKit
open Go.Maps (Keyed)
attribute [local go_sem] Oper.semAt_some

/-- One sector is flushed; so many from one on. -/
def Dk.fl1 (s : Dk) (i : Nat) : Dk := ⟨s.fl.set i (s.seen i), fun j => if j = (i : Int) then [] else s.pd j, s.wr⟩
def Dk.flushed (s : Dk) (a : Nat) : Nat → Dk
  | 0 => s
  | k + 1 => (s.flushed a k).fl1 (a + k)
theorem Dk.fl1_len (s : Dk) (i : Nat) : (s.fl1 i).fl.length = s.fl.length := by simp [Dk.fl1]
theorem Dk.flushed_len (s : Dk) (a k : Nat) : (s.flushed a k).fl.length = s.fl.length := by
  induction k with
  | zero => rfl
  | succ k ih => rw [Dk.flushed, Dk.fl1_len, ih]
theorem Dk.fl1_ok {s : Dk} (h : DkOk s) {i : Nat} (hi : i < s.fl.length) : DkOk (s.fl1 i) := by
  refine ⟨by rw [Dk.fl1_len]; exact h.n1, by rw [Dk.fl1_len]; exact h.n2, fun c hc => ?_, fun j c hc => ?_, fun j hj => ?_, fun j => ?_, h.w1⟩
  · rcases List.mem_or_eq_of_mem_set hc with h1 | h1
    · exact h.f c h1
    · rw [h1]; exact Dk.seen_ok h hi
  · unfold Dk.fl1 at hc
    dsimp only at hc
    split at hc
    · exact (List.not_mem_nil hc).elim
    · exact h.p j c hc
  · rw [Dk.fl1_len] at hj
    unfold Dk.fl1
    dsimp only
    split
    · rfl
    · exact h.out j hj
  · have := h.pl j
    unfold Dk.fl1
    dsimp only
    split
    · exact Nat.zero_le _
    · exact this
section
variable {w : World} {O : Nat → Prop} {d : Nat} {L : Lay9} {s : Dk}
theorem fl1_at {w3 : World} (h : DkAt w O d L s) {D : DataW Unit} {m : Nat} (p : PendIs w L s D m) (i : Nat) (hi : i < s.fl.length) {cs : Array Value}
    (ho2 : (w.setRow L.F cs).ownsRow 0 108 128 (.slice (some ⟨L.F, 0, none⟩) s.fl.length L.cap) s.fl.length (rowV (s.fl.set i (s.seen i))))
    (hm3 : w3.ownsMap Try.prog 3 slE L.b m (D.del (.int .i64 (i : Int)))) (hg3 : (w.setRow L.F cs).grownBy w3 (some L.b)) :
    DkAt w3 O d { L with V := fun j => if j = (i : Int) then .slice none 0 0 else L.V j } (s.fl1 i) ∧ TurnO O w w3 := by
  have hs0 : (w.setRow L.F cs).heap.size = w.heap.size := by simp
  have hs3 := hg3.size
  have blk : ∀ k, k < w.heap.size → k ≠ L.b → k ≠ L.F → w3.heap[k]? = w.heap[k]? := fun k hk hb hF => (hg3.block k (by omega) (fun e => hb (Option.some.inj e))).trans (setRow_other w L.F k cs hF)
  refine ⟨⟨Dk.fl1_ok h.ok hi, ?_, ?_, ⟨D.del (.int .i64 (i : Int)), m, p.mm, hm3, p.tidy.del _, fun k e => ?_, fun j => ?_, fun j => ?_⟩, fun j => ?_, fun j e => ?_, fun j l k hjl e1 e2 => ?_, h.od, h.oF, h.ob, fun j k e => ?_, fun k hk => by have := h.lt k hk; omega⟩, ⟨hg3.os, hg3.tape, hg3.output, by omega, fun k hk hO => ?_⟩⟩
  · rw [Dk.fl1_len]
    exact (blk d h.hd h.db (fun e => h.Fd.1 e.symm)).trans h.disk
  · rw [Dk.fl1_len]
    exact owns_eq ho2 (fun k e => by cases e; exact hg3.block L.F (by rw [hs0]; exact h.lt _ h.oF) (fun e => h.Fd.2 (Option.some.inj e)))
  · by_cases e2 : k = .int .i64 (i : Int)
    · exact ⟨_, e2⟩
    · rw [Maps.has_del_other (by simpa using e2)] at e; exact p.ints k e
  · unfold Dk.fl1
    dsimp only
    by_cases e2 : j = (i : Int)
    · rw [e2, Maps.has_del_same, if_pos rfl]; rfl
    · rw [Maps.has_del_other (by simpa using e2), if_neg e2, p.has]
  · dsimp only
    by_cases e2 : j = (i : Int)
    · rw [e2, Maps.atKey_del_same, if_pos rfl]; rfl
    · rw [Maps.atKey_del_other (by simpa using e2), if_neg e2, p.at_]
  · unfold Dk.fl1
    dsimp only
    by_cases e2 : j = (i : Int)
    · rw [if_pos e2, if_pos e2]; exact World.ownsRow_nil _ _ _ _
    · rw [if_neg e2, if_neg e2]
      exact owns_eq (h.rows j) (fun k e => blk k (h.lt k (h.oV j k e)) (h.Vd e).2 (fun e3 => h.apF j (e3 ▸ e)))
  · dsimp only at e
    split at e
    · cases e
    · exact h.apF j e
  · dsimp only at e1 e2
    split at e1
    · cases e1
    · split at e2
      · cases e2
      · exact h.ap j l k hjl e1 e2
  · dsimp only at e
    split at e
    · cases e
    · exact h.oV j k e
  · exact blk k hk (fun e => hO (e ▸ h.ob)) (fun e => hO (e ▸ h.oF))
theorem flush_no9 {v : Value} (h : NoDk w v) (a n : Int) : Calls Try.prog 67 #[v, .int .i64 a, .int .i64 n] w fun e w' => e = .returned (.int .i64 1) ∧ w = w' := by
  go_enter Try.func67, Try.ntmps67
  go_wp2_with (go_at_call 54; refine (there_no9 h).mono ?_; rintro e w' ⟨rfl, rfl⟩)
  go_ret
  exact ⟨rfl, rfl⟩
theorem flush_bad9 (h : DkAt w O d L s) (a n : Int) (ha : -9223372036854775808 ≤ a ∧ a ≤ 9223372036854775807) (hn : -9223372036854775808 ≤ n ∧ n ≤ 9223372036854775807) (hb : n < 0 ∨ a < 0 ∨ (s.fl.length : Int) < a + n) :
    Calls Try.prog 67 #[.pointer (some ⟨d, 0, none⟩), .int .i64 a, .int .i64 n] w fun e w' => e = .returned (.int .i64 2) ∧ w = w' := by
  have H := Lib.hid h
  have c0 := h.c0
  have hn2 := h.ok.n2
  clear h
  by_cases h1 : n < 0
  · clear hb
    go_enter Try.func67, Try.ntmps67
    go_wp2_with (go_at_call 54; refine (there_any9 H.out).mono ?_; rintro e w' ⟨rfl, rfl⟩)
    go_ret
    exact ⟨rfl, rfl⟩
  · by_cases h2 : a < 0
    · clear hb
      go_enter Try.func67, Try.ntmps67
      go_wp2_with (go_at_call 54; refine (there_any9 H.out).mono ?_; rintro e w' ⟨rfl, rfl⟩)
      go_ret
      exact ⟨rfl, rfl⟩
    · have hw : IntKind.i64.wrap ((s.fl.length : Int) - a) = (s.fl.length : Int) - a := IntWalk.i64_in _ (by omega)
      have h3 : (s.fl.length : Int) - a < n := by omega
      clear hb
      go_enter Try.func67, Try.ntmps67
      go_wp2_with (go_at_call 54; refine (there_any9 H.out).mono ?_; rintro e w' ⟨rfl, rfl⟩)
      go_ret
      exact ⟨rfl, rfl⟩
set_option maxHeartbeats 4000000 in
set_option maxRecDepth 100000 in
theorem flush_yes9 (h : DkAt w O d L s) (a k0 : Nat) (hk0 : a + k0 ≤ s.fl.length) :
    Calls Try.prog 67 #[.pointer (some ⟨d, 0, none⟩), .int .i64 (a : Int), .int .i64 (k0 : Int)] w fun e w' => e = .returned (.int .i64 0) ∧ ∃ L', DkAt w' O d L' (s.flushed a k0) ∧ TurnO O w w' := by
  have H := Lib.hid h
  have c0 := h.c0
  have hn2 := h.ok.n2
  obtain ⟨n, hn⟩ : ∃ n, s.fl.length = n := ⟨_, rfl⟩
  rw [hn] at c0 hn2 hk0
  have HN := Lib.hid hn
  have hw : IntKind.i64.wrap ((n : Int) - a) = (n : Int) - a := IntWalk.i64_in _ (by omega)
  have hw2 : IntKind.i64.wrap ((a : Int) + k0) = (a : Int) + k0 := IntWalk.i64_in _ (by omega)
  have h1 : ¬ ((n : Int) - a < (k0 : Int)) := by omega
  clear h hn
  go_enter Try.func67, Try.ntmps67
  go_wp2_with (go_at_call 54; refine (there_any9 H.out).mono ?_; rintro e w' ⟨rfl, rfl⟩)
  go_loopw [7] (fun i wr => ∃ k j : Nat, k ≤ k0 ∧ a + k = j ∧ i = .int .i64 (j : Int) ∧ ∃ L', DkAt wr O d L' (s.flushed a k) ∧ TurnO O w wr) (fun i _ => (a + k0) - (intOf i).toNat)
  case atStart => exact ⟨0, a, Nat.zero_le _, rfl, rfl, L, H.out, TurnO.refl _ _⟩
  case round =>
    obtain ⟨k, j, hk, hj, rfl, L, hD, hT⟩ := hrel
    have HD := Lib.hid hD
    have HT := Lib.hid hT
    have HN1 := Lib.hid ((Dk.flushed_len s a k).trans HN.out)
    have hc0 := hD.c0
    rw [HN1.out] at hc0
    have hc1 := hD.c1
    clear hD hT c0
    by_cases hlt : k < k0
    · have hlt' : (j : Int) < (a : Int) + k0 := by omega
      have hjn : (j : Int) < n := by omega
      have HK := Lib.hid (show j < (s.flushed a k).fl.length by rw [HN1.out]; omega)
      obtain ⟨S, hS⟩ : ∃ S, s.flushed a k = S := ⟨_, rfl⟩
      have HS := Lib.hid hS
      rw [hS] at HD HN1 HK
      have HC0 := Lib.hid hc0
      have HDR := Lib.hid (HD.out.step (w' := wr.drew) ((Below.refl _ wr).drew))
      clear hS
      go_wp2_with fail
      refine wp_region_noPanic ?_
      refine wp_region_held_drew (S := fun W => W.cell? ⟨d, 0, none⟩ = some (.slice (some ⟨L.F, 0, none⟩) n L.cap)) (by kernel_rfl) ?_ (fun hHeld => ?_)
      · exact HC0.out
      refine wpAnyH_take (i := 0) (v := ?_) rfl (by kernel_rfl) (by kernel_rfl) (by kernel_rfl) (fun _ _ _ h => h) (Or.inl ⟨by rfl, ?_⟩) (by assumption) ?_
      rotate_left
      · (intro w hSw; have hSc := hSw; (try simp only [List.getElem_toArray, List.getElem_cons_zero]); go_simp; try (with_reducible rfl))
      try simp only [Act.put, List.getElem_toArray, List.getElem_cons_zero, List.setIfInBounds_toArray, List.set_cons_zero, List.set_cons_succ]
      refine wpAnyH_take (i := 1) (v := ?_) rfl (by kernel_rfl) (by kernel_rfl) (by kernel_rfl) (fun _ _ _ h => h) (Or.inl ⟨by rfl, ?_⟩) (by assumption) ?_
      rotate_left
      · (intro w hSw; have hSc := hSw; (try simp only [List.getElem_toArray, List.getElem_cons_zero, List.getElem_cons_succ]); go_simp; try (with_reducible rfl))
      try simp only [Act.put, List.getElem_toArray, List.getElem_cons_zero, List.getElem_cons_succ, List.setIfInBounds_toArray, List.set_cons_zero, List.set_cons_succ]
      refine wpAnyH_take (i := 2) (v := ?_) rfl (by kernel_rfl) (by kernel_rfl) (by kernel_rfl) (fun _ _ _ h => h) (Or.inl ⟨by rfl, ?_⟩) (by assumption) ?_
      rotate_left
      · (intro w hSw; have hSc := hSw; (try simp only [List.getElem_toArray, List.getElem_cons_zero, List.getElem_cons_succ]); go_simp; try (with_reducible rfl))
      try simp only [Act.put, List.getElem_toArray, List.getElem_cons_zero, List.getElem_cons_succ, List.setIfInBounds_toArray, List.set_cons_zero, List.set_cons_succ]
      refine wpAnyH_take (i := 3) (v := ?_) rfl (by kernel_rfl) (by kernel_rfl) (by kernel_rfl) (fun _ _ _ h => h) (Or.inl ⟨by rfl, ?_⟩) (by assumption) ?_
      rotate_left
      · (intro w hSw; have hSc := hSw; (try simp only [List.getElem_toArray, List.getElem_cons_zero, List.getElem_cons_succ]); go_simp; try (with_reducible rfl))
      try simp only [Act.put, List.getElem_toArray, List.getElem_cons_zero, List.getElem_cons_succ, List.setIfInBounds_toArray, List.set_cons_zero, List.set_cons_succ]
      refine wpAnyH_take (i := 4) (v := ?_) rfl (by kernel_rfl) (by kernel_rfl) (by kernel_rfl) (fun _ _ _ h => h) (Or.inl ⟨by rfl, ?_⟩) (by assumption) ?_
      rotate_left
      · (intro w hSw; have hSc := hSw; (try simp only [List.getElem_toArray, List.getElem_cons_zero, List.getElem_cons_succ]); go_simp; try (with_reducible rfl))
      try simp only [Act.put, List.getElem_toArray, List.getElem_cons_zero, List.getElem_cons_succ, List.setIfInBounds_toArray, List.set_cons_zero, List.set_cons_succ]
      refine wpAnyH_take (i := 5) (v := ?_) rfl (by kernel_rfl) (by kernel_rfl) (by kernel_rfl) (fun _ _ _ h => h) (Or.inl ⟨by rfl, ?_⟩) (by assumption) ?_
      rotate_left
      · (intro w hSw; have hSc := hSw; (try simp only [List.getElem_toArray, List.getElem_cons_zero, List.getElem_cons_succ]); go_simp; try (with_reducible rfl))
      try simp only [Act.put, List.getElem_toArray, List.getElem_cons_zero, List.getElem_cons_succ, List.setIfInBounds_toArray, List.set_cons_zero, List.set_cons_succ]
      refine wpAnyH_take (i := 6) (v := ?_) rfl (by kernel_rfl) (by kernel_rfl) (by kernel_rfl) (fun _ _ _ h => h) (Or.inl ⟨by rfl, ?_⟩) (by assumption) ?_
      rotate_left
      · (intro w hSw; have hSc := hSw; (try simp only [List.getElem_toArray, List.getElem_cons_zero, List.getElem_cons_succ]); go_simp; try (with_reducible rfl))
      try simp only [Act.put, List.getElem_toArray, List.getElem_cons_zero, List.getElem_cons_succ, List.setIfInBounds_toArray, List.set_cons_zero, List.set_cons_succ]
      refine wpAnyH_ready (rs := [7]) (by kernel_rfl) (by simp) ?_
      refine AllReadyH.cons rfl (fun K hK => ?_) AllReadyH.nil
      (try simp only [List.getElem_toArray, List.getElem_cons_zero, List.getElem_cons_succ]); go_simp
      go_at_call 78; refine (seen_any9 HDR.out j HK.out).mono ?_; rintro e w1 ⟨rfl, hb1⟩
      have HB1 := Lib.hid hb1
      have H1 := Lib.hid (HDR.out.step (w' := w1) hb1)
      clear hb1
      try (go_wp2_with fail)
      refine hK.out _ _ (by have := H1.out.c0; rw [HN1.out] at this; exact this) (fun hHeld => ?_)
      clear hK K
      try simp only [Act.put, List.getElem_toArray, List.getElem_cons_zero, List.getElem_cons_succ, List.setIfInBounds_toArray, List.set_cons_zero, List.set_cons_succ]
      refine wpAnyH_take (i := 8) (v := ?_) rfl (by kernel_rfl) (by kernel_rfl) (by kernel_rfl) (fun _ _ _ h => h) (Or.inl ⟨by rfl, ?_⟩) (by assumption) ?_
      rotate_left
      · (intro w hSw; have hSc := hSw; (try simp only [List.getElem_toArray, List.getElem_cons_zero, List.getElem_cons_succ]); go_simp; try (with_reducible rfl))
      try simp only [Act.put, List.getElem_toArray, List.getElem_cons_zero, List.getElem_cons_succ, List.setIfInBounds_toArray, List.set_cons_zero, List.set_cons_succ]
      obtain ⟨cur, hcur, hcs, hrow⟩ := own_amid H1.out.row H1.out.ok.f HK.out (Dk.seen_ok H1.out.ok HK.out)
      refine wpAnyH_ready (rs := [9]) (by kernel_rfl) (by simp) ?_
      refine AllReadyH.cons rfl (fun K hK => ?_) AllReadyH.nil
      refine step_storeSec rfl _ _ rfl L.F (j * 128) (S.seen j) (Dk.seen_ok H1.out.ok HK.out) rfl rfl 108 cur hcur hcs ?_
      have hx : (w1.setRow L.F (splice cur.toList (j * 128) (secL (S.seen j))).toArray).cell? ⟨d, 0, none⟩ = some (.slice (some ⟨L.F, 0, none⟩) n L.cap) := by have := H1.out.c0; rw [HN1.out] at this; exact (World.cell?_of_block (a := ⟨d, 0, none⟩) (setRow_other w1 L.F d _ (fun e => H1.out.Fd.1 e.symm))).trans this
      refine hK.out _ _ hx (fun hHeld => ?_)
      clear hK K hx
      try simp only [Act.put, List.getElem_toArray, List.getElem_cons_zero, List.getElem_cons_succ, List.setIfInBounds_toArray, List.set_cons_zero, List.set_cons_succ]
      refine wpAnyH_done (by kernel_rfl) ?_ _
      refine NoPanic.normal ?_
      obtain ⟨D, m, p⟩ := H1.out.pend
      have HOM := Lib.hid (ownsMap_eq9 p.own (setRow_other w1 L.F L.b (splice cur.toList (j * 128) (secL (S.seen j))).toArray (fun e => H1.out.Fd.2 e.symm)))
      have c1 : (w1.setRow L.F (splice cur.toList (j * 128) (secL (S.seen j))).toArray).cell? ⟨d, 1, none⟩ = some (.map (some L.b)) := (World.cell?_of_block (a := ⟨d, 1, none⟩) (setRow_other w1 L.F d _ (fun e => H1.out.Fd.1 e.symm))).trans H1.out.c1
      have HW := Lib.hid (wf_sec (show j < 4096 by omega))
      have HP := Lib.hid p
      have HROW := Lib.hid hrow
      generalize hW2 : w1.setRow L.F (splice cur.toList (j * 128) (secL (S.seen j))).toArray = W2 at *
      have HW2 := Lib.hid hW2
      clear hrow p hW2 hHeld
      go_wp2_with (at_delete; refine wpList_delete_own _ rfl _ _ 103 3 rfl 102 Try.kint Try.underlying103 slE L.b m D rfl HOM.out _ (.int .i64 (j : Int)) rfl (Maps.keyOf_int_mk Try.underlying3 HW.out) ?_; intro w3 hm3 hg3; have HM3 := Lib.hid hm3; have HG3 := Lib.hid hg3; clear hm3 hg3)
      have hfin := fl1_at H1.out HP.out j HK.out (HW2.out ▸ HROW.out) HM3.out (HW2.out ▸ HG3.out.grown)
      have HFIN := Lib.hid hfin
      clear hfin
      go_roundw
      case rel => exact ⟨k + 1, j + 1, hlt, by omega, by go_num, _, by rw [Dk.flushed, HS.out, hj]; exact HFIN.out.1, (HT.out.trans (TurnO.of_below (((Below.refl _ wr).drew).trans HB1.out) : TurnO O wr w1) (fun b h => .inl h)).trans HFIN.out.2 (fun b h => .inl h)⟩
      case measure => simp [intOf]; omega
    · have hlt' : ¬ (j : Int) < (a : Int) + k0 := by omega
      obtain rfl : k = k0 := by omega
      go_wp2
      go_ret
      exact ⟨rfl, ⟨L, HD.out⟩, HT.out⟩
end
end Go.Proofs.Ytgpdkfmneoggkaa
