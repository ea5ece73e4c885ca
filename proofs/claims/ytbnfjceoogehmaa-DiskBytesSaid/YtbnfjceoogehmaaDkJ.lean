/- Crash. (the region's walk: tools/gen_dkj.py) -/
import Derived.Test.YtbnfjceoogehmaaDkI
namespace Go.Proofs.Ytbnfjceoogehmaa
open Go.RowKit
open Go.Maps (Keyed)
attribute [local go_sem] Oper.semAt_some

theorem crash_no9 {w : World} {v : Value} (h : NoDk w v) (a : Value) : Calls Try.prog 22 #[v, a] w fun e w' => e = .returned (.tuple #[.pointer none, .int .i64 1]) ∧ w = w' := by
  go_enter Try.func22, Try.ntmps22
  go_wp2_with (go_at_call 39; refine (there_no9 h).mono ?_; rintro e w' ⟨rfl, rfl⟩)
  go_ret2
  exact ⟨rfl, rfl⟩
/-- All may be kept. -/
def AllOk (s : Dk) (KL : List Kp) (n : Nat) : Prop := ∀ k x, k < n → KL[k]? = some x → okK s KL k x
def CrashOut (w : World) (s : Dk) (KL : List Kp) (e : Ending) (w' : World) : Prop :=
  (AllOk s KL KL.length ∧ ∃ p, e = .returned (.tuple #[p, .int .i64 0]) ∧ MadeDk w (s.crash KL KL.length) p w') ∨
  (¬ AllOk s KL KL.length ∧ e = .returned (.tuple #[.pointer none, .int .i64 2]) ∧ Below w.heap.size w w')
theorem cells_two9 {w : World} {g : Nat} {a b : Value} {t : TypeId} (h : w.heap[g]? = some (.cells #[a, b] t (0, 0))) : w.cell? ⟨g, 0, none⟩ = some a ∧ w.cell? ⟨g, 1, none⟩ = some b :=
  ⟨by rw [cell_of_row _ _ _ _ _ _ h]; rfl, by rw [cell_of_row _ _ _ _ _ _ h]; rfl⟩
section
variable {w : World} {O : Nat → Prop} {d : Nat} {L : Lay9} {s : Dk}
set_option maxHeartbeats 8000000 in
set_option maxRecDepth 100000 in
theorem crash_any9 (h : DkAt w O d L s) (A : Option Addr) (KL : List Kp) (kc : Nat) (hA : KeepIn w A KL) (hwf : ∀ x ∈ KL, wfK x) (hl : KL.length ≤ 9223372036854775807) :
    Calls Try.prog 22 #[.pointer (some ⟨d, 0, none⟩), .slice A KL.length kc] w (CrashOut w s KL) := by
  have hmm := @run_makeMap Try.prog
  obtain ⟨m, hm⟩ : ∃ m, KL.length = m := ⟨_, rfl⟩
  have HM := Lib.hid hm
  have HA := Lib.hid hA
  have HWF := Lib.hid hwf
  have H := Lib.hid h
  rw [hm] at hl ⊢
  have hl' : (m : Int) ≤ 9223372036854775807 := by omega
  clear h hA hwf hm
  go_enter Try.func22, Try.ntmps22
  go_wp2_with (first
    | (go_at_call 39; refine (there_any9 H.out).mono ?_; rintro e w' ⟨rfl, rfl⟩)
    | (go_at_call 44; refine (last_any9 H.out).mono ?_; rintro e w1 ⟨p, rfl, c, O1, L1, rfl, hc1, hO1, hb1⟩; have HC1 := Lib.hid hc1; have HO1 := Lib.hid hO1; have HB1 := Lib.hid hb1; clear hc1 hO1 hb1))
  have hs1 := HB1.out.size
  go_loopw [18] (fun i wr => ∃ k : Nat, k ≤ m ∧ i = .int .i64 (k : Int) ∧ (∃ L', DkAt wr O1 c L' (s.crash KL k)) ∧ NamedAt wr w1.heap.size KL k ∧ AllOk s KL k ∧ Below w.heap.size w wr) (fun i _ => m - (intOf i).toNat)
  case atStart =>
    refine ⟨0, Nat.zero_le _, rfl, ⟨L1, HC1.out.step ((Below.refl _ w1).alloc (Nat.le_refl _) _)⟩, ⟨.map [], World.ownsMap_made w1 _ _ _, Maps.tidy_empty, fun i => rfl⟩, fun k x hk => by omega, HB1.out.alloc hs1 _⟩
  case round =>
    obtain ⟨k, hk, rfl, ⟨L', hD⟩, hN, hok, hB⟩ := hrel
    have HD := Lib.hid hD
    have HN := Lib.hid hN
    have HOKS := Lib.hid hok
    have HB := Lib.hid hB
    clear hD hN hok hB
    by_cases hlt : k < m
    · have hlt' : (k : Int) < m := by omega
      obtain ⟨x, hx⟩ : ∃ x, KL[k]? = some x := ⟨_, List.getElem?_eq_getElem (by rw [HM.out]; exact hlt)⟩
      have HX := Lib.hid hx
      obtain ⟨x1, x2⟩ := x
      obtain ⟨ab, ao, rfl, ha1, ha2⟩ := (HA.out.below HB.out) k _ hx
      have ha1 : wr.cell? ⟨ab, ao + k * 2, none⟩ = some (.int .i64 x1) := ha1
      have ha2 : wr.cell? ⟨ab, ao + k * 2 + 1, none⟩ = some (.int .i64 x2) := ha2
      have hwx := HWF.out _ (List.mem_of_getElem? hx)
      have HWX := Lib.hid hwx
      have hsr := HB.out.size
      clear hx hwx
      have hcl := cntK_le KL k x1
      have HNA := Lib.hid (HN.out.keep (w' := wr.alloc (.cells #[.int .i64 x1, .int .i64 x2] 68)) (Below.heap_alloc wr _ _ (by obtain ⟨D, ⟨es, clock, h1, -⟩, -⟩ := HN.out.map; exact (Array.getElem?_eq_some_iff.1 h1).1)))
      have hlk := HNA.out.look x1 (wfK_wf HWX.out)
      obtain ⟨q, hq⟩ : ∃ q, cntK KL k x1 = q := ⟨_, rfl⟩
      have HQ := Lib.hid hq
      rw [hq] at hlk hcl
      have hinc : IntKind.i64.wrap ((q : Int) + 1) = (q : Int) + 1 := IntWalk.i64_in _ (by omega)
      obtain ⟨DN, hn1, hn2, hn3⟩ := HNA.out.map
      have HN1 := Lib.hid hn1
      have HN2 := Lib.hid hn2
      have HN3 := Lib.hid hn3
      have HWQ := Lib.hid (show (Lit.int .i64 ((q : Int) + 1)).wf = true by rw [Lit.wf]; simp; exact ⟨by show (-9223372036854775808 : Int) ≤ _; omega, by show _ ≤ (9223372036854775807 : Int); omega⟩)
      clear hq hn1 hn2 hn3
      go_wp2_with (at_mapUpdate; refine wpList_mapUpdate_own _ rfl _ _ _ 90 rfl 3 3 Try.kint Try.underlying90 (plainElem Try.prog 3) w1.heap.size k DN rfl HN1.out (by unfold maxLen; omega) _ _ (.int .i64 x1) rfl rfl (Maps.keyOf_int_mk Try.underlying3 (wfK_wf HWX.out)) (.lit (.int .i64 ((q : Int) + 1))) [] (plainElem_int Try.underlying3 HWQ.out) ?_; intro w4 hm4 hg4; have HM4 := Lib.hid hm4; have HG4 := Lib.hid hg4; clear hm4 hg4)
      have hs1r : w1.heap.size < wr.heap.size := by obtain ⟨D, ⟨es, clock, h1, -⟩, -⟩ := HN.out.map; exact (Array.getElem?_eq_some_iff.1 h1).1
      have HBG := Lib.hid (show w1.heap.size < wr.heap.size ∧ w.heap.size ≤ w1.heap.size from ⟨hs1r, hs1⟩)
      have hgh := (HG4.out.block wr.heap.size (by simp) (by intro e; have := Option.some.inj e; omega)).trans (heap_alloc_new wr (.cells #[.int .i64 x1, .int .i64 x2] 68))
      obtain ⟨hg0, hg1⟩ := cells_two9 hgh
      clear hgh
      have HB4 := Lib.hid (show Below w.heap.size w w4 from (HB.out.alloc hsr _).grown HG4.out (by simp; omega) (fun r e => by have := Option.some.inj e; omega))
      have H4 := Lib.hid (H.out.step HB4.out)
      have HD4 := Lib.hid (show DkAt w4 O1 c L' (s.crash KL k) from HD.out.keep (by have := HG4.out.size; simp at this; omega) (fun r hr => by
        have h1 := HC1.out.lt r hr
        exact (HG4.out.block r (by simp; omega) (fun e => by have := Option.some.inj e; omega)).trans (Below.heap_alloc wr _ r (by omega))))
      have HN4 := Lib.hid (show NamedAt w4 w1.heap.size KL (k + 1) from NamedAt.more HX.out HWX.out HN2.out HN3.out (by rw [HQ.out]; exact HM4.out))
      obtain ⟨np, hnp⟩ : ∃ np, (s.pd x1).length = np := ⟨_, rfl⟩
      have HNP := Lib.hid hnp
      obtain ⟨hb, hhb⟩ : ∃ hb, s.has x1 = hb := ⟨_, rfl⟩
      have HHB := Lib.hid hhb
      have hdn : ∀ z : Nat, DkAt (w4.drewN z) O d L s := fun z => H4.out.keep (Nat.le_refl _) (fun _ _ => rfl)
      have HASQ : ∀ z : Nat, Hid (Calls Try.prog 45 #[.pointer (some ⟨d, 0, none⟩), .int .i64 x1] (w4.drewN z) fun e w' => e = .returned (.bool hb) ∧ w' = w4.drewN z) := fun z => Lib.hid ((has_any9 (hdn z) x1).mono fun e w' h => ⟨h.1.trans (by rw [hhb]), h.2.symm⟩)
      have HPEQ : ∀ z : Nat, Hid (Calls Try.prog 28 #[.pointer (some ⟨d, 0, none⟩), .int .i64 x1] (w4.drewN z) fun e w' => e = .returned (.int .i64 (np : Int)) ∧ w' = w4.drewN z) := fun z => Lib.hid ((pending_any9 (hdn z) x1 (wfK_wf HWX.out)).mono fun e w' h => ⟨h.1.trans (by rw [hnp]), h.2.symm⟩)
      obtain ⟨q1, hq1⟩ : ∃ q1, q + 1 = q1 := ⟨_, rfl⟩
      have hlk4 : ∀ z : Nat, (Instr.lookup 90 (.map (some w1.heap.size)) (.int .i64 x1) false).run Try.prog (w4.drewN z) = .ok (.int .i64 (q1 : Int)) (w4.drewN z) := fun z => by
        have := (HN4.out.keep (w' := w4.drewN z) rfl).look x1 (wfK_wf HWX.out)
        rwa [cntK_succ HX.out, if_pos rfl, HQ.out, hq1] at this
      have HOKC := Lib.hid (show ∀ (P : Prop), (okK s KL k (x1, x2) → P) → AllOk s KL KL.length → P from fun P hp ha => hp (ha k _ (by rw [HM.out]; exact hlt) HX.out))
      generalize hW : (wr.alloc (.cells #[.int .i64 x1, .int .i64 x2] 68)).heap.size = dummy at *
      clear hW hnp hhb hlk ha1 ha2 hs1r hdn
      cases hb with
      | false =>
        go_quiet ((first | (with_reducible (go_at_call 45; exact Calls.quiet_of_same (HASQ _).out)) | (with_reducible (go_at_call 28; exact Calls.quiet_of_same (HPEQ _).out))))
        go_wp2
        go_ret2
        exact .inr ⟨fun ha => HOKC.out False (fun h => by have := h.1; rw [HHB.out] at this; cases this) ha, rfl, HB4.out.trans ⟨rfl, rfl, rfl, Nat.le_refl _, fun _ _ => rfl⟩⟩
      | true =>
        by_cases h1 : x2 < 0
        · go_quiet ((first | (with_reducible (go_at_call 45; exact Calls.quiet_of_same (HASQ _).out)) | (with_reducible (go_at_call 28; exact Calls.quiet_of_same (HPEQ _).out))))
          go_wp2
          go_ret2
          exact .inr ⟨fun ha => HOKC.out False (fun h => by have := h.2.1; simp only at this; omega) ha, rfl, HB4.out.trans ⟨rfl, rfl, rfl, Nat.le_refl _, fun _ _ => rfl⟩⟩
        · by_cases h2 : (np : Int) < x2
          · go_quiet ((first | (with_reducible (go_at_call 45; exact Calls.quiet_of_same (HASQ _).out)) | (with_reducible (go_at_call 28; exact Calls.quiet_of_same (HPEQ _).out))))
            go_wp2
            go_ret2
            exact .inr ⟨fun ha => HOKC.out False (fun h => by have := h.2.2.1; simp only at this; rw [HNP.out] at this; omega) ha, rfl, HB4.out.trans ⟨rfl, rfl, rfl, Nat.le_refl _, fun _ _ => rfl⟩⟩
          · by_cases h3 : q1 = 1
            · subst h3
              go_quiet ((first | (with_reducible (go_at_call 45; exact Calls.quiet_of_same (HASQ _).out)) | (with_reducible (go_at_call 28; exact Calls.quiet_of_same (HPEQ _).out))))
              have HBD := Lib.hid (show Below w.heap.size w (w4.drewN nq) from HB4.out.trans ⟨rfl, rfl, rfl, Nat.le_refl _, fun _ _ => rfl⟩)
              have hq0 : q = 0 := by omega
              have HOK1 := Lib.hid (show AllOk s KL (k + 1) from fun j x hj hx => by
                rcases Nat.lt_or_ge j k with h | h
                · exact HOKS.out j x h hx
                · obtain rfl : j = k := by omega
                  rw [HX.out] at hx
                  cases hx
                  exact ⟨HHB.out, by show (0 : Int) ≤ x2; omega, by show x2 ≤ _; rw [HNP.out]; omega, by show cntK KL j x1 = 0; rw [HQ.out]; exact hq0⟩)
              have HDD := Lib.hid (show DkAt (w4.drewN nq) O1 c L' (s.crash KL k) from HD4.out.keep (Nat.le_refl _) (fun _ _ => rfl))
              have HND := Lib.hid (show NamedAt (w4.drewN nq) w1.heap.size KL (k + 1) from HN4.out.keep rfl)
              by_cases h5 : 0 < x2
              · obtain ⟨xs, rfl, hxs⟩ := Dk.has_iff HHB.out
                obtain ⟨xn, rfl⟩ : ∃ xn : Nat, x2 = xn := ⟨x2.toNat, by omega⟩
                have h5' : 0 < xn := by omega
                have h2' : xn ≤ np := by omega
                obtain ⟨ks, hks⟩ : ∃ ks, (s.pd (xs : Int)).getD (xn - 1) [] = ks := ⟨_, rfl⟩
                have hget : (s.pd (xs : Int))[xn - 1]? = some ks := by
                  have := kept_get (s := s) (x := ((xs : Int), (xn : Int))) h5 (by show (xn : Int) ≤ _; rw [HNP.out]; omega)
                  rw [← hks]; exact this
                have HKC := Lib.hid (show SecOk ks from H.out.ok.p _ _ (List.mem_of_getElem? hget))
                have HKS := Lib.hid hks
                obtain ⟨vg, vc, hv⟩ := H.out.form' (xs : Int) (by intro e; rw [e] at hget; cases hget)
                rw [HNP.out] at hv
                have HV := Lib.hid hv
                have HGET := Lib.hid hget
                obtain ⟨n, hn⟩ : ∃ n, s.fl.length = n := ⟨_, rfl⟩
                have HNN := Lib.hid hn
                have HCN := Lib.hid ((Dk.crash_len s KL k).1.trans hn)
                have hn2 := H.out.ok.n2
                rw [hn] at hn2 hxs
                have hOF : w.heap.size ≤ L'.F ∧ L'.F < w1.heap.size := ⟨HO1.out _ HDD.out.oF, HC1.out.lt _ HDD.out.oF⟩
                have hSall : ∀ W : World, DkAt W O d L s → DkAt W O1 c L' (s.crash KL k) ∨ W.cell? ⟨c, 0, none⟩ = some (.slice (some ⟨L'.F, 0, none⟩) n L'.cap) → W.heap[wr.heap.size]? = w4.heap[wr.heap.size]? →
                    W.cell? ⟨c, 0, none⟩ = some (.slice (some ⟨L'.F, 0, none⟩) n L'.cap) ∧ W.cell? ⟨wr.heap.size, 0, none⟩ = some (.int .i64 (xs : Int)) ∧ W.cell? ⟨wr.heap.size, 1, none⟩ = some (.int .i64 (xn : Int)) ∧ W.cell? ⟨d, 1, none⟩ = some (.map (some L.b)) ∧ (Instr.lookup 59 (.map (some L.b)) (.int .i64 (xs : Int)) false).run Try.prog W = .ok (.slice (some ⟨vg, 0, none⟩) np vc) W ∧ W.rangeAt vg ((xn - 1) * 128) (secL ks) := fun W hW hc hg => by
                  refine ⟨?_, (World.cell?_of_block (a := ⟨wr.heap.size, 0, none⟩) hg).trans hg0, (World.cell?_of_block (a := ⟨wr.heap.size, 1, none⟩) hg).trans hg1, hW.c1, ?_, ?_⟩
                  · rcases hc with hc | hc
                    · have := hc.c0; rwa [HCN.out] at this
                    · exact hc
                  · rw [← HV.out]; exact hW.look _ (wf_sec (show xs < 4096 by omega))
                  · have h6 := hW.rows (xs : Int)
                    rw [HV.out, HNP.out] at h6
                    exact row_range h6 (hW.ok.p _) HGET.out
                have HSS := Lib.hid (hSall (w4.drewN nq).drew (H4.out.keep (Nat.le_refl _) (fun _ _ => rfl)) (.inl (HDD.out.keep (Nat.le_refl _) (fun _ _ => rfl))) rfl)
                have hDdd : DkAt (w4.drewN nq).drew O1 c L' (s.crash KL k) := HDD.out.keep (Nat.le_refl _) (fun _ _ => rfl)
                obtain ⟨cur, hcur, hcs, hrow⟩ := own_amid hDdd.row hDdd.ok.f (i := xs) (by rw [HCN.out]; exact hxs) HKC.out
                have HCUR := Lib.hid hcur
                have HCS := Lib.hid hcs
                have HROW := Lib.hid hrow
                have HDDD := Lib.hid hDdd
                have HBDR := Lib.hid (show Below w.heap.size w (((w4.drewN nq).drew).setRow L'.F (splice cur.toList (xs * 128) (secL ks)).toArray) from below_setRow (HBD.out.drew) hOF.1 _)
                have HSA := Lib.hid (hSall (((w4.drewN nq).drew).setRow L'.F (splice cur.toList (xs * 128) (secL ks)).toArray) (H.out.step HBDR.out)
                  (.inr (by have := hDdd.c0; rw [HCN.out] at this; exact (World.cell?_of_block (a := ⟨c, 0, none⟩) (setRow_other _ L'.F c _ (fun e => hDdd.Fd.1 e.symm))).trans this)) (setRow_other _ L'.F wr.heap.size _ (by have := HBG.out; omega)))
                have HSET := Lib.hid (set_at hDdd xs (by rw [HCN.out]; exact hxs) ks HKC.out HROW.out)
                have HNS := Lib.hid (HND.out.keep (w' := ((w4.drewN nq).drew).setRow L'.F (splice cur.toList (xs * 128) (secL ks)).toArray) (setRow_other _ L'.F w1.heap.size _ (by omega)))
                have hsub : IntKind.i64.wrap ((xn : Int) - 1) = ((xn - 1 : Nat) : Int) := by rw [IntWalk.i64_in _ (by have := HWX.out.2; simp only at this; omega)]; omega
                have hxi : ((xn - 1 : Nat) : Int) < np := by omega
                have hxsn : (xs : Int) < n := by omega
                clear hSall hDdd hcur hcs hrow hv hget hks hn
                go_wp2
                refine wp_region_noPanic ?_
                refine wp_region_held_drew (S := fun W => W.cell? ⟨c, 0, none⟩ = some (.slice (some ⟨L'.F, 0, none⟩) n L'.cap) ∧ W.cell? ⟨wr.heap.size, 0, none⟩ = some (.int .i64 (xs : Int)) ∧ W.cell? ⟨wr.heap.size, 1, none⟩ = some (.int .i64 (xn : Int)) ∧ W.cell? ⟨d, 1, none⟩ = some (.map (some L.b)) ∧ (Instr.lookup 59 (.map (some L.b)) (.int .i64 (xs : Int)) false).run Try.prog W = .ok (.slice (some ⟨vg, 0, none⟩) np vc) W ∧ W.rangeAt vg ((xn - 1) * 128) (secL ks)) (by kernel_rfl) ?_ (fun hHeld => ?_)
                · exact HSS.out
                refine wpAnyH_take (i := 0) (v := ?_) rfl (by kernel_rfl) (by kernel_rfl) (by kernel_rfl) (fun _ _ _ h => h) (Or.inl ⟨by rfl, ?_⟩) (by assumption) ?_
                rotate_left
                · (intro w hSw; obtain ⟨hS0, hS1, hS2, hS3, hS4, -⟩ := hSw; (try simp only [List.getElem_toArray, List.getElem_cons_zero]); go_simp; try (with_reducible rfl))
                try simp only [Act.put, List.getElem_toArray, List.getElem_cons_zero, List.setIfInBounds_toArray, List.set_cons_zero, List.set_cons_succ]
                refine wpAnyH_take (i := 1) (v := ?_) rfl (by kernel_rfl) (by kernel_rfl) (by kernel_rfl) (fun _ _ _ h => h) (Or.inl ⟨by rfl, ?_⟩) (by assumption) ?_
                rotate_left
                · (intro w hSw; obtain ⟨hS0, hS1, hS2, hS3, hS4, -⟩ := hSw; (try simp only [List.getElem_toArray, List.getElem_cons_zero, List.getElem_cons_succ]); go_simp; try (with_reducible rfl))
                try simp only [Act.put, List.getElem_toArray, List.getElem_cons_zero, List.getElem_cons_succ, List.setIfInBounds_toArray, List.set_cons_zero, List.set_cons_succ]
                refine wpAnyH_take (i := 2) (v := ?_) rfl (by kernel_rfl) (by kernel_rfl) (by kernel_rfl) (fun _ _ _ h => h) (Or.inl ⟨by rfl, ?_⟩) (by assumption) ?_
                rotate_left
                · (intro w hSw; obtain ⟨hS0, hS1, hS2, hS3, hS4, -⟩ := hSw; (try simp only [List.getElem_toArray, List.getElem_cons_zero, List.getElem_cons_succ]); go_simp; try (with_reducible rfl))
                try simp only [Act.put, List.getElem_toArray, List.getElem_cons_zero, List.getElem_cons_succ, List.setIfInBounds_toArray, List.set_cons_zero, List.set_cons_succ]
                refine wpAnyH_take (i := 3) (v := ?_) rfl (by kernel_rfl) (by kernel_rfl) (by kernel_rfl) (fun _ _ _ h => h) (Or.inl ⟨by rfl, ?_⟩) (by assumption) ?_
                rotate_left
                · (intro w hSw; obtain ⟨hS0, hS1, hS2, hS3, hS4, -⟩ := hSw; (try simp only [List.getElem_toArray, List.getElem_cons_zero, List.getElem_cons_succ]); go_simp; try (with_reducible rfl))
                try simp only [Act.put, List.getElem_toArray, List.getElem_cons_zero, List.getElem_cons_succ, List.setIfInBounds_toArray, List.set_cons_zero, List.set_cons_succ]
                refine wpAnyH_take (i := 4) (v := ?_) rfl (by kernel_rfl) (by kernel_rfl) (by kernel_rfl) (fun _ _ _ h => h) (Or.inl ⟨by rfl, ?_⟩) (by assumption) ?_
                rotate_left
                · (intro w hSw; obtain ⟨hS0, hS1, hS2, hS3, hS4, -⟩ := hSw; (try simp only [List.getElem_toArray, List.getElem_cons_zero, List.getElem_cons_succ]); go_simp; try (with_reducible rfl))
                try simp only [Act.put, List.getElem_toArray, List.getElem_cons_zero, List.getElem_cons_succ, List.setIfInBounds_toArray, List.set_cons_zero, List.set_cons_succ]
                refine wpAnyH_take (i := 5) (v := ?_) rfl (by kernel_rfl) (by kernel_rfl) (by kernel_rfl) (fun _ _ _ h => h) (Or.inl ⟨by rfl, ?_⟩) (by assumption) ?_
                rotate_left
                · (intro w hSw; obtain ⟨hS0, hS1, hS2, hS3, hS4, -⟩ := hSw; (try simp only [List.getElem_toArray, List.getElem_cons_zero, List.getElem_cons_succ]); go_simp; try (with_reducible rfl))
                try simp only [Act.put, List.getElem_toArray, List.getElem_cons_zero, List.getElem_cons_succ, List.setIfInBounds_toArray, List.set_cons_zero, List.set_cons_succ]
                refine wpAnyH_take (i := 6) (v := ?_) rfl (by kernel_rfl) (by kernel_rfl) (by kernel_rfl) (fun _ _ _ h => h) (Or.inl ⟨by rfl, ?_⟩) (by assumption) ?_
                rotate_left
                · (intro w hSw; obtain ⟨hS0, hS1, hS2, hS3, hS4, -⟩ := hSw; (try simp only [List.getElem_toArray, List.getElem_cons_zero, List.getElem_cons_succ]); go_simp; try (with_reducible rfl))
                try simp only [Act.put, List.getElem_toArray, List.getElem_cons_zero, List.getElem_cons_succ, List.setIfInBounds_toArray, List.set_cons_zero, List.set_cons_succ]
                refine wpAnyH_take (i := 7) (v := ?_) rfl (by kernel_rfl) (by kernel_rfl) (by kernel_rfl) (fun _ _ _ h => h) (Or.inl ⟨by rfl, ?_⟩) (by assumption) ?_
                rotate_left
                · (intro w hSw; obtain ⟨hS0, hS1, hS2, hS3, hS4, -⟩ := hSw; (try simp only [List.getElem_toArray, List.getElem_cons_zero, List.getElem_cons_succ]); go_simp; try (with_reducible rfl))
                try simp only [Act.put, List.getElem_toArray, List.getElem_cons_zero, List.getElem_cons_succ, List.setIfInBounds_toArray, List.set_cons_zero, List.set_cons_succ]
                refine wpAnyH_take (i := 8) (v := ?_) rfl (by kernel_rfl) (by kernel_rfl) (by kernel_rfl) (fun _ _ _ h => h) (Or.inl ⟨by rfl, ?_⟩) (by assumption) ?_
                rotate_left
                · (intro w hSw; obtain ⟨hS0, hS1, hS2, hS3, hS4, -⟩ := hSw; (try simp only [List.getElem_toArray, List.getElem_cons_zero, List.getElem_cons_succ]); go_simp; try (with_reducible rfl))
                try simp only [Act.put, List.getElem_toArray, List.getElem_cons_zero, List.getElem_cons_succ, List.setIfInBounds_toArray, List.set_cons_zero, List.set_cons_succ]
                refine wpAnyH_take (i := 9) (v := ?_) rfl (by kernel_rfl) (by kernel_rfl) (by kernel_rfl) (fun _ _ _ h => h) (Or.inl ⟨by rfl, ?_⟩) (by assumption) ?_
                rotate_left
                · (intro w hSw; obtain ⟨hS0, hS1, hS2, hS3, hS4, -⟩ := hSw; (try simp only [List.getElem_toArray, List.getElem_cons_zero, List.getElem_cons_succ]); go_simp; try (with_reducible rfl))
                try simp only [Act.put, List.getElem_toArray, List.getElem_cons_zero, List.getElem_cons_succ, List.setIfInBounds_toArray, List.set_cons_zero, List.set_cons_succ]
                refine wpAnyH_take (i := 10) (v := ?_) rfl (by kernel_rfl) (by kernel_rfl) (by kernel_rfl) (fun _ _ _ h => h) (Or.inl ⟨by rfl, ?_⟩) (by assumption) ?_
                rotate_left
                · (intro w hSw; obtain ⟨hS0, hS1, hS2, hS3, hS4, -⟩ := hSw; (try simp only [List.getElem_toArray, List.getElem_cons_zero, List.getElem_cons_succ]); go_simp; try (with_reducible rfl))
                try simp only [Act.put, List.getElem_toArray, List.getElem_cons_zero, List.getElem_cons_succ, List.setIfInBounds_toArray, List.set_cons_zero, List.set_cons_succ]
                refine wpAnyH_take (i := 11) (v := ?_) rfl (by kernel_rfl) (by kernel_rfl) (by kernel_rfl) (fun _ _ _ h => h) (Or.inl ⟨by rfl, ?_⟩) (by assumption) ?_
                rotate_left
                · (intro w hSw; obtain ⟨hS0, hS1, hS2, hS3, hS4, -⟩ := hSw; (try simp only [List.getElem_toArray, List.getElem_cons_zero, List.getElem_cons_succ]); go_simp; try (with_reducible rfl))
                try simp only [Act.put, List.getElem_toArray, List.getElem_cons_zero, List.getElem_cons_succ, List.setIfInBounds_toArray, List.set_cons_zero, List.set_cons_succ]
                refine wpAnyH_take (i := 12) (v := ?_) rfl (by kernel_rfl) (by kernel_rfl) (by kernel_rfl) (fun _ _ _ h => h) (Or.inl ⟨by rfl, ?_⟩) (by assumption) ?_
                rotate_left
                · (intro w hSw; obtain ⟨hS0, hS1, hS2, hS3, hS4, -⟩ := hSw; (try simp only [List.getElem_toArray, List.getElem_cons_zero, List.getElem_cons_succ]); go_simp; try (with_reducible rfl))
                try simp only [Act.put, List.getElem_toArray, List.getElem_cons_zero, List.getElem_cons_succ, List.setIfInBounds_toArray, List.set_cons_zero, List.set_cons_succ]
                refine wpAnyH_take (i := 13) (v := ?_) rfl (by kernel_rfl) (by kernel_rfl) (by kernel_rfl) (fun _ _ _ h => h) (Or.inl ⟨by rfl, ?_⟩) (by assumption) ?_
                rotate_left
                · (intro w hSw; obtain ⟨hS0, hS1, hS2, hS3, hS4, -⟩ := hSw; (try simp only [List.getElem_toArray, List.getElem_cons_zero, List.getElem_cons_succ]); go_simp; try (with_reducible rfl))
                try simp only [Act.put, List.getElem_toArray, List.getElem_cons_zero, List.getElem_cons_succ, List.setIfInBounds_toArray, List.set_cons_zero, List.set_cons_succ]
                refine wpAnyH_take (i := 14) (v := ?_) rfl (by kernel_rfl) (by kernel_rfl) (by kernel_rfl) (fun _ _ _ h => h) (Or.inl ⟨by rfl, ?_⟩) (by assumption) ?_
                rotate_left
                · (intro w hSw; obtain ⟨hS0, hS1, hS2, hS3, hS4, -⟩ := hSw; (try simp only [List.getElem_toArray, List.getElem_cons_zero, List.getElem_cons_succ]); go_simp; try (with_reducible rfl))
                try simp only [Act.put, List.getElem_toArray, List.getElem_cons_zero, List.getElem_cons_succ, List.setIfInBounds_toArray, List.set_cons_zero, List.set_cons_succ]
                refine wpAnyH_take (i := 15) (v := ?_) rfl (by kernel_rfl) (by kernel_rfl) (by kernel_rfl) (fun _ _ _ h => h) (Or.inl ⟨by rfl, ?_⟩) (by assumption) ?_
                rotate_left
                · (intro w hSw; obtain ⟨hS0, hS1, hS2, hS3, hS4, -⟩ := hSw; (try simp only [List.getElem_toArray, List.getElem_cons_zero, List.getElem_cons_succ]); go_simp; try (with_reducible rfl))
                try simp only [Act.put, List.getElem_toArray, List.getElem_cons_zero, List.getElem_cons_succ, List.setIfInBounds_toArray, List.set_cons_zero, List.set_cons_succ]
                refine wpAnyH_take (i := 16) (v := ?_) rfl (by kernel_rfl) (by kernel_rfl) (by kernel_rfl) (fun _ _ _ h => h) (Or.inl ⟨by rfl, ?_⟩) (by assumption) ?_
                rotate_left
                · (intro w hSw; obtain ⟨hS0, hS1, hS2, hS3, hS4, -⟩ := hSw; (try simp only [List.getElem_toArray, List.getElem_cons_zero, List.getElem_cons_succ]); go_simp; try (with_reducible rfl))
                try simp only [Act.put, List.getElem_toArray, List.getElem_cons_zero, List.getElem_cons_succ, List.setIfInBounds_toArray, List.set_cons_zero, List.set_cons_succ]
                obtain ⟨TD, hTD1, hTD2⟩ := uCont_d
                refine wpAnyH_take (i := 17) (v := .agg (secA ks)) rfl (by kernel_rfl) (by kernel_rfl) (by kernel_rfl) (fun _ _ _ h => h) (yieldsIf_load_mid (by rfl) 85 _ rfl vg ((xn - 1) * 128) rfl (secL ks) TD (fun w h => h.2.2.2.2.2) hTD1 hTD2 (sContL ks HKC.out)) (by assumption) ?_
                try simp only [Act.put, List.getElem_toArray, List.getElem_cons_zero, List.getElem_cons_succ, List.setIfInBounds_toArray, List.set_cons_zero, List.set_cons_succ]
                refine wpAnyH_take (i := 18) (v := ?_) rfl (by kernel_rfl) (by kernel_rfl) (by kernel_rfl) (fun _ _ _ h => h) (Or.inl ⟨by rfl, ?_⟩) (by assumption) ?_
                rotate_left
                · (intro w hSw; obtain ⟨hS0, hS1, hS2, hS3, hS4, -⟩ := hSw; (try simp only [List.getElem_toArray, List.getElem_cons_zero, List.getElem_cons_succ]); go_simp; try (with_reducible rfl))
                try simp only [Act.put, List.getElem_toArray, List.getElem_cons_zero, List.getElem_cons_succ, List.setIfInBounds_toArray, List.set_cons_zero, List.set_cons_succ]
                refine wpAnyH_ready (rs := [19]) (by kernel_rfl) (by simp) ?_
                refine AllReadyH.cons rfl (fun K hK => ?_) AllReadyH.nil
                refine step_storeSec rfl _ _ rfl L'.F (xs * 128) ks HKC.out rfl rfl 85 cur HCUR.out HCS.out ?_
                refine hK.out _ _ HSA.out (fun hHeld => ?_)
                clear hK K
                try simp only [Act.put, List.getElem_toArray, List.getElem_cons_zero, List.getElem_cons_succ, List.setIfInBounds_toArray, List.set_cons_zero, List.set_cons_succ]
                refine wpAnyH_done (by kernel_rfl) ?_ _
                refine NoPanic.normal ?_
                go_wp2
                go_roundw
                case rel => exact ⟨k + 1, hlt, by go_num, ⟨L', by rw [Dk.crash_succ s HX.out]; unfold keep1; rw [if_pos h5]; simp only [Int.toNat_natCast]; rw [HKS.out]; exact HSET.out⟩, HNS.out, HOK1.out, HBDR.out⟩
                case measure => simp [intOf]; omega
              · go_wp2
                go_roundw
                case rel => exact ⟨k + 1, hlt, by go_num, ⟨L', by rw [Dk.crash_succ s HX.out]; unfold keep1; rw [if_neg h5]; exact HDD.out⟩, HND.out, HOK1.out, HBD.out⟩
                case measure => simp [intOf]; omega
            · have h4 : (1 : Int) < (q1 : Int) := by omega
              go_quiet ((first | (with_reducible (go_at_call 45; exact Calls.quiet_of_same (HASQ _).out)) | (with_reducible (go_at_call 28; exact Calls.quiet_of_same (HPEQ _).out))))
              go_wp2
              go_ret2
              exact .inr ⟨fun ha => HOKC.out False (fun h => by have := h.2.2.2; simp only at this; rw [HQ.out] at this; omega) ha, rfl, HB4.out.trans ⟨rfl, rfl, rfl, Nat.le_refl _, fun _ _ => rfl⟩⟩
    · have hlt' : ¬ (k : Int) < m := by omega
      obtain rfl : k = m := by omega
      go_wp2
      go_ret2
      exact .inl ⟨HM.out ▸ HOKS.out, _, rfl, c, O1, L', rfl, HM.out ▸ HD.out, HO1.out, HB.out⟩
end
end Go.Proofs.Ytbnfjceoogehmaa
