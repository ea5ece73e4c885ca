/- The iterator of Passing. -/
import Derived.Test.YteibholghonajaaFiS2
namespace Go.Proofs.Yteibholghonajaa
open Go.RowKit
attribute [local go_sem] Oper.semAt_some

theorem pk_of_own {W : World} {base : Nat} {A : Option Addr} {n c : Nat} {P : List Nat} (h : W.ownsRow base 5 1 (.slice A n c) n (byL P)) (hl : P.length = n) (h8 : ∀ y ∈ P, y < 256) (hn : n ≤ 64) : PkOk W ⟨A, n, c, P⟩ := by
  obtain ⟨A', c', e, h0, -⟩ := own_form h
  cases e
  exact ⟨hl, h0, PkIn.of_own h hl h8, by show (n : Int) ≤ _; omega⟩
theorem roundIn_or {F : Fence} {n : Nat} {P : Program} {l : Nat} {fn : Nat} {tmps : Array Value} {assign body : Code} {W : World} {J Jx : World → Prop}
    (h : RoundIn F n P l fn tmps assign body W fun e W' => (e = .returned (.bool true) ∧ J W') ∨ (e = .returned (.bool false) ∧ Jx W')) : RoundIn F n P l fn tmps assign body W fun e W' => ∃ b, e = .returned (.bool b) ∧ ((b = true ∧ J W') ∨ (b = false ∧ Jx W')) :=
  h.mono fun e W' hh => by
    rcases hh with ⟨rfl, h⟩ | ⟨rfl, h⟩
    · exact ⟨true, rfl, .inl ⟨rfl, h⟩⟩
    · exact ⟨false, rfl, .inr ⟨rfl, h⟩⟩
/-- What the iterator tells: a copy of a packet's bytes, laid behind B0. -/
def GaveAt (B0 : Nat) (Ps : List Pk) (is : List Nat) (k : Nat) (u : Value) (W : World) : Prop := ∃ x, Ps[is.getD k 0]? = some x ∧ W.ownsRow B0 5 1 u x.n (byL x.P) ∧ x.P.length = x.n ∧ (∀ y ∈ x.P, y < 256) ∧ x.n ≤ 64
def encG (is : List Nat) (k : Nat) (u : Value) : Array Value := #[.int .i64 (is.getD k 0 : Nat), u]
set_option maxRecDepth 100000 in
set_option maxHeartbeats 4000000 in
theorem passing_steps (m : Nat) (hm : 1 ≤ m) (B0 base bx : Nat) (Ps : List Pk) (is : List Nat) (v : Value) (vs : List Value) (his : is.length ≤ 1000) (I : Nat → World → Prop) (hI : ∀ k W, I k W → PassIs W base bx Ps is v vs ∧ B0 ≤ W.heap.size) :
    StepsG Fence.wide m Try.prog 35 #[.pointer (some ⟨bx, 0, none⟩)] (encG is) is.length (GaveAt B0 Ps is) I := by
  intro l J Jx W hJI hJb hY h0
  refine callsIn_of_wp Try.func35 rfl trivial ?_ rfl
  simp only [Try.ntmps35, List.size_toArray, List.length_cons, List.length_nil, Nat.reduceAdd, Nat.reduceSub, Array.replicate_succ, Array.replicate_zero, List.push_toArray, List.append_toArray, List.nil_append, List.cons_append]
  obtain ⟨hp0, -⟩ := hI 0 W (hJI 0 W h0)
  have c0 := cell_of_row _ _ 0 _ _ _ hp0.cell
  obtain ⟨A, c, hv, hA0, hA1⟩ := own_form hp0.own
  have HA1 := Lib.hid hA1
  have HJ0 := Lib.hid h0
  have HLEN := Lib.hid hp0.len
  obtain ⟨n, hn⟩ : ∃ n, is.length = n := ⟨_, rfl⟩
  rw [hn] at hv his ⊢
  have HV := Lib.hid hv
  have HN := Lib.hid hn
  rw [hv] at c0
  clear hp0 h0 hA0 hA1 hv hn
  gi_wp2
  clear c0
  gi_loopw [7] (fun i wr => ∃ k : Nat, k ≤ n ∧ i = .int .i64 k ∧ J k wr) (fun i _ => n - (intOf i).toNat)
  case atStart => exact ⟨0, Nat.zero_le _, rfl, HJ0.out⟩
  case round =>
    obtain ⟨k, hk, rfl, hJs⟩ := hrel
    have HJ := Lib.hid hJs
    obtain ⟨hp, hB0⟩ := hI k wr (hJI k wr hJs)
    clear hJs
    by_cases hlt : k < n
    · have hlt' : (k : Int) < n := by omega
      obtain ⟨i, hi⟩ : ∃ i, is[k]? = some i := ⟨_, List.getElem?_eq_getElem (by rw [HN.out]; exact hlt)⟩
      obtain ⟨u, hu⟩ : ∃ u, vs[k]? = some u := ⟨_, List.getElem?_eq_getElem (by rw [← HLEN.out, HN.out]; exact hlt)⟩
      obtain ⟨r0, r1⟩ := rowP_at is vs k i u hi hu
      obtain ⟨x, hx, hou, hl8, h8, h64⟩ := hp.told k i u hi hu
      obtain ⟨Au, cu, rfl, hAu, hAu2⟩ := own_form hou
      have how := hp.own
      rw [HV.out, HN.out] at how
      obtain ⟨A', c', e, hB, hD⟩ := own_form how
      cases e
      cases A with
      | none => have := (hB rfl).1; omega
      | some ad =>
        obtain ⟨g, rfl, -, hgl, -⟩ := hD ad rfl
        have d0 := how.cells (g := g) rfl _ _ r0
        have d1 := how.cells (g := g) rfl _ _ r1
        rw [add_plain, Nat.zero_add] at d0 d1
        have HPK := Lib.hid (pk_of_own hou hl8 h8 h64)
        have HX := Lib.hid hx
        have H8 := Lib.hid (show x.P.length = x.n ∧ (∀ y ∈ x.P, y < 256) ∧ x.n ≤ 64 from ⟨hl8, h8, h64⟩)
        have HGD := Lib.hid (show is.getD k 0 = i by rw [List.getD_eq_getElem?_getD, hi]; rfl)
        have HBB := Lib.hid hB0
        clear r0 r1 hou hl8 h8 h64 hAu hAu2 how hB hD hx hi hu hp hB0
        obtain ⟨wa, hwa⟩ : ∃ wa, (wr.alloc (Obj.cells #[.int .i64 (i : Int), .slice Au x.n cu] 67)).drew = wa := ⟨_, rfl⟩
        have hba : Below wr.heap.size wr wa := by rw [← hwa]; exact ((Below.refl wr.heap.size wr).alloc (Nat.le_refl _) _).drew
        have HJa := Lib.hid (hJb k _ _ HJ.out hba)
        have HPKa := Lib.hid (HPK.out.below hba)
        have HBa := Lib.hid (Nat.le_trans HBB.out hba.size)
        have na : wa.heap[wr.heap.size]? = some (Obj.cells #[.int .i64 (i : Int), .slice Au x.n cu] 67 (0, 0)) := by rw [← hwa]; exact heap_alloc_new wr _
        have e0 := cell_of_row _ _ 0 _ _ _ na
        have e1 := cell_of_row _ _ 1 _ _ _ na
        have NA := Lib.hid na
        have hx6 : x.n ≤ 1000000 := by have := H8.out.2.2; omega
        have HK : Hid (k < is.length) := Lib.hid (by rw [HN.out]; exact hlt)
        clear na hba
        gi_wp2
        refine wpIn_region_any (by kernel_rfl) ?_
        try (change wpAnyIn _ _ _ _ _ _ _ _ _ (World.drew _))
        rw [hwa]
        clear hwa d0 d1
        refine wpAnyIn_take (i := 0) (v := ?_) rfl rfl (by kernel_rfl) (by kernel_rfl) (by kernel_rfl) (fun _ _ _ h => h) ⟨Or.inl ⟨by rfl, ?_⟩, fun _ => rfl⟩ ?_
        rotate_left
        · (intro w; (try simp only [List.getElem_toArray, List.getElem_cons_zero]); go_simp; try (with_reducible rfl))
        try simp only [Act.put, List.getElem_toArray, List.getElem_cons_zero, List.setIfInBounds_toArray, List.set_cons_zero, List.set_cons_succ]
        refine wpAnyIn_take (i := 1) (v := ?_) rfl rfl (by kernel_rfl) (by kernel_rfl) (by kernel_rfl) (fun _ _ _ h => h) ⟨Or.inl ⟨by rfl, ?_⟩, fun _ => rfl⟩ ?_
        rotate_left
        · (intro w; (try simp only [List.getElem_toArray, List.getElem_cons_zero, List.getElem_cons_succ]); go_simp; try (with_reducible rfl))
        try simp only [Act.put, List.getElem_toArray, List.getElem_cons_zero, List.getElem_cons_succ, List.setIfInBounds_toArray, List.set_cons_zero, List.set_cons_succ]
        refine wpAnyIn_take (i := 3) (v := ?_) rfl rfl (by kernel_rfl) (by kernel_rfl) (by kernel_rfl) (fun _ _ _ h => h) ⟨Or.inl ⟨by rfl, ?_⟩, fun _ => rfl⟩ ?_
        rotate_left
        · (intro w; (try simp only [List.getElem_toArray, List.getElem_cons_zero, List.getElem_cons_succ]); go_simp; try (with_reducible rfl))
        try simp only [Act.put, List.getElem_toArray, List.getElem_cons_zero, List.getElem_cons_succ, List.setIfInBounds_toArray, List.set_cons_zero, List.set_cons_succ]
        refine wpAnyIn_ready (rs := [2, 4]) (by kernel_rfl) (by simp) ?_
        refine (AllReadyIn.cons rfl (fun K hK => ?_) (AllReadyIn.cons rfl (fun K hK => ?_) AllReadyIn.nil))
        · (try simp only [List.getElem_toArray, List.getElem_cons_zero, List.getElem_cons_succ]); go_simp
          refine hK _ _ ?_
          clear hK K
          try simp only [Act.put, List.getElem_toArray, List.getElem_cons_zero, List.getElem_cons_succ, List.setIfInBounds_toArray, List.set_cons_zero, List.set_cons_succ]
          refine wpAnyIn_ready (rs := [4]) (by kernel_rfl) (by simp) ?_
          refine (AllReadyIn.cons rfl (fun K hK => ?_) AllReadyIn.nil)
          (try simp only [List.getElem_toArray, List.getElem_cons_zero, List.getElem_cons_succ]); go_simp
          refine hK _ _ ?_
          clear hK K
          try simp only [Act.put, List.getElem_toArray, List.getElem_cons_zero, List.getElem_cons_succ, List.setIfInBounds_toArray, List.set_cons_zero, List.set_cons_succ]
          refine wpAnyIn_ready (rs := [5]) (by kernel_rfl) (by simp) ?_
          refine (AllReadyIn.cons rfl (fun K hK => ?_) AllReadyIn.nil)
          (try simp only [List.getElem_toArray, List.getElem_cons_zero, List.getElem_cons_succ]); go_simp
          refine ⟨trivial, ?_⟩
          gi_at_call 30
          refine (callsIn_wide.2 (clone_any HPKa.out hx6)).mono ?_
          rintro e w2 ⟨u2, rfl, ho2, hb2⟩
          have E0 := (hb2.cell (p := ⟨wr.heap.size, 0, none⟩) (Array.getElem?_eq_some_iff.1 NA.out).1).trans e0
          have HJ2 := hJb k _ _ HJa.out hb2
          have HG2 : GaveAt B0 Ps is k u2 w2 := ⟨x, by rw [HGD.out]; exact HX.out, own_base ho2 HBa.out, H8.out⟩
          obtain ⟨A2, c2, rfl, -, -⟩ := own_form ho2
          obtain ⟨fn, tmps, assign, body, hy, hR⟩ := hY k w2 _ HK.out HJ2 HG2
          unfold encG at hy
          rw [HGD.out] at hy
          have HR2 := Lib.hid (roundIn_or hR)
          clear hR HJ2 HG2 ho2 hb2 e0
          refine hK _ _ ?_
          clear hK K
          try simp only [Act.put, List.getElem_toArray, List.getElem_cons_zero, List.getElem_cons_succ, List.setIfInBounds_toArray, List.set_cons_zero, List.set_cons_succ]
          clear E0
          refine wpAnyIn_ready (rs := [6]) (by kernel_rfl) (by simp) ?_
          refine (AllReadyIn.cons rfl (fun K hK => ?_) AllReadyIn.nil)
          (try simp only [List.getElem_toArray, List.getElem_cons_zero, List.getElem_cons_succ]); go_simp
          refine HR2.out.mono ?_
          rintro e W3 ⟨bb, rfl, hend⟩
          have HEND := Lib.hid hend
          clear hend
          gi_wp2_with fail
          try clear hK K
          try simp only [Act.put, List.getElem_toArray, List.getElem_cons_zero, List.getElem_cons_succ, List.setIfInBounds_toArray, List.set_cons_zero, List.set_cons_succ]
          refine wpAnyIn_ready (rs := [7]) (by kernel_rfl) (by simp) ?_
          refine (AllReadyIn.cons rfl (fun K hK => ?_) AllReadyIn.nil)
          (try simp only [List.getElem_toArray, List.getElem_cons_zero, List.getElem_cons_succ]); go_simp
          refine hK _ _ ?_
          clear hK K
          try simp only [Act.put, List.getElem_toArray, List.getElem_cons_zero, List.getElem_cons_succ, List.setIfInBounds_toArray, List.set_cons_zero, List.set_cons_succ]
          refine wpAnyIn_done (by kernel_rfl) ?_ _
          clear hy HR2
          rcases HEND.out with ⟨rfl, hJ3⟩ | ⟨rfl, hJx⟩
          · have HJ3 := Lib.hid hJ3
            clear hJ3 HEND
            gi_wp2
            go_roundw
            case rel => exact ⟨k + 1, hlt, by go_num, HJ3.out⟩
            case measure => simp [intOf]; omega
          · have HJ3 := Lib.hid hJx
            clear hJx HEND
            gi_wp2
            exact bodyPost_ret (v := .tuple #[]) (by simp [results, Try.results35, go_sem]) rfl ⟨⟨_, rfl⟩, .inr HJ3.out⟩
        · (try simp only [List.getElem_toArray, List.getElem_cons_zero, List.getElem_cons_succ]); go_simp
          refine hK _ _ ?_
          clear hK K
          try simp only [Act.put, List.getElem_toArray, List.getElem_cons_zero, List.getElem_cons_succ, List.setIfInBounds_toArray, List.set_cons_zero, List.set_cons_succ]
          refine wpAnyIn_ready (rs := [2, 5]) (by kernel_rfl) (by simp) ?_
          refine (AllReadyIn.cons rfl (fun K hK => ?_) (AllReadyIn.cons rfl (fun K hK => ?_) AllReadyIn.nil))
          · (try simp only [List.getElem_toArray, List.getElem_cons_zero, List.getElem_cons_succ]); go_simp
            refine hK _ _ ?_
            clear hK K
            try simp only [Act.put, List.getElem_toArray, List.getElem_cons_zero, List.getElem_cons_succ, List.setIfInBounds_toArray, List.set_cons_zero, List.set_cons_succ]
            refine wpAnyIn_ready (rs := [5]) (by kernel_rfl) (by simp) ?_
            refine (AllReadyIn.cons rfl (fun K hK => ?_) AllReadyIn.nil)
            (try simp only [List.getElem_toArray, List.getElem_cons_zero, List.getElem_cons_succ]); go_simp
            refine ⟨trivial, ?_⟩
            gi_at_call 30
            refine (callsIn_wide.2 (clone_any HPKa.out hx6)).mono ?_
            rintro e w2 ⟨u2, rfl, ho2, hb2⟩
            have E0 := (hb2.cell (p := ⟨wr.heap.size, 0, none⟩) (Array.getElem?_eq_some_iff.1 NA.out).1).trans e0
            have HJ2 := hJb k _ _ HJa.out hb2
            have HG2 : GaveAt B0 Ps is k u2 w2 := ⟨x, by rw [HGD.out]; exact HX.out, own_base ho2 HBa.out, H8.out⟩
            obtain ⟨A2, c2, rfl, -, -⟩ := own_form ho2
            obtain ⟨fn, tmps, assign, body, hy, hR⟩ := hY k w2 _ HK.out HJ2 HG2
            unfold encG at hy
            rw [HGD.out] at hy
            have HR2 := Lib.hid (roundIn_or hR)
            clear hR HJ2 HG2 ho2 hb2 e0
            refine hK _ _ ?_
            clear hK K
            try simp only [Act.put, List.getElem_toArray, List.getElem_cons_zero, List.getElem_cons_succ, List.setIfInBounds_toArray, List.set_cons_zero, List.set_cons_succ]
            clear E0
            refine wpAnyIn_ready (rs := [6]) (by kernel_rfl) (by simp) ?_
            refine (AllReadyIn.cons rfl (fun K hK => ?_) AllReadyIn.nil)
            (try simp only [List.getElem_toArray, List.getElem_cons_zero, List.getElem_cons_succ]); go_simp
            refine HR2.out.mono ?_
            rintro e W3 ⟨bb, rfl, hend⟩
            have HEND := Lib.hid hend
            clear hend
            gi_wp2_with fail
            try clear hK K
            try simp only [Act.put, List.getElem_toArray, List.getElem_cons_zero, List.getElem_cons_succ, List.setIfInBounds_toArray, List.set_cons_zero, List.set_cons_succ]
            refine wpAnyIn_ready (rs := [7]) (by kernel_rfl) (by simp) ?_
            refine (AllReadyIn.cons rfl (fun K hK => ?_) AllReadyIn.nil)
            (try simp only [List.getElem_toArray, List.getElem_cons_zero, List.getElem_cons_succ]); go_simp
            refine hK _ _ ?_
            clear hK K
            try simp only [Act.put, List.getElem_toArray, List.getElem_cons_zero, List.getElem_cons_succ, List.setIfInBounds_toArray, List.set_cons_zero, List.set_cons_succ]
            refine wpAnyIn_done (by kernel_rfl) ?_ _
            clear hy HR2
            rcases HEND.out with ⟨rfl, hJ3⟩ | ⟨rfl, hJx⟩
            · have HJ3 := Lib.hid hJ3
              clear hJ3 HEND
              gi_wp2
              go_roundw
              case rel => exact ⟨k + 1, hlt, by go_num, HJ3.out⟩
              case measure => simp [intOf]; omega
            · have HJ3 := Lib.hid hJx
              clear hJx HEND
              gi_wp2
              exact bodyPost_ret (v := .tuple #[]) (by simp [results, Try.results35, go_sem]) rfl ⟨⟨_, rfl⟩, .inr HJ3.out⟩
          · (try simp only [List.getElem_toArray, List.getElem_cons_zero, List.getElem_cons_succ]); go_simp
            refine ⟨trivial, ?_⟩
            gi_at_call 30
            refine (callsIn_wide.2 (clone_any HPKa.out hx6)).mono ?_
            rintro e w2 ⟨u2, rfl, ho2, hb2⟩
            have E0 := (hb2.cell (p := ⟨wr.heap.size, 0, none⟩) (Array.getElem?_eq_some_iff.1 NA.out).1).trans e0
            have HJ2 := hJb k _ _ HJa.out hb2
            have HG2 : GaveAt B0 Ps is k u2 w2 := ⟨x, by rw [HGD.out]; exact HX.out, own_base ho2 HBa.out, H8.out⟩
            obtain ⟨A2, c2, rfl, -, -⟩ := own_form ho2
            obtain ⟨fn, tmps, assign, body, hy, hR⟩ := hY k w2 _ HK.out HJ2 HG2
            unfold encG at hy
            rw [HGD.out] at hy
            have HR2 := Lib.hid (roundIn_or hR)
            clear hR HJ2 HG2 ho2 hb2 e0
            refine hK _ _ ?_
            clear hK K
            try simp only [Act.put, List.getElem_toArray, List.getElem_cons_zero, List.getElem_cons_succ, List.setIfInBounds_toArray, List.set_cons_zero, List.set_cons_succ]
            refine wpAnyIn_ready (rs := [2]) (by kernel_rfl) (by simp) ?_
            refine (AllReadyIn.cons rfl (fun K hK => ?_) AllReadyIn.nil)
            (try simp only [List.getElem_toArray, List.getElem_cons_zero, List.getElem_cons_succ]); go_simp
            refine hK _ _ ?_
            clear hK K
            try simp only [Act.put, List.getElem_toArray, List.getElem_cons_zero, List.getElem_cons_succ, List.setIfInBounds_toArray, List.set_cons_zero, List.set_cons_succ]
            clear E0
            refine wpAnyIn_ready (rs := [6]) (by kernel_rfl) (by simp) ?_
            refine (AllReadyIn.cons rfl (fun K hK => ?_) AllReadyIn.nil)
            (try simp only [List.getElem_toArray, List.getElem_cons_zero, List.getElem_cons_succ]); go_simp
            refine HR2.out.mono ?_
            rintro e W3 ⟨bb, rfl, hend⟩
            have HEND := Lib.hid hend
            clear hend
            gi_wp2_with fail
            try clear hK K
            try simp only [Act.put, List.getElem_toArray, List.getElem_cons_zero, List.getElem_cons_succ, List.setIfInBounds_toArray, List.set_cons_zero, List.set_cons_succ]
            refine wpAnyIn_ready (rs := [7]) (by kernel_rfl) (by simp) ?_
            refine (AllReadyIn.cons rfl (fun K hK => ?_) AllReadyIn.nil)
            (try simp only [List.getElem_toArray, List.getElem_cons_zero, List.getElem_cons_succ]); go_simp
            refine hK _ _ ?_
            clear hK K
            try simp only [Act.put, List.getElem_toArray, List.getElem_cons_zero, List.getElem_cons_succ, List.setIfInBounds_toArray, List.set_cons_zero, List.set_cons_succ]
            refine wpAnyIn_done (by kernel_rfl) ?_ _
            clear hy HR2
            rcases HEND.out with ⟨rfl, hJ3⟩ | ⟨rfl, hJx⟩
            · have HJ3 := Lib.hid hJ3
              clear hJ3 HEND
              gi_wp2
              go_roundw
              case rel => exact ⟨k + 1, hlt, by go_num, HJ3.out⟩
              case measure => simp [intOf]; omega
            · have HJ3 := Lib.hid hJx
              clear hJx HEND
              gi_wp2
              exact bodyPost_ret (v := .tuple #[]) (by simp [results, Try.results35, go_sem]) rfl ⟨⟨_, rfl⟩, .inr HJ3.out⟩
    · obtain rfl : k = n := by omega
      clear hp
      gi_wp2
      go_end0
      exact ⟨⟨_, rfl⟩, .inl HJ.out⟩
end Go.Proofs.Yteibholghonajaa
