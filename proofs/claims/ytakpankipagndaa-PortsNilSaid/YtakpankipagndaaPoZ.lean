/- PortsNil. -/
import Derived.Test.YtakpankipagndaaPoY7
namespace Go.Proofs.Ytakpankipagndaa
open Go.RowKit (wrap64)
open Go.RowKit
open Go.Maps (Keyed)
attribute [local go_sem] Oper.semAt_some

/-- A packet made behind the world in which the ports stand. -/
theorem kn_come_at {w0 W W' : World} {p : Nat} {s : Ps} {Ks : List (Value × Nat × Nat × Nat × List Value)} (h : KnK w0 W p s Ks) (hb : Below W.heap.size W W') {g n c : Nat} (hg : W.heap.size ≤ g) {P : List Nat} (hp : PkF W' (some ⟨g, 0, none⟩) n c P) :
    Calls Try.prog 19 #[.pointer (some ⟨p, 0, none⟩), .slice (some ⟨g, 0, none⟩) n c] W' fun e w' => ∃ v, e = .returned (.tuple #[v, .int .i64 (comeR s P).1]) ∧ KnK w0 w' p (comeR s P).2.1 ((v, 53, 2, (comeR s P).2.2.length, caL (comeR s P).2.2) :: Ks) := by
  have hk := h.step hb
  obtain ⟨O, R, L, K, kk⟩ := h
  refine kn_come hk hp (.inr ⟨O, R, L, ⟨K.step hb, kk.step hb⟩, fun b o q e hO => ?_⟩)
  cases e
  exact absurd (K.po.lo _ hO) (by omega)
theorem kn_long {w0 W : World} {p : Nat} {s : Ps} {Ks : List (Value × Nat × Nat × Nat × List Value)} (h : KnK w0 W p s Ks) (A : Option Addr) (n c : Nat) (hn : 64 < n) :
    Calls Try.prog 19 #[.pointer (some ⟨p, 0, none⟩), .slice A n c] W fun e w' => e = .returned (.tuple #[.slice none 0 0, .int .i64 3]) ∧ W = w' := by
  obtain ⟨O, R, L, K, kk⟩ := h
  exact come_long12 K.po A n c hn
/-- A packet of zeros is made. -/
theorem append_zeros_ex12 (w : World) (g x : Nat) (hx : x < 256) (hc : w.cell? ⟨g, 0, none⟩ = some (.int .u8 (x : Int))) (n : Nat) (h2 : 2 ≤ n) (hn2 : n ≤ 1000) (ty : TypeId) : ∃ w' c, (Builtin.append_ #[32, 3] ty #[.slice (some ⟨g, 0, none⟩) 1 1, .int .i64 (n : Int)]).run Try.prog w = .ok (.slice (some ⟨w.heap.size, 0, none⟩) (1 + n) c) w' ∧
    PkF w' (some ⟨w.heap.size, 0, none⟩) (1 + n) c (x :: List.replicate n 0) ∧ Below w.heap.size w w' :=
  ⟨_, _, run_append_zeros12 w g x hc n h2 hn2 ty, pk_zeros12 w x n _ hx _, ((Below.refl _ w).drew).alloc (Nat.le_refl _) _⟩
theorem newA12 (w : World) : Calls Try.prog 24 #[.slice (some ⟨w.heap.size, 0, none⟩) 1 1] (w.alloc (.cells #[.int .i64 17] 3)) fun e w' => e = .returned (.tuple #[.pointer none, .int .i64 2]) ∧ w.alloc (.cells #[.int .i64 17] 3) = w' := by
  have hI : IntsAt (w.alloc (.cells #[.int .i64 17] 3)) (some ⟨w.heap.size, 0, none⟩) [17] := ints_row12 (heap_alloc_new w (.cells #[.int .i64 17] 3))
  have hl : ([17] : List Int).length = 1 := rfl
  have := new_no12 hI 1 mq1 (by rw [hl]; decide)
  rw [hl] at this
  exact this
theorem newB12 (w : World) : Calls Try.prog 24 #[.slice (some ⟨w.heap.size, 0, none⟩) 9 9] (w.alloc (.cells #[.int .i64 1, .int .i64 1, .int .i64 1, .int .i64 1, .int .i64 1, .int .i64 1, .int .i64 1, .int .i64 1, .int .i64 1] 3)) fun e w' => e = .returned (.tuple #[.pointer none, .int .i64 2]) ∧ w.alloc (.cells #[.int .i64 1, .int .i64 1, .int .i64 1, .int .i64 1, .int .i64 1, .int .i64 1, .int .i64 1, .int .i64 1, .int .i64 1] 3) = w' := by
  have hI : IntsAt (w.alloc (.cells #[.int .i64 1, .int .i64 1, .int .i64 1, .int .i64 1, .int .i64 1, .int .i64 1, .int .i64 1, .int .i64 1, .int .i64 1] 3)) (some ⟨w.heap.size, 0, none⟩) [1, 1, 1, 1, 1, 1, 1, 1, 1] := ints_row12 (heap_alloc_new w (.cells #[.int .i64 1, .int .i64 1, .int .i64 1, .int .i64 1, .int .i64 1, .int .i64 1, .int .i64 1, .int .i64 1, .int .i64 1] 3))
  have hl : ([1, 1, 1, 1, 1, 1, 1, 1, 1] : List Int).length = 9 := rfl
  have := new_no12 hI 9 mq2 (by rw [hl]; decide)
  rw [hl] at this
  exact this
theorem newC12 (w : World) : Calls Try.prog 24 #[.slice (some ⟨w.heap.size, 0, none⟩) 4 4] (w.alloc (.cells #[.int .i64 4611686018427387904, .int .i64 4611686018427387904, .int .i64 4611686018427387904, .int .i64 4611686018427387904] 3)) fun e w' => e = .returned (.tuple #[.pointer none, .int .i64 2]) ∧ w.alloc (.cells #[.int .i64 4611686018427387904, .int .i64 4611686018427387904, .int .i64 4611686018427387904, .int .i64 4611686018427387904] 3) = w' := by
  have hI : IntsAt (w.alloc (.cells #[.int .i64 4611686018427387904, .int .i64 4611686018427387904, .int .i64 4611686018427387904, .int .i64 4611686018427387904] 3)) (some ⟨w.heap.size, 0, none⟩) [4611686018427387904, 4611686018427387904, 4611686018427387904, 4611686018427387904] := ints_row12 (heap_alloc_new w (.cells #[.int .i64 4611686018427387904, .int .i64 4611686018427387904, .int .i64 4611686018427387904, .int .i64 4611686018427387904] 3))
  have hl : ([4611686018427387904, 4611686018427387904, 4611686018427387904, 4611686018427387904] : List Int).length = 4 := rfl
  have := new_no12 hI 4 mq3 (by rw [hl]; decide)
  rw [hl] at this
  exact this
theorem kn_same_nil {w0 W : World} {p : Nat} {s : Ps} {Ks : List (Value × Nat × Nat × Nat × List Value)} (h : KnK w0 W p s Ks) : Calls Try.prog 15 #[.pointer (some ⟨p, 0, none⟩), .pointer none] W fun e w' => e = .returned (.bool false) ∧ W = w' := by
  obtain ⟨O, R, L, K, kk⟩ := h
  exact same_left12 K.po
set_option maxHeartbeats 16000000 in
set_option maxRecDepth 100000 in
theorem ports_nil_law (w : World) : Calls Try.prog 7 #[] w fun e w' => e = .returned (.bool true) ∧ Below w.heap.size w w' := by
  go_enter Try.func7, Try.ntmps7
  go_wp2_with fail
  go_at_call 24
  have hb1 : Below w.heap.size w (w.alloc (.cells #[.int .i64 2, .int .i64 2, .int .i64 2, .int .i64 2, .int .i64 2, .int .i64 2, .int .i64 2, .int .i64 2] 3)) := (Below.refl _ w).alloc (Nat.le_refl _) _
  refine Calls.mono (kn_new hb1 (qs := [2, 2, 2, 2, 2, 2, 2, 2]) (ints_row12 (heap_alloc_new w _)) 8 mq0 rfl) ?_
  rintro e w1 ⟨p, rfl, hk⟩
  have K1 := Lib.hid (show KnK w w1 p m0 [] from hk)
  clear hk hb1
  go_wp2_with fail
  go_at_call 24
  refine Calls.mono (newA12 w1) ?_
  rintro e w' ⟨rfl, rfl⟩
  have K2 := Lib.hid (K1.out.step (show Below w1.heap.size w1 (w1.alloc (.cells #[.int .i64 17] 3)) from (Below.refl _ w1).alloc (Nat.le_refl _) _))
  clear K1
  generalize w1.alloc (.cells #[.int .i64 17] 3) = w2 at *
  go_wp2_with fail
  go_at_call 24
  refine Calls.mono (newB12 w2) ?_
  rintro e w' ⟨rfl, rfl⟩
  have K3 := Lib.hid (K2.out.step (show Below w2.heap.size w2 (w2.alloc (.cells #[.int .i64 1, .int .i64 1, .int .i64 1, .int .i64 1, .int .i64 1, .int .i64 1, .int .i64 1, .int .i64 1, .int .i64 1] 3)) from (Below.refl _ w2).alloc (Nat.le_refl _) _))
  clear K2
  generalize w2.alloc (.cells #[.int .i64 1, .int .i64 1, .int .i64 1, .int .i64 1, .int .i64 1, .int .i64 1, .int .i64 1, .int .i64 1, .int .i64 1] 3) = w3 at *
  go_wp2_with fail
  go_at_call 24
  refine Calls.mono (newC12 w3) ?_
  rintro e w' ⟨rfl, rfl⟩
  have K4 := Lib.hid (K3.out.step (show Below w3.heap.size w3 (w3.alloc (.cells #[.int .i64 4611686018427387904, .int .i64 4611686018427387904, .int .i64 4611686018427387904, .int .i64 4611686018427387904] 3)) from (Below.refl _ w3).alloc (Nat.le_refl _) _))
  clear K3
  generalize w3.alloc (.cells #[.int .i64 4611686018427387904, .int .i64 4611686018427387904, .int .i64 4611686018427387904, .int .i64 4611686018427387904] 3) = w4 at *
  go_wp2_with fail
  go_at_call 17
  refine Calls.mono (kn_claim K4.out 7 (fl_nil12 _) (by decide) mc1.2.2) ?_
  rw [mc1.1, mc1.2.1]
  rintro e w5 ⟨rfl, hk⟩
  have K5 := Lib.hid (show KnK w w5 p m1 [] from hk)
  clear hk K4
  have hb5 : Below w5.heap.size w5 (w5.alloc (.cells #[.int .u8 7] 5)) := (Below.refl _ w5).alloc (Nat.le_refl _) _
  have hs5 : (w5.alloc (.cells #[.int .u8 7] 5)).heap.size = w5.heap.size + 1 := World.size_alloc _ _
  obtain ⟨w6, c6, hz6, hp6, hb6⟩ := append_zeros_ex12 (w5.alloc (.cells #[.int .u8 7] 5)) w5.heap.size 7 (by decide) (cell_of_row _ _ 0 _ _ _ (heap_alloc_new w5 _)) 63 (by decide) (by decide) 32
  have HB6 := Lib.hid (hb5.trans (hb6.mono hb5.size))
  rw [hs5] at hz6 hp6
  have hz6 : (Builtin.append_ #[32, 3] 32 #[.slice (some ⟨w5.heap.size, 0, none⟩) 1 1, .int .i64 63]).run Try.prog (w5.alloc (.cells #[.int .u8 7] 5)) = .ok (.slice (some ⟨w5.heap.size + 1, 0, none⟩) 64 c6) w6 := hz6
  have HP6 := Lib.hid (show PkF w6 (some ⟨w5.heap.size + 1, 0, none⟩) 64 c6 (7 :: List.replicate 63 0) from hp6)
  clear hp6 hb6 hb5 hs5
  go_wp2_with (at_builtin; refine Lib.wpList_append_run _ rfl _ _ _ _ rfl _ _ rfl rfl _ _ hz6 ?_)
  go_at_call 19
  refine Calls.mono (kn_come_at K5.out HB6.out (Nat.le_succ _) HP6.out) ?_
  rw [md1.1, md1.2]
  rintro e w7 ⟨l, rfl, hk⟩
  obtain ⟨A7, c7, rfl, -⟩ := CaIn.of_own (l := [(0, false)]) (hk.row (List.mem_cons_self ..))
  have K7 := Lib.hid (show KnK w w7 p m2 [] from hk.weak (fun t ht => List.mem_cons_of_mem _ ht))
  clear hk K5 HB6 HP6 hz6
  have hb7 : Below w7.heap.size w7 (w7.alloc (.cells #[.int .u8 7] 5)) := (Below.refl _ w7).alloc (Nat.le_refl _) _
  have hs7 : (w7.alloc (.cells #[.int .u8 7] 5)).heap.size = w7.heap.size + 1 := World.size_alloc _ _
  obtain ⟨w8, c8, hz8, -, hb8⟩ := append_zeros_ex12 (w7.alloc (.cells #[.int .u8 7] 5)) w7.heap.size 7 (by decide) (cell_of_row _ _ 0 _ _ _ (heap_alloc_new w7 _)) 64 (by decide) (by decide) 32
  have K8 := Lib.hid (K7.out.step (hb7.trans (hb8.mono hb7.size)))
  rw [hs7] at hz8
  have hz8 : (Builtin.append_ #[32, 3] 32 #[.slice (some ⟨w7.heap.size, 0, none⟩) 1 1, .int .i64 64]).run Try.prog (w7.alloc (.cells #[.int .u8 7] 5)) = .ok (.slice (some ⟨w7.heap.size + 1, 0, none⟩) 65 c8) w8 := hz8
  clear hb8 hb7 hs7 K7
  go_wp2_with (at_builtin; refine Lib.wpList_append_run _ rfl _ _ _ _ rfl _ _ rfl rfl _ _ hz8 ?_)
  go_at_call 19
  refine Calls.mono (kn_long K8.out _ 65 _ (by decide)) ?_
  rintro e w' ⟨rfl, rfl⟩
  clear hz8
  have hmk := made_tests12 w8
  go_wp2_with fail
  go_at_call 17
  refine Calls.mono (kn_claim (K8.out.step ((Below.refl _ w8).alloc (Nat.le_refl _) _)) 0 (fl_made12 w8) (by decide) mm2) ?_
  rw [me1]
  rintro e w9 ⟨rfl, hk⟩
  have K9 := Lib.hid (show KnK w w9 p m2 [] from hk)
  clear hk K8 hmk
  have hb9 : Below w9.heap.size w9 (w9.alloc (.cells #[.int .i64 1] 3)) := (Below.refl _ w9).alloc (Nat.le_refl _) _
  have HN9 := Lib.hid (kn_new hb9 (qs := [1]) (ints_row12 (heap_alloc_new w9 _)) 1 yq0 rfl)
  clear hb9
  go_wp2_with fail
  go_at_call 24
  refine Calls.mono HN9.out ?_
  rintro e w10 ⟨x, rfl, hk⟩
  have K10 := Lib.hid (show KnK w9 w10 x y0 [] from hk)
  clear hk HN9
  go_wp2_with fail
  go_at_call 17
  refine Calls.mono (kn_claim K10.out 0 (fl_nil12 _) (by decide) yc1.2.2) ?_
  rw [yc1.1, yc1.2.1]
  rintro e w11 ⟨rfl, hk⟩
  have K11 := Lib.hid (show KnK w9 w11 x (yL 0) [] from yL_0 ▸ hk)
  clear hk K10
  go_wp2_with fail
  go_loopw [19] (fun i W => ∃ k : Nat, i = .int .i64 (k : Int) ∧ k ≤ 8 ∧ KnK w9 W x (yL k) []) (fun i _ => 8 - (intOf i).toNat)
  case atStart => exact ⟨0, rfl, Nat.zero_le _, K11.out⟩
  case round =>
    obtain ⟨k, rfl, hk8, hk⟩ := hrel
    have K := Lib.hid hk
    clear hk K11
    by_cases hlt : k < 8
    · have hlt' : (k : Int) < 8 := by omega
      go_wp2_with fail
      go_at_call 19
      refine Calls.mono (kn_come_new K.out [0] (by decide) rfl) ?_
      rw [yL_step k (by omega)]
      rintro e w15 ⟨v15, rfl, hk⟩
      have K15 := Lib.hid (show KnK w9 w15 x (yL (k + 1)) [] from hk.weak (fun t ht => List.mem_cons_of_mem _ ht))
      clear hk K
      go_wp2_with fail
      go_roundw
      case rel => exact ⟨k + 1, by go_num, hlt, K15.out⟩
      case measure => simp [intOf]; omega
    · obtain rfl : k = 8 := by omega
      clear hlt hk8
      obtain ⟨O, R, L, KP, -⟩ := K.out
      have HKP := Lib.hid KP
      have HCP := Lib.hid (copy_any12 KP.po (yL_m 8))
      clear KP K
      go_wp2_with fail
      go_at_call 25
      refine Calls.mono HCP.out ?_
      rintro e w12 ⟨z, Oz, Rz, Lz, rfl, hz, hoz, hrz, hb12⟩
      have HZ := Lib.hid hz
      have HX12 := Lib.hid (HKP.out.step hb12)
      have HAP := Lib.hid (show ∀ k, Oz k ∨ Rz k → ¬ O k from fun k hk hO => by
        have h1 := HKP.out.po.lo k hO
        rcases hk with hk | hk
        · have := hoz k hk; omega
        · rcases hrz k hk with h2 | h2
          · exact HKP.out.po.dis k h2 hO
          · omega)
      clear hz hoz hrz hb12 HCP
      have hb13 : Below w12.heap.size w12 (w12.alloc (.cells #[.int .u8 0] 5)) := (Below.refl _ w12).alloc (Nat.le_refl _) _
      have HX13 := Lib.hid (HX12.out.step hb13)
      have HZ13 := Lib.hid (HZ.out.step hb13)
      have HC13 := Lib.hid (side_come HX13.out.po (A := some ⟨w12.heap.size, 0, none⟩) (n := 1) (c := 1) (P := [0]) ⟨rfl, (fun e => by cases e), fun i y hy => by
        have hi : i = 0 := by have := (List.getElem?_eq_some_iff.1 hy).1; simp at this; exact this
        subst hi
        cases hy
        exact ⟨by decide, w12.heap.size, 0, rfl, by simp, cell_of_row _ _ 0 _ _ _ (heap_alloc_new w12 _)⟩⟩ (fun _ => .inr (fun b o q e hO => by
        cases e
        exact absurd (HX12.out.po.lo _ hO) (Nat.lt_irrefl _))))
      clear hb13
      go_wp2_with fail
      go_at_call 19
      refine Calls.mono HC13.out ?_
      unfold SideCome
      rw [yL_step 8 (by decide)]
      rintro e w14 ⟨v14, rfl, -, Ox, Rx, Lx, hx, -, -, hT, -⟩
      have HX14 := Lib.hid hx
      have HZ14 := Lib.hid (HZ13.out.other hT (fun k hk => HAP.out k hk))
      have HB14 := Lib.hid (show Below w9.heap.size w9 w14 from HX13.out.bl.trans (hT.below HX13.out.bl.size (fun b hb => HX13.out.lo b (.inl hb))))
      have HS14 := Lib.hid (same_no12 HX14.out HZ14.out rfl (yL_at 9) (yL_only 9) (yL_at 8) (by decide +kernel))
      clear hx hT HX13 HZ13 HX12 HZ HC13 HKP HAP
      have HLO := fun W (hb : Below w14.heap.size w14 W) => Lib.hid (show Calls Try.prog 26 #[.pointer (some ⟨x, 0, none⟩), .int .i64 0, .int .i64 0] W fun e w' => e = .returned (.int .i64 1) ∧ W = w' from by
        have := lost_any12 (HX14.out.step hb) (a := 0) (n := 0) (by decide) (by decide)
        rw [y_ends.1] at this
        exact this)
      have HLE := fun W (hb : Below w14.heap.size w14 W) => Lib.hid (show Calls Try.prog 20 #[.pointer (some ⟨x, 0, none⟩), .int .i64 0, .int .i64 0] W fun e w' => e = .returned (.int .i64 8) ∧ W = w' from by
        have := len_any12 (HX14.out.step hb) (a := 0) (n := 0) (by decide) (by decide)
        rw [y_ends.2] at this
        exact this)
      go_wp2_with (go_at_call 18; refine (num_any12 _ _).mono ?_; rintro e w' ⟨rfl, rfl⟩)
      go_at_call 15
      refine Calls.mono HS14.out ?_
      rintro e w16 ⟨rfl, hb16⟩
      have HB16 := Lib.hid (HB14.out.trans (hb16.mono HB14.out.size))
      have HLO := HLO w16 hb16
      have HLE := HLE w16 hb16
      clear hb16 HS14 HX14 HZ14
      go_wp2_with fail
      go_at_call 26
      refine Calls.mono HLO.out ?_
      rintro e w' ⟨rfl, rfl⟩
      go_wp2_with fail
      go_at_call 20
      refine Calls.mono HLE.out ?_
      rintro e w' ⟨rfl, rfl⟩
      clear HLO HLE
      go_wp2_with (go_at_call 18; refine (num_any12 _ _).mono ?_; rintro e w' ⟨rfl, rfl⟩)
      go_at_call 27
      refine Calls.mono (nothing_any12 (w := w16) (.inl rfl)) ?_
      rintro e w17 ⟨rfl, hb17⟩
      have HB17 := Lib.hid ((HB16.out.trans (hb17.mono HB16.out.size)).alloc (Nat.le_trans HB16.out.size hb17.size) (.cells #[.slice none 0 0, .map none] 68))
      clear hb17
      go_wp2_with fail
      go_at_call 27
      refine Calls.mono (nothing_any12 (w := w17.alloc (.cells #[.slice none 0 0, .map none] 68)) (.inr ⟨_, rfl, cell_of_row _ _ 0 _ _ _ (heap_alloc_new w17 _)⟩)) ?_
      rintro e w18 ⟨rfl, hb18⟩
      have HB18 := Lib.hid (HB17.out.trans (hb18.mono HB17.out.size))
      clear hb18
      go_wp2_with fail
      go_at_call 15
      refine Calls.mono (kn_same_nil (K9.out.step HB18.out)) ?_
      rintro e w' ⟨rfl, rfl⟩
      go_wp2_with fail
      go_at_call 9
      refine Calls.mono (known_any12 w18) ?_
      rintro e w19 ⟨rfl, hb19⟩
      have HB19 := Lib.hid (K9.out.bl.trans ((HB18.out.trans (hb19.mono HB18.out.size)).mono K9.out.bl.size))
      go_wp2_with fail
      go_ret
      exact ⟨rfl, HB19.out⟩
end Go.Proofs.Ytakpankipagndaa
