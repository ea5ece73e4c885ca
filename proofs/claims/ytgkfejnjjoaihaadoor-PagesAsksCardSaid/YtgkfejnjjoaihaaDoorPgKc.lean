/- The calls upon a table that a call has made, with their answers named. -/
import Derived.Test.YtgkfejnjjoaihaaDoorPgKn
namespace Go.Proofs.YtgkfejnjjoaihaaDoor
open Go.RowKit

section
variable {w0 w : World} {t b N : Nat} {T : Tb} {L : List (Nat × Obj)}
theorem kn_set (K : Kn w0 w t b N T L) (hN : N < 100000) (s p f r : Int) {E : Int} {T' : Tb} (h : setE T s p f r = E ∧ setO T s p f r = T') :
    Calls Tryd.prog 23 #[.pointer (some ⟨t, 0, none⟩), .int .i64 s, .int .i64 p, .int .i64 f, .int .i64 r] w fun e w' => e = .returned (.int .i64 E) ∧ Kn w0 w' t b (N + 1) T' L := by
  obtain ⟨rfl, rfl⟩ := h
  refine (set_any K.pt (room hN) s p f r).mono ?_
  rintro e w' ⟨rfl, h1, h2⟩
  exact ⟨rfl, K.step h1 h2⟩
theorem kn_ask (K : Kn w0 w t b N T L) (s : Int) (a : Nat) (r x : Int) (hx : x = (a : Int)) (ha : a < 4294967296) {E F P : Int} {T' : Tb} (h : (askE T s a r = E ∧ askF T s a r = F ∧ askP T s a r = P) ∧ askT T s a r = T') :
    Calls Tryd.prog 19 #[.pointer (some ⟨t, 0, none⟩), .int .i64 s, .int .u32 x, .int .i64 r] w fun e w' => e = .returned (.tuple #[.int .i64 F, .int .i64 P, .int .i64 E]) ∧ Kn w0 w' t b N T' L := by
  obtain ⟨⟨rfl, rfl, rfl⟩, rfl⟩ := h
  subst hx
  refine (ask_any K.pt s a r ha).mono ?_
  rintro e w' ⟨rfl, h1, h2⟩
  exact ⟨rfl, K.step h1 (h2.mono (by simp))⟩
theorem kn_get (K : Kn w0 w t b N T L) (s p : Int) {E : Ent} {B : Bool} (h : getO T s p = E ∧ gotB T s p = B) :
    Calls Tryd.prog 16 #[.pointer (some ⟨t, 0, none⟩), .int .i64 s, .int .i64 p] w fun e w' => e = .returned (.tuple #[.agg #[.int .i64 E.fr, .int .i64 E.ri, .bool E.tc, .bool E.wr], .bool B]) ∧ Kn w0 w' t b N T L := by
  obtain ⟨rfl, rfl⟩ := h
  refine (get_any K.pt s p).mono ?_
  rintro e w' ⟨rfl, h1⟩
  exact ⟨rfl, K.same h1⟩
theorem kn_clean (K : Kn w0 w t b N T L) (s p : Int) {E : Ent} {X : Int} {T' : Tb} (h : getO T s p = E ∧ takE T s p = X ∧ cleanO T s p = T') :
    Calls Tryd.prog 38 #[.pointer (some ⟨t, 0, none⟩), .int .i64 s, .int .i64 p] w fun e w' => e = .returned (.tuple #[.agg #[.int .i64 E.fr, .int .i64 E.ri, .bool E.tc, .bool E.wr], .int .i64 X]) ∧ Kn w0 w' t b N T' L := by
  obtain ⟨rfl, rfl, rfl⟩ := h
  refine (clean_any K.pt s p).mono ?_
  rintro e w' ⟨rfl, h1, h2⟩
  exact ⟨rfl, K.step h1 (h2.mono (by simp))⟩
theorem kn_clear (K : Kn w0 w t b N T L) (hN : N < 100000) (s p : Int) {E : Ent} {X : Int} {T' : Tb} (h : getO T s p = E ∧ takE T s p = X ∧ clearO T s p = T') :
    Calls Tryd.prog 33 #[.pointer (some ⟨t, 0, none⟩), .int .i64 s, .int .i64 p] w fun e w' => e = .returned (.tuple #[.agg #[.int .i64 E.fr, .int .i64 E.ri, .bool E.tc, .bool E.wr], .int .i64 X]) ∧ Kn w0 w' t b (N + 1) T' L := by
  obtain ⟨rfl, rfl, rfl⟩ := h
  refine (clear_any K.pt (room hN) s p).mono ?_
  rintro e w' ⟨rfl, h1, h2⟩
  exact ⟨rfl, K.step h1 h2⟩
theorem kn_rights (K : Kn w0 w t b N T L) (s p r : Int) {X : Int} {T' : Tb} (h : rightsO T s p r = (T', X)) :
    Calls Tryd.prog 35 #[.pointer (some ⟨t, 0, none⟩), .int .i64 s, .int .i64 p, .int .i64 r] w fun e w' => e = .returned (.int .i64 X) ∧ Kn w0 w' t b N T' L := by
  refine (rights_any K.pt s p r).mono ?_
  rw [h]
  rintro e w' ⟨rfl, h1, h2⟩
  exact ⟨rfl, K.step h1 (h2.mono (by simp))⟩
theorem kn_share (K : Kn w0 w t b N T L) (hN : N < 100000) (f g : Int) {n E : Int} {T' : Tb} (h : (shareE T f g = E ∧ shareN T f g = n) ∧ shareT T f g = T') :
    Calls Tryd.prog 24 #[.pointer (some ⟨t, 0, none⟩), .int .i64 f, .int .i64 g] w fun e w' => e = .returned (.tuple #[.int .i64 n, .int .i64 E]) ∧ Kn w0 w' t b (N + 32) T' L := by
  obtain ⟨⟨rfl, rfl⟩, rfl⟩ := h
  refine (share_any K.pt (by unfold maxLen; omega) f g).mono ?_
  rintro e w' ⟨rfl, h1, h2⟩
  exact ⟨rfl, K.step h1 h2⟩
theorem kn_drop (K : Kn w0 w t b N T L) (hN : N < 100000) (s : Int) {E : Int} {l : List Int} {T' : Tb} (h : (dropE s = E ∧ dropR T s = l) ∧ dropT T s = T') :
    Calls Tryd.prog 41 #[.pointer (some ⟨t, 0, none⟩), .int .i64 s] w fun e w' => ∃ v : Value, e = .returned (.tuple #[v, .int .i64 E]) ∧ w'.ownsRow w.heap.size 3 1 v l.length (l.map intV) ∧ Kn w0 w' t b (N + 32) T' L := by
  obtain ⟨⟨rfl, rfl⟩, rfl⟩ := h
  refine (drop_any K.pt (by unfold maxLen; omega) s).mono ?_
  rintro e w' ⟨v, rfl, h0, h1, h2⟩
  exact ⟨v, rfl, h0, K.step h1 h2⟩
theorem kn_where (K : Kn w0 w t b N T L) (f : Int) (hf : (Lit.int .i64 f).wf = true) (hz : TzTab w) {l : List (Nat × Nat)} (h : spotsTo T f 16 = l) :
    Calls Tryd.prog 21 #[.pointer (some ⟨t, 0, none⟩), .int .i64 f] w fun e w' => ∃ v, e = .returned v ∧ w'.ownsRow w.heap.size 52 2 v l.length (l.flatMap spotC) ∧ Kn w0 w' t b N T L := by
  subst h
  refine (where_any K.pt f hf hz).mono ?_
  rintro e w' ⟨v, rfl, h0, h1⟩
  exact ⟨v, rfl, h0, K.same h1⟩
theorem kn_count (K : Kn w0 w t b N T L) (f : Int) (hf : (Lit.int .i64 f).wf = true) {c : Int} (h : (countTo T f 16 : Int) = c) :
    Calls Tryd.prog 22 #[.pointer (some ⟨t, 0, none⟩), .int .i64 f] w fun e w' => e = .returned (.int .i64 c) ∧ Kn w0 w' t b N T L := by
  subst h
  refine (count_any K.pt f hf).mono ?_
  rintro e w' ⟨rfl, h1⟩
  exact ⟨rfl, K.same h1⟩
theorem kn_new (w : World) : Calls Tryd.prog 9 #[] w fun e w' => ∃ t b, e = .returned (.pointer (some ⟨t, 0, none⟩)) ∧ Kn w w' t b 0 newT [] := by
  refine (new_any w).mono ?_
  rintro e w' ⟨rfl, h1, h2⟩
  exact ⟨_, _, rfl, h1, by omega, Nat.le_refl _, h2, fun x hx => by simp at hx⟩
theorem Kn.add {g : Nat} {o : Obj} (K : Kn w0 w t b N T L) (h : w.heap[g]? = some o) (h1 : g ≠ t) (h2 : g ≠ b) : Kn w0 w t b N T ((g, o) :: L) :=
  ⟨K.pt, K.ht, K.hb, K.tr, fun x hx => by
    rcases List.mem_cons.1 hx with rfl | hx
    · exact ⟨h, h1, h2⟩
    · exact K.box x hx⟩
theorem Kn.tz (K : Kn w0 w t b N T L) (h : TzTab w0) : TzTab w := h.below K.tr h.lt
end

/-- A slice that is not empty, opened. -/
theorem owns_open {w : World} {base size n : Nat} {e : TypeId} {v : Value} {xs : List Value} (h : w.ownsRow base e size v n xs) (hn : n ≠ 0) :
    ∃ g cap cur, v = .slice (some ⟨g, 0, none⟩) n cap ∧ base ≤ g ∧ w.heap[g]? = some (.cells cur e (0, 0)) ∧ ∀ (j : Nat) (x : Value), xs[j]? = some x → cur[j]? = some x := by
  obtain ⟨-, h2 | ⟨g, cap, cur, rfl, h3, h4, -, -, -, h5⟩⟩ := h
  · exact absurd h2.2 hn
  · refine ⟨g, cap, cur, rfl, h3, h4, fun j x hj => ?_⟩
    rw [← h5, List.getElem?_take] at hj
    split at hj
    · simpa using hj
    · cases hj

set_option maxRecDepth 100000 in
set_option maxHeartbeats 2000000 in
theorem known_any (w : World) (hz : TzTab w) : Calls Tryd.prog 13 #[] w fun e w' => e = .returned (.bool true) ∧ Below w.heap.size w w' := by
  have HZ := Lib.hid hz
  clear hz
  go_enter Tryd.func13, Tryd.ntmps13
  go_wp2_with fail
  refine (kn_new _).mono ?_
  rintro e w1 ⟨t, b, rfl, hk⟩
  have K := Lib.hid hk
  clear hk
  go_wp2_with fail
  refine (kn_set K.out (by decide) 0 2 9 3 k1).mono ?_
  rintro e w2 ⟨rfl, hk⟩
  have K := Lib.hid hk
  clear hk
  go_wp2_with fail
  refine (kn_set K.out (by decide) 0 2 8 1 k2).mono ?_
  rintro e w3 ⟨rfl, hk⟩
  have K := Lib.hid hk
  clear hk
  go_wp2_with fail
  refine (kn_set K.out (by decide) 0 32 1 1 k3).mono ?_
  rintro e w4 ⟨rfl, hk⟩
  have K := Lib.hid hk
  clear hk
  go_wp2_with fail
  refine (kn_ask K.out 0 517 2 _ rfl (by decide) k4).mono ?_
  rintro e w5 ⟨rfl, hk⟩
  have K := Lib.hid hk
  clear hk
  go_wp2_with fail
  refine (kn_ask K.out 0 517 4 _ rfl (by decide) k5).mono ?_
  rintro e w6 ⟨rfl, hk⟩
  have K := Lib.hid hk
  clear hk
  go_wp2_with fail
  refine (kn_ask K.out 0 0 1 _ rfl (by decide) k6).mono ?_
  rintro e w7 ⟨rfl, hk⟩
  have K := Lib.hid hk
  clear hk
  go_wp2_with fail
  refine (kn_ask K.out 0 9000 1 _ rfl (by decide) k7).mono ?_
  rintro e w8 ⟨rfl, hk⟩
  have K := Lib.hid hk
  clear hk
  go_wp2_with fail
  refine (kn_ask K.out 0 517 1 _ rfl (by decide) k8).mono ?_
  rintro e w9 ⟨rfl, hk⟩
  have K := Lib.hid hk
  clear hk
  go_wp2_with fail
  refine (kn_get K.out 0 2 k9).mono ?_
  rintro e w10 ⟨rfl, hk⟩
  have K := Lib.hid (hk.alloc #[.int .i64 9, .int .i64 3, .bool true, .bool true] 38)
  unfold kE1
  clear hk
  go_wp2_with fail
  refine (kn_clean K.out 0 2 ⟨k9.1, k10⟩).mono ?_
  rintro e w11 ⟨rfl, hk⟩
  have K := Lib.hid (hk.alloc #[.int .i64 9, .int .i64 3, .bool true, .bool true] 38)
  unfold kE1
  clear hk
  go_wp2_with fail
  refine (kn_get K.out 0 2 k11).mono ?_
  rintro e w12 ⟨rfl, hk⟩
  have K := Lib.hid (hk.alloc #[.int .i64 9, .int .i64 3, .bool false, .bool false] 38)
  unfold kE0
  clear hk
  go_wp2_with fail
  refine (kn_ask K.out 0 517 1 _ rfl (by decide) k12).mono ?_
  rintro e w13 ⟨rfl, hk⟩
  have K := Lib.hid hk
  clear hk
  go_wp2_with fail
  refine (kn_share K.out (by decide) 0 1 k13).mono ?_
  rintro e w14 ⟨rfl, hk⟩
  have K := Lib.hid hk
  clear hk
  go_wp2_with fail
  refine (kn_where K.out 9 (by decide) (K.out.tz HZ.out) k14).mono ?_
  rintro e w15 ⟨v, rfl, hown, hk⟩
  obtain ⟨g, cap, cur, rfl, hg, hcell, hcur⟩ := owns_open hown (by decide)
  have K := Lib.hid (hk.add hcell (by have := K.out.pt.ht; omega) (by have := K.out.pt.hb; omega))
  have HCUR := Lib.hid hcur
  clear hk hown hg hcell hcur
  go_wp2_with fail
  refine (kn_get K.out 1 2 k15).mono ?_
  rintro e w16 ⟨rfl, hk⟩
  have K := Lib.hid (hk.alloc #[.int .i64 9, .int .i64 3, .bool false, .bool false] 38)
  unfold kE0
  clear hk
  go_wp2_with fail
  have K2 := K
  refine (kn_drop K.out (by decide) 0 k16).mono ?_
  rintro e w17 ⟨v, rfl, hown, hk⟩
  have HI := Lib.hid (ints_of_owns hown)
  have K := Lib.hid hk
  obtain ⟨q1, -, -⟩ := hk.box _ (List.mem_cons_self ..)
  obtain ⟨q2, -, -⟩ := hk.box _ (List.mem_cons_of_mem _ (List.mem_cons_self ..))
  obtain ⟨q3, -, -⟩ := hk.box _ (List.mem_cons_of_mem _ (List.mem_cons_of_mem _ (List.mem_cons_self ..)))
  obtain ⟨q4, -, -⟩ := hk.box _ (List.mem_cons_of_mem _ (List.mem_cons_of_mem _ (List.mem_cons_of_mem _ (List.mem_cons_self ..))))
  obtain ⟨q5, -, -⟩ := hk.box _ (List.mem_cons_of_mem _ (List.mem_cons_of_mem _ (List.mem_cons_of_mem _ (List.mem_cons_of_mem _ (List.mem_cons_self ..)))))
  obtain ⟨⟨a0, a1, a2, a3⟩, -, la⟩ := four_of q1
  obtain ⟨⟨b0, b1, b2, b3⟩, -, lb⟩ := four_of q3
  obtain ⟨⟨c0, c1, c2, c3⟩, -, lc⟩ := four_of q4
  obtain ⟨⟨d0, d1, d2, d3⟩, -, ld⟩ := four_of q5
  have s0 : w17.cell? ⟨g, 2, none⟩ = some (.int .i64 1) := by rw [cell_of_row _ _ _ _ _ _ q2]; exact HCUR.out 2 _ rfl
  have s1 : w17.cell? ⟨g, 3, none⟩ = some (.int .i64 2) := by rw [cell_of_row _ _ _ _ _ _ q2]; exact HCUR.out 3 _ rfl
  have lg : g < w17.heap.size := (Array.getElem?_eq_some_iff.1 q2).1
  obtain ⟨va, vc, rfl, hI⟩ := HI.out
  clear hk hown q1 q2 q3 q4 q5 hI
  go_wp2_with (go_at_call 20; refine (num_any _ _).mono ?_; rintro e w' ⟨rfl, rfl⟩)
  have hI1 : IntsAt (w17.alloc (.cells #[.int .i64 9] 3)) (.slice va 1 vc) [9] := HI.out.below ((Below.refl _ w17).alloc (Nat.le_refl _) _) (Nat.le_refl _)
  have hI2 : IntsAt (w17.alloc (.cells #[.int .i64 9] 3)) (.slice (some ⟨w17.heap.size, 0, none⟩) 1 1) [9] := ⟨_, _, rfl, fun _ => ⟨w17.heap.size, rfl, by simp, fun i x hi => by
    rw [cell_of_row _ _ _ _ _ _ (heap_alloc_new w17 _)]
    cases i with
    | zero => simp at hi; subst hi; rfl
    | succ i => simp at hi⟩⟩
  refine (sameInts_any hI1 hI2 (by decide) (by decide)).mono ?_
  rintro e w18 ⟨rfl, hb⟩
  have K := Lib.hid ((K.out.alloc #[.int .i64 9] 3).same hb)
  clear hb hI1 hI2 a0 a1 a2 a3 b0 b1 b2 b3 c0 c1 c2 c3 d0 d1 d2 d3 s0 s1 la lb lc ld lg
  go_wp2_with fail
  refine (kn_count K.out 9 (by decide) (c := 1) (by rw [k17]; rfl)).mono ?_
  rintro e w19 ⟨rfl, hk⟩
  have K := Lib.hid hk
  clear hk
  go_wp2_with fail
  go_ret
  exact ⟨rfl, K.out.tr⟩
end Go.Proofs.YtgkfejnjjoaihaaDoor
