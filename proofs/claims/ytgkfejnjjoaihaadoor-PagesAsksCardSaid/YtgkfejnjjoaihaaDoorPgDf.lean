/- One step: a Copy goes on; any other Kind; any step. -/
import Derived.Test.YtgkfejnjjoaihaaDoorPgDe
namespace Go.Proofs.YtgkfejnjjoaihaaDoor
open Go.RowKit
section
variable {w0 w w' : World} {t b q t' b' N N' M : Nat} {T T' U : Tb} {L : List (Nat × Obj)}
/-- The copy goes on in the table's place. -/
theorem Duo.swap (h : Duo w0 w t b q N T U L) {W : World} (hq : W.heap[q]? = w.heap[q]?) (hL : ∀ x ∈ L, W.heap[x.1]? = w.heap[x.1]?) (hp : PT W t' b' M T') (ht : w.heap.size ≤ t') (hb : w.heap.size ≤ b') (htr : Below w0.heap.size w0 W) : Duo w0 W t' b' q M T' U L := by
  have hl := h.qt.lt
  refine ⟨⟨hp, Nat.le_trans h.tr.size ht, Nat.le_trans h.tr.size hb, htr, fun x hx => ?_⟩, h.ok, h.hq, h.ql⟩
  rcases List.mem_cons.1 hx with rfl | hx
  · exact ⟨hq.trans h.qt.row.row, by show q ≠ t'; omega, by show q ≠ b'; omega⟩
  · have h1 := h.kn.box x (List.mem_cons_of_mem _ hx)
    have h2 := lt_of_box h1.1
    exact ⟨(hL x hx).trans h1.1, by omega, by omega⟩
set_option maxRecDepth 100000 in
set_option maxHeartbeats 1000000 in
theorem do_copy (K : Duo w0 w t b q N T U L) (hN : N < 90000) (A B C D : Int) (x : Nat) :
    Calls Tryd.prog 12 #[.pointer (some ⟨t, 0, none⟩), .pointer (some ⟨q, 0, none⟩), .agg (stepC 8 A B C D x)] w fun e w' =>
      ∃ t' b', e = .returned (.tuple #[.pointer (some ⟨t', 0, none⟩), .pointer (some ⟨q, 0, none⟩), .bool true]) ∧ Duo w0 w' t' b' q N T U L := by
  unfold stepC
  have HD := Lib.hid (K.alloc #[.int .i64 8, .int .i64 A, .int .i64 B, .int .i64 C, .int .i64 D, .int .u32 x] 32)
  have hss : sameB T T = true := (sameB_iff T T).2 rfl
  clear K
  go_enter Tryd.func12, Tryd.ntmps12
  go_wp2_with fail
  generalize w.alloc (.cells #[.int .i64 8, .int .i64 A, .int .i64 B, .int .i64 C, .int .i64 D, .int .u32 x] 32) = w1 at HD ⊢
  refine (copy_any HD.out.pt).mono ?_
  rintro e w2 ⟨t', b', rfl, hp, ht, hb, htr⟩
  have h1 := HD.out.pt.ht
  have h2 := HD.out.pt.hb
  have HD2 := Lib.hid (HD.out.same htr)
  have HP := Lib.hid hp
  have HT := Lib.hid htr
  clear hp htr
  go_wp2_with fail
  refine (same_any HP.out HD2.out.pt).mono ?_
  rintro e w3 ⟨rfl, hb3⟩
  rw [hss]
  have HD3 := Lib.hid (HD2.out.same hb3)
  have HP3 := Lib.hid (HP.out.step hb3)
  clear hb3
  go_wp2_with fail
  refine (set_any HD3.out.pt (room (by omega)) 15 31 1 1).mono ?_
  rintro e w4 ⟨rfl, hp4, ht4⟩
  have HD4 := Lib.hid (HD3.out.p hp4 ht4)
  have HP4 := Lib.hid (HP3.out.other ht4 (by simp; omega) (by simp; omega))
  clear hp4 ht4
  go_wp2_with fail
  refine (drop_any HD4.out.pt (by unfold maxLen; omega) 0).mono ?_
  rintro e w5 ⟨v, rfl, hown, hp5, ht5⟩
  have HD5 := Lib.hid (HD4.out.p hp5 ht5)
  have HP5 := Lib.hid (HP4.out.other ht5 (by simp; omega) (by simp; omega))
  clear hp5 ht5 hown
  go_wp2_with fail
  go_ret3
  have hA := HD.out
  have hZ := HD5.out
  refine ⟨t', b', rfl, (hA.less (fun x hx => List.mem_cons_of_mem _ hx)).swap (hZ.qt.row.row.trans hA.qt.row.row.symm) (fun x hx => (hZ.box (o := x.2) (List.mem_cons_of_mem _ hx)).trans (hA.box (o := x.2) (List.mem_cons_of_mem _ hx)).symm) HP5.out ht hb hZ.tr⟩
set_option maxRecDepth 100000 in
set_option maxHeartbeats 1000000 in
theorem do_other (K : Duo w0 w t b q N T U L) (k A B C D : Int) (x : Nat) (hk : k ≠ 1 ∧ k ≠ 2 ∧ k ≠ 3 ∧ k ≠ 4 ∧ k ≠ 5 ∧ k ≠ 6 ∧ k ≠ 7 ∧ k ≠ 8) :
    Calls Tryd.prog 12 #[.pointer (some ⟨t, 0, none⟩), .pointer (some ⟨q, 0, none⟩), .agg (stepC k A B C D x)] w fun e w' =>
      e = .returned (.tuple #[.pointer (some ⟨t, 0, none⟩), .pointer (some ⟨q, 0, none⟩), .bool true]) ∧ Duo w0 w' t b q N T U L := by
  unfold stepC
  have HD := Lib.hid (K.alloc #[.int .i64 k, .int .i64 A, .int .i64 B, .int .i64 C, .int .i64 D, .int .u32 x] 32)
  obtain ⟨k1, k2, k3, k4, k5, k6, k7, k8⟩ := hk
  have b1 : (k == 1) = false := by simpa using k1
  have b2 : (k == 2) = false := by simpa using k2
  have b3 : (k == 3) = false := by simpa using k3
  have b4 : (k == 4) = false := by simpa using k4
  have b5 : (k == 5) = false := by simpa using k5
  have b6 : (k == 6) = false := by simpa using k6
  have b7 : (k == 7) = false := by simpa using k7
  have b8 : (k == 8) = false := by simpa using k8
  clear K k1 k2 k3 k4 k5 k6 k7 k8
  go_enter Tryd.func12, Tryd.ntmps12
  go_wp2_with fail
  go_ret3
  exact ⟨rfl, HD.out.less (fun x hx => List.mem_cons_of_mem _ hx)⟩
end

/-- What a step makes of a table. -/
structure Stp where
  k : Int
  a : Int
  b : Int
  c : Int
  d : Int
  x : Nat
def Stp.cells (s : Stp) : Array Value := stepC s.k s.a s.b s.c s.d s.x
def stepT (s : Stp) (T : Tb) : Tb :=
  if s.k = 1 then setO T s.a s.b s.c s.d else if s.k = 2 then clearO T s.a s.b else if s.k = 3 then (rightsO T s.a s.b s.d).1 else if s.k = 4 then askT T s.a s.x s.d
  else if s.k = 5 then cleanO T s.a s.b else if s.k = 6 then shareT T s.a s.b else if s.k = 7 then dropT T s.a else T
theorem do_any {w0 w : World} {t b q N : Nat} {T U : Tb} {L : List (Nat × Obj)} (K : Duo w0 w t b q N T U L) (hN : N < 90000) (s : Stp) (hx : s.x < 4294967296) :
    Calls Tryd.prog 12 #[.pointer (some ⟨t, 0, none⟩), .pointer (some ⟨q, 0, none⟩), .agg s.cells] w fun e w' =>
      ∃ t' b' r, e = .returned (.tuple #[.pointer (some ⟨t', 0, none⟩), .pointer (some ⟨q, 0, none⟩), .bool r]) ∧ (T = U → r = true) ∧ (s.k ≠ 8 → t' = t ∧ b' = b) ∧ Duo w0 w' t' b' q (N + 32) (stepT s T) (stepT s U) L := by
  obtain ⟨k, a, b', c, d, x⟩ := s
  unfold stepT Stp.cells
  simp only at hx ⊢
  by_cases h1 : k = 1
  · subst h1
    refine (do_set K (by omega) a b' c d x).mono ?_
    rintro e w' ⟨rfl, h⟩
    exact ⟨t, b, _, rfl, by rintro rfl; simp, fun _ => ⟨rfl, rfl⟩, h.mono (by omega)⟩
  by_cases h2 : k = 2
  · subst h2
    refine (do_clear K (by omega) a b' c d x).mono ?_
    rintro e w' ⟨r, rfl, hr, h⟩
    exact ⟨t, b, _, rfl, hr, fun _ => ⟨rfl, rfl⟩, h.mono (by omega)⟩
  by_cases h3 : k = 3
  · subst h3
    refine (do_rights K a b' c d x).mono ?_
    rintro e w' ⟨rfl, h⟩
    exact ⟨t, b, _, rfl, by rintro rfl; simp, fun _ => ⟨rfl, rfl⟩, h.mono (by omega)⟩
  by_cases h4 : k = 4
  · subst h4
    refine (do_ask K a b' c d x hx).mono ?_
    rintro e w' ⟨r, rfl, hr, h⟩
    exact ⟨t, b, _, rfl, hr, fun _ => ⟨rfl, rfl⟩, h.mono (by omega)⟩
  by_cases h5 : k = 5
  · subst h5
    refine (do_clean K a b' c d x).mono ?_
    rintro e w' ⟨r, rfl, hr, h⟩
    exact ⟨t, b, _, rfl, hr, fun _ => ⟨rfl, rfl⟩, h.mono (by omega)⟩
  by_cases h6 : k = 6
  · subst h6
    refine (do_share K (by omega) a b' c d x).mono ?_
    rintro e w' ⟨r, rfl, hr, h⟩
    exact ⟨t, b, _, rfl, hr, fun _ => ⟨rfl, rfl⟩, h⟩
  by_cases h7 : k = 7
  · subst h7
    refine (do_drop K (by omega) a b' c d x).mono ?_
    rintro e w' ⟨r, rfl, hr, h⟩
    exact ⟨t, b, _, rfl, hr, fun _ => ⟨rfl, rfl⟩, h⟩
  rw [if_neg h1, if_neg h2, if_neg h3, if_neg h4, if_neg h5, if_neg h6, if_neg h7, if_neg h1, if_neg h2, if_neg h3, if_neg h4, if_neg h5, if_neg h6, if_neg h7]
  by_cases h8 : k = 8
  · subst h8
    refine (do_copy K hN a b' c d x).mono ?_
    rintro e w' ⟨t', b', rfl, h⟩
    exact ⟨t', b', _, rfl, fun _ => rfl, fun h => absurd rfl h, h.mono (by omega)⟩
  · refine (do_other K k a b' c d x ⟨h1, h2, h3, h4, h5, h6, h7, h8⟩).mono ?_
    rintro e w' ⟨rfl, h⟩
    exact ⟨t, b, _, rfl, fun _ => rfl, fun _ => ⟨rfl, rfl⟩, h.mono (by omega)⟩
end Go.Proofs.YtgkfejnjjoaihaaDoor
