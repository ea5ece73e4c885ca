/- One step, Kind by Kind. -/
import Derived.Test.YtgkfejnjjoaihaaDoorPgDd
namespace Go.Proofs.YtgkfejnjjoaihaaDoor
open Go.RowKit
section
variable {w0 w : World} {t b q N : Nat} {T U : Tb} {L : List (Nat × Obj)}
theorem ints_len {w : World} {v : Value} {xs : List Int} (h : IntsAt w v xs) : ∃ a c, v = .slice a xs.length c := by
  obtain ⟨a, c, rfl, -⟩ := h
  exact ⟨a, c, rfl⟩
set_option maxRecDepth 100000 in
set_option maxHeartbeats 1000000 in
theorem do_drop (K : Duo w0 w t b q N T U L) (hN : N < 100000) (A B C D : Int) (x : Nat) :
    Calls Tryd.prog 12 #[.pointer (some ⟨t, 0, none⟩), .pointer (some ⟨q, 0, none⟩), .agg (stepC 7 A B C D x)] w fun e w' =>
      ∃ r, e = .returned (.tuple #[.pointer (some ⟨t, 0, none⟩), .pointer (some ⟨q, 0, none⟩), .bool r]) ∧ (T = U → r = true) ∧ Duo w0 w' t b q (N + 32) (dropT T A) (dropT U A) L := by
  unfold stepC
  have HD := Lib.hid (K.alloc #[.int .i64 7, .int .i64 A, .int .i64 B, .int .i64 C, .int .i64 D, .int .u32 x] 32)
  obtain ⟨z, hz⟩ : ∃ z, dropE A = z := ⟨_, rfl⟩
  have HZ := Lib.hid hz
  have HTU := Lib.hid (show T = U → dropR T A = dropR U A by rintro rfl; rfl)
  obtain ⟨z1, hz1⟩ : ∃ z1, dropR T A = z1 := ⟨_, rfl⟩
  obtain ⟨z2, hz2⟩ : ∃ z2, dropR U A = z2 := ⟨_, rfl⟩
  have hl1 : z1.length ≤ 32 := hz1 ▸ dropR_len T A
  have hl2 : z2.length ≤ 32 := hz2 ▸ dropR_len U A
  rw [hz1, hz2] at HTU
  have HZ1 := Lib.hid hz1
  have HZ2 := Lib.hid hz2
  have K0 := Lib.hid (show q < (w.alloc (.cells #[.int .i64 7, .int .i64 A, .int .i64 B, .int .i64 C, .int .i64 D, .int .u32 x] 32)).heap.size by have := K.qt.lt; simp; omega)
  clear K hz hz1 hz2
  go_enter Tryd.func12, Tryd.ntmps12
  go_wp2_with (first
    | (go_at_call 41; with_reducible refine (duo_drop HD.out hN _).mono ?_; rintro e w2 ⟨v, rfl, hown, hd⟩; rw [HZ.out]; rw [HZ1.out] at hown; obtain ⟨s0, s1, s2, s3, s4, s5⟩ := six_of (hd.box (List.mem_cons_self ..)); have HI := Lib.hid (ints_of_owns hown); obtain ⟨va, vc, rfl⟩ := ints_len (ints_of_owns hown); have HO := Lib.hid hown; have HD := Lib.hid hd; clear hd hown)
    | (go_at_call 42; with_reducible refine (duo_dropQ HD.out _).mono ?_; rintro e w3 ⟨v, rfl, hown, hd, ht⟩; rw [HZ.out]; rw [HZ2.out] at hown; clear s0 s1 s2 s3 s4 s5; have HJ := Lib.hid (ints_of_owns hown); obtain ⟨ua, uc, rfl⟩ := ints_len (ints_of_owns hown); have HO := Lib.hid (owns_turned HO.out ht (fun g hg => by simp at hg; subst hg; exact K0.out)); have HI := Lib.hid (ints_of_owns HO.out); have HD := Lib.hid hd; clear hd hown ht)
    | (go_at_call 29; with_reducible refine (sameInts_any HI.out HJ.out (by omega) (by omega)).mono ?_; rintro e w4 ⟨rfl, hb⟩; have HD := Lib.hid (HD.out.same hb); clear hb)
    | (go_at_call 20; refine (num_any _ _).mono ?_; rintro e w4 ⟨rfl, rfl⟩))
  all_goals
    go_ret3
    refine ⟨_, rfl, fun hTU => ?_, HD.out.less (fun x hx => by simp [hx])⟩
    have h1 := HTU.out hTU
    simp_all
end
end Go.Proofs.YtgkfejnjjoaihaaDoor
