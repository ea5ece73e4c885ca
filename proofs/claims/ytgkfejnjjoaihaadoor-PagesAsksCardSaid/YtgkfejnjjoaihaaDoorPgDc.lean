/- One step, Kind by Kind: Clear, Ask. -/
import Derived.Test.YtgkfejnjjoaihaaDoorPgDb
namespace Go.Proofs.YtgkfejnjjoaihaaDoor
open Go.RowKit
theorem lt_of_box {w : World} {n : Nat} {o : Obj} (h : w.heap[n]? = some o) : n < w.heap.size := (Array.getElem?_eq_some_iff.1 h).1
section
variable {w0 w : World} {t b q N : Nat} {T U : Tb} {L : List (Nat × Obj)}
set_option maxRecDepth 100000 in
set_option maxHeartbeats 1000000 in
theorem do_clear (K : Duo w0 w t b q N T U L) (hN : N < 100000) (A B C D : Int) (x : Nat) :
    Calls Tryd.prog 12 #[.pointer (some ⟨t, 0, none⟩), .pointer (some ⟨q, 0, none⟩), .agg (stepC 2 A B C D x)] w fun e w' =>
      ∃ r, e = .returned (.tuple #[.pointer (some ⟨t, 0, none⟩), .pointer (some ⟨q, 0, none⟩), .bool r]) ∧ (T = U → r = true) ∧ Duo w0 w' t b q (N + 1) (clearO T A B) (clearO U A B) L := by
  unfold stepC
  have HD := Lib.hid (K.alloc #[.int .i64 2, .int .i64 A, .int .i64 B, .int .i64 C, .int .i64 D, .int .u32 x] 32)
  obtain ⟨e1, he1⟩ : ∃ e1, takE T A B = e1 := ⟨_, rfl⟩
  obtain ⟨e2, he2⟩ : ∃ e2, takE U A B = e2 := ⟨_, rfl⟩
  obtain ⟨E, hE⟩ : ∃ E, getO T A B = E := ⟨_, rfl⟩
  obtain ⟨F, hF⟩ : ∃ F, getO U A B = F := ⟨_, rfl⟩
  have HTU := Lib.hid (show T = U → E = F ∧ e1 = e2 by rintro rfl; exact ⟨hE.symm.trans hF, he1.symm.trans he2⟩)
  have HE := Lib.hid hE
  have HF := Lib.hid hF
  have HE1 := Lib.hid he1
  have HE2 := Lib.hid he2
  clear K hE hF he1 he2
  go_enter Tryd.func12, Tryd.ntmps12
  go_wp2_with (first
    | (go_at_call 33; with_reducible refine (duo_clear HD.out hN _ _ HE.out HE1.out).mono ?_; rintro e w2 ⟨rfl, hd⟩; obtain ⟨s0, s1, s2, s3, s4, s5⟩ := six_of (hd.box (List.mem_cons_self ..)); have sl := lt_of_box (hd.box (List.mem_cons_self ..)); have HD := Lib.hid (hd.alloc #[.int .i64 E.fr, .int .i64 E.ri, .bool E.tc, .bool E.wr] 38); clear hd)
    | (go_at_call 34; with_reducible refine (duo_clearQ HD.out _ _ HF.out HE2.out).mono ?_; rintro e w3 ⟨rfl, hd⟩; obtain ⟨⟨x0, x1, x2, x3⟩, -, xl⟩ := four_of (hd.box (List.mem_cons_self ..)); clear s0 s1 s2 s3 s4 s5 sl; have HD := Lib.hid (hd.alloc #[.int .i64 F.fr, .int .i64 F.ri, .bool F.tc, .bool F.wr] 38); clear hd)
    | (go_at_call 20; refine (num_any _ _).mono ?_; rintro e w4 ⟨rfl, rfl⟩))
  all_goals
    go_ret3
    refine ⟨_, rfl, fun hTU => ?_, HD.out.less (fun x hx => by simp [hx])⟩
    obtain ⟨rfl, rfl⟩ := HTU.out hTU
    simp_all
end
end Go.Proofs.YtgkfejnjjoaihaaDoor
