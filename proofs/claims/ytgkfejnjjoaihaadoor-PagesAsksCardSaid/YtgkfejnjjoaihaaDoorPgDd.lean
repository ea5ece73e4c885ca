/- One step, Kind by Kind. -/
import Derived.Test.YtgkfejnjjoaihaaDoorPgDc
namespace Go.Proofs.YtgkfejnjjoaihaaDoor
open Go.RowKit
section
variable {w0 w : World} {t b q N : Nat} {T U : Tb} {L : List (Nat × Obj)}
set_option maxRecDepth 100000 in
set_option maxHeartbeats 1000000 in
theorem do_clean (K : Duo w0 w t b q N T U L) (A B C D : Int) (x : Nat) :
    Calls Tryd.prog 12 #[.pointer (some ⟨t, 0, none⟩), .pointer (some ⟨q, 0, none⟩), .agg (stepC 5 A B C D x)] w fun e w' =>
      ∃ r, e = .returned (.tuple #[.pointer (some ⟨t, 0, none⟩), .pointer (some ⟨q, 0, none⟩), .bool r]) ∧ (T = U → r = true) ∧ Duo w0 w' t b q N (cleanO T A B) (cleanO U A B) L := by
  unfold stepC
  have HD := Lib.hid (K.alloc #[.int .i64 5, .int .i64 A, .int .i64 B, .int .i64 C, .int .i64 D, .int .u32 x] 32)
  obtain ⟨e1, he1⟩ : ∃ e1, takE T A B = e1 := ⟨_, rfl⟩
  obtain ⟨e2, he2⟩ : ∃ e2, takE U A B = e2 := ⟨_, rfl⟩
  obtain ⟨E, hE⟩ : ∃ E, getO T A B = E := ⟨_, rfl⟩
  obtain ⟨F, hF⟩ : ∃ F, getO U A B = F := ⟨_, rfl⟩
  have HTU := Lib.hid (show T = U → E = F ∧ e1 = e2 by rintro rfl; exact ⟨hE.symm.trans hF, he1.symm.trans he2⟩)
  have HE := Lib.hid hE
  have HF := Lib.hid hF
  have HE1 := Lib.hid he1
  have HE2 := Lib.hid he2
  clear K hE hF he1 he2
  go_enter Tryd.func12, Tryd.ntmps12
  go_wp2_with (first
    | (go_at_call 38; with_reducible refine (duo_clean HD.out _ _ HE.out HE1.out).mono ?_; rintro e w2 ⟨rfl, hd⟩; obtain ⟨s0, s1, s2, s3, s4, s5⟩ := six_of (hd.box (List.mem_cons_self ..)); have sl := lt_of_box (hd.box (List.mem_cons_self ..)); have HD := Lib.hid (hd.alloc #[.int .i64 E.fr, .int .i64 E.ri, .bool E.tc, .bool E.wr] 38); clear hd)
    | (go_at_call 39; with_reducible refine (duo_cleanQ HD.out _ _ HF.out HE2.out).mono ?_; rintro e w3 ⟨rfl, hd⟩; obtain ⟨⟨x0, x1, x2, x3⟩, -, xl⟩ := four_of (hd.box (List.mem_cons_self ..)); clear s0 s1 s2 s3 s4 s5 sl; have HD := Lib.hid (hd.alloc #[.int .i64 F.fr, .int .i64 F.ri, .bool F.tc, .bool F.wr] 38); clear hd)
    | (go_at_call 20; refine (num_any _ _).mono ?_; rintro e w4 ⟨rfl, rfl⟩))
  all_goals
    go_ret3
    refine ⟨_, rfl, fun hTU => ?_, HD.out.less (fun x hx => by simp [hx])⟩
    obtain ⟨rfl, rfl⟩ := HTU.out hTU
    simp_all
set_option maxRecDepth 100000 in
set_option maxHeartbeats 1000000 in
theorem do_ask (K : Duo w0 w t b q N T U L) (A B C D : Int) (x : Nat) (hx : x < 4294967296) :
    Calls Tryd.prog 12 #[.pointer (some ⟨t, 0, none⟩), .pointer (some ⟨q, 0, none⟩), .agg (stepC 4 A B C D x)] w fun e w' =>
      ∃ r, e = .returned (.tuple #[.pointer (some ⟨t, 0, none⟩), .pointer (some ⟨q, 0, none⟩), .bool r]) ∧ (T = U → r = true) ∧ Duo w0 w' t b q N (askT T A x D) (askT U A x D) L := by
  unfold stepC
  have HD := Lib.hid (K.alloc #[.int .i64 4, .int .i64 A, .int .i64 B, .int .i64 C, .int .i64 D, .int .u32 x] 32)
  obtain ⟨e1, he1⟩ : ∃ e1, askE T A x D = e1 := ⟨_, rfl⟩
  obtain ⟨e2, he2⟩ : ∃ e2, askE U A x D = e2 := ⟨_, rfl⟩
  obtain ⟨f1, hf1⟩ : ∃ e1, askF T A x D = e1 := ⟨_, rfl⟩
  obtain ⟨f2, hf2⟩ : ∃ e2, askF U A x D = e2 := ⟨_, rfl⟩
  obtain ⟨p1, hp1⟩ : ∃ e1, askP T A x D = e1 := ⟨_, rfl⟩
  obtain ⟨p2, hp2⟩ : ∃ e2, askP U A x D = e2 := ⟨_, rfl⟩
  have HTU := Lib.hid (show T = U → e1 = e2 ∧ f1 = f2 ∧ p1 = p2 by rintro rfl; exact ⟨he1.symm.trans he2, hf1.symm.trans hf2, hp1.symm.trans hp2⟩)
  have HE1 := Lib.hid (show askE T A x D = e1 ∧ askF T A x D = f1 ∧ askP T A x D = p1 from ⟨he1, hf1, hp1⟩)
  have HE2 := Lib.hid (show askE U A x D = e2 ∧ askF U A x D = f2 ∧ askP U A x D = p2 from ⟨he2, hf2, hp2⟩)
  clear K he1 he2 hf1 hf2 hp1 hp2
  go_enter Tryd.func12, Tryd.ntmps12
  go_wp2_with (first
    | (go_at_call 19; with_reducible refine (duo_ask HD.out _ _ _ hx).mono ?_; rintro e w2 ⟨rfl, hd⟩; rw [HE1.out.1, HE1.out.2.1, HE1.out.2.2]; obtain ⟨s0, s1, s2, s3, s4, s5⟩ := six_of (hd.box (List.mem_cons_self ..)); have HD := Lib.hid hd; clear hd)
    | (go_at_call 37; with_reducible refine (duo_askQ HD.out _ _ _ hx).mono ?_; rintro e w3 ⟨rfl, hd⟩; rw [HE2.out.1, HE2.out.2.1, HE2.out.2.2]; clear s0 s1 s2 s3 s4 s5; have HD := Lib.hid hd; clear hd)
    | (go_at_call 20; refine (num_any _ _).mono ?_; rintro e w4 ⟨rfl, rfl⟩))
  all_goals
    go_ret3
    refine ⟨_, rfl, fun hTU => ?_, HD.out.less (fun x hx => by simp [hx])⟩
    obtain ⟨rfl, rfl, rfl⟩ := HTU.out hTU
    simp_all
set_option maxRecDepth 100000 in
set_option maxHeartbeats 1000000 in
theorem do_share (K : Duo w0 w t b q N T U L) (hN : N < 100000) (A B C D : Int) (x : Nat) :
    Calls Tryd.prog 12 #[.pointer (some ⟨t, 0, none⟩), .pointer (some ⟨q, 0, none⟩), .agg (stepC 6 A B C D x)] w fun e w' =>
      ∃ r, e = .returned (.tuple #[.pointer (some ⟨t, 0, none⟩), .pointer (some ⟨q, 0, none⟩), .bool r]) ∧ (T = U → r = true) ∧ Duo w0 w' t b q (N + 32) (shareT T A B) (shareT U A B) L := by
  unfold stepC
  have HD := Lib.hid (K.alloc #[.int .i64 6, .int .i64 A, .int .i64 B, .int .i64 C, .int .i64 D, .int .u32 x] 32)
  obtain ⟨e1, he1⟩ : ∃ e1, shareE T A B = e1 := ⟨_, rfl⟩
  obtain ⟨e2, he2⟩ : ∃ e2, shareE U A B = e2 := ⟨_, rfl⟩
  obtain ⟨f1, hf1⟩ : ∃ e1, shareN T A B = e1 := ⟨_, rfl⟩
  obtain ⟨f2, hf2⟩ : ∃ e2, shareN U A B = e2 := ⟨_, rfl⟩
  have HTU := Lib.hid (show T = U → e1 = e2 ∧ f1 = f2 by rintro rfl; exact ⟨he1.symm.trans he2, hf1.symm.trans hf2⟩)
  have HE1 := Lib.hid (show shareE T A B = e1 ∧ shareN T A B = f1 from ⟨he1, hf1⟩)
  have HE2 := Lib.hid (show shareE U A B = e2 ∧ shareN U A B = f2 from ⟨he2, hf2⟩)
  clear K he1 he2 hf1 hf2
  go_enter Tryd.func12, Tryd.ntmps12
  go_wp2_with (first
    | (go_at_call 24; with_reducible refine (duo_share HD.out hN _ _).mono ?_; rintro e w2 ⟨rfl, hd⟩; rw [HE1.out.1, HE1.out.2]; obtain ⟨s0, s1, s2, s3, s4, s5⟩ := six_of (hd.box (List.mem_cons_self ..)); have HD := Lib.hid hd; clear hd)
    | (go_at_call 40; with_reducible refine (duo_shareQ HD.out _ _).mono ?_; rintro e w3 ⟨rfl, hd⟩; rw [HE2.out.1, HE2.out.2]; clear s0 s1 s2 s3 s4 s5; have HD := Lib.hid hd; clear hd)
    | (go_at_call 20; refine (num_any _ _).mono ?_; rintro e w4 ⟨rfl, rfl⟩))
  all_goals
    go_ret3
    refine ⟨_, rfl, fun hTU => ?_, HD.out.less (fun x hx => by simp [hx])⟩
    obtain ⟨rfl, rfl⟩ := HTU.out hTU
    simp_all
end
end Go.Proofs.YtgkfejnjjoaihaaDoor
