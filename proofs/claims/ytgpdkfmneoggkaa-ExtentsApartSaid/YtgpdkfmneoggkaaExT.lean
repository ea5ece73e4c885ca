/- other: a step of another account. -/
import Derived.Test.YtgpdkfmneoggkaaExS
namespace Go.Proofs.Ytgpdkfmneoggkaa
open Go.RowKit
attribute [local go_sem] Oper.semAt_some

def xobj10 (kd : Int) (X : Stp10) : Obj := .cells #[.int .i64 kd, .int .i64 X.a, .int .i64 X.b, .int .i64 X.c, .slice X.dA X.dl.length X.dc, .slice X.kA X.kl.length X.kc] 37
theorem below_x10 (w : World) (kd : Int) (X : Stp10) : Below w.heap.size w (w.alloc (xobj10 kd X)) := (Below.refl _ w).alloc (Nat.le_refl _) _
theorem data_far {w0 : World} {A : Option Addr} {l : List Int} (h : ByteIn10 w0 A l) {O : Nat → Prop} (hO : ∀ n, O n → w0.heap.size ≤ n) : ∀ b o, A = some ⟨b, o, none⟩ → l ≠ [] → ¬ O b := fun b o e hne hb => by
  obtain ⟨y, hy⟩ : ∃ y, l[0]? = some y := by
    cases l with
    | nil => exact absurd rfl hne
    | cons y _ => exact ⟨y, rfl⟩
  obtain ⟨b', o', e', hc⟩ := h 0 y hy
  rw [e] at e'
  cases e'
  have := World.block_lt_of_cell? w0 _ hc
  have := hO b hb
  simp only at *
  omega
set_option maxHeartbeats 8000000 in
set_option maxRecDepth 100000 in
theorem other_any {w0 W : World} {x d y c m : Nat} (h : Inv10 w0 W x d y c m) (hm : m < 1000000) {A : Option Addr} {n : Nat} {R : Nat → Stp10} (hA : StepsIn10 w0 A n R) (cap j : Nat) :
    Calls Try.prog 21 #[.pointer (some ⟨x, 0, none⟩), .slice A n cap, .int .i64 (j : Int)] W fun e w' => e = .returned (.tuple #[]) ∧ Inv10 w0 w' x d y c (m + 1) := by
  obtain ⟨O1, L1, s1, k1, O2, L2, s2, k2, hT, hS1, hS2, hAl, m1, m2⟩ := h
  have HT := Lib.hid hT
  have HS1 := Lib.hid hS1
  have HS2 := Lib.hid hS2
  have HAL := Lib.hid hAl
  have HM1 := Lib.hid m1
  have HM2 := Lib.hid m2
  have H0 := Lib.hid (show Inv10 w0 W x d y c (m + 1) from ⟨O1, L1, s1, k1, O2, L2, s2, k2, hT, hS1, hS2, hAl, by omega, by omega⟩)
  have HA := Lib.hid hA
  clear hT hS1 hS2 hAl m1 m2 hA
  by_cases hlt : j < n
  · have hlt' : (j : Int) < (n : Int) := by omega
    obtain ⟨hf, b, o, rfl, hc⟩ := (HA.out.below HT.out.bl) j hlt
    have HF0 := Lib.hid (HA.out j hlt).1
    obtain ⟨X, hX⟩ : ∃ X, R j = X := ⟨_, rfl⟩
    rw [hX] at hf hc HF0
    have HF := Lib.hid hf
    have c0 := hc 0 _ rfl
    have c1 := hc 1 _ rfl
    have c2 := hc 2 _ rfl
    have c3 := hc 3 _ rfl
    have c4 := hc 4 _ rfl
    have c5 := hc 5 _ rfl
    rw [Nat.add_zero] at c0
    clear hX hf hc
    obtain ⟨kd, hkd⟩ : ∃ kd, X.kd = kd := ⟨_, rfl⟩
    rw [hkd] at c0
    obtain ⟨q, hq, hq2⟩ : ∃ q : Nat, bits .and .i64 X.a 1 = (q : Int) ∧ q ≤ 1 := ⟨(X.a % 2).toNat, by rw [i64_and1]; have := Int.emod_nonneg X.a (b := 2) (by decide); omega, by have := Int.emod_lt_of_pos X.a (b := 2) (by decide); omega⟩
    have hmul : IntKind.i64.wrap ((q : Int) * 2) = ((q * 2 : Nat) : Int) := by rw [IntWalk.i64_in _ (by omega)]; push_cast; rfl
    have hw3 : q * 2 < s1.n := by rw [HS1.out.n]; omega
    have hw02 : q * 2 = 0 ∨ q * 2 = 2 := by omega
    obtain ⟨who, hwho⟩ : ∃ who, q * 2 = who := ⟨_, rfl⟩
    rw [hwho] at hmul hw3 hw02
    clear hkd hwho
    go_enter Try.func21, Try.ntmps21
    by_cases hk1 : kd = 1
    · subst hk1
      go_wp2_with fail
      have hTx := HT.out.step (below_x10 W 1 X)
      go_at_call 17
      refine Calls.mono (side_take hTx.a who hw3 X.b HF.out.wb) ?_
      rintro e w1 hs
      obtain ⟨rfl, O', L', hT'⟩ := hTx.left hs
      have HR := Lib.hid (show Inv10 w0 w1 x d y c (m + 1) from ⟨O', L', _, _, O2, L2, s2, k2, hT', HS1.out.set who _ (takeV_same _ _), HS2.out, HAL.out.part (by omega) _, by have := HM1.out; omega, by have := HM2.out; omega⟩)
      clear hTx hs hT'
      go_wp2_with fail
      go_end0
      exact ⟨rfl, HR.out⟩
    by_cases hk2 : kd = 2
    · subst hk2
      go_wp2_with fail
      have hTx := HT.out.step (below_x10 W 2 X)
      go_at_call 23
      refine Calls.mono (side_give hTx.a who hw3 X.b X.c HF.out.wb HF.out.wc) ?_
      rintro e w1 hs
      obtain ⟨rfl, O', L', hT'⟩ := hTx.left hs
      have HR := Lib.hid (show Inv10 w0 w1 x d y c (m + 1) from ⟨O', L', _, _, O2, L2, s2, k2, hT', HS1.out.set who _ (giveV_same _ _ _), HS2.out, HAL.out.part (by omega) _, by have := HM1.out; omega, by have := HM2.out; omega⟩)
      clear hTx hs hT'
      go_wp2_with fail
      go_end0
      exact ⟨rfl, HR.out⟩
    by_cases hk3 : kd = 3
    · subst hk3
      go_wp2_with fail
      have hTx := HT.out.step (below_x10 W 3 X)
      go_at_call 26
      refine Calls.mono (side_write hTx.a who hw3 X.b X.dA X.dc X.dl (HF.out.dat.below (below_x10 W 3 X)) HF.out.d01 (data_far HF0.out.dat (fun n hn => HT.out.lo1 n (.inl hn))) (by have := HM1.out; omega)) ?_
      rintro e w1 hs
      obtain ⟨rfl, O', L', hT'⟩ := hTx.left hs
      have HR := Lib.hid (show Inv10 w0 w1 x d y c (m + 1) from ⟨O', L', _, _, O2, L2, s2, k2, hT', HS1.out.disk _ (by rw [(writeV_fl _ _ _ _).1]), HS2.out, HAL.out.write HS1.out hw02 _ _, by have := HM1.out; have := (writeV_fl (s1.pt who) k1 X.b X.dl).2; omega, by have := HM2.out; omega⟩)
      clear hTx hs hT'
      go_wp2_with fail
      go_end0
      exact ⟨rfl, HR.out⟩
    by_cases hk4 : kd = 4
    · subst hk4
      go_wp2_with fail
      have hTx := HT.out.step (below_x10 W 4 X)
      go_at_call 28
      refine Calls.mono (side_flush hTx.a who hw3) ?_
      rintro e w1 hs
      obtain ⟨rfl, O', L', hT'⟩ := hTx.left hs
      have hwr : (k1.flushed (s1.pt who).fi (s1.pt who).ct).wr = k1.wr := (flushed_get k1 _ _ (HT.out.a.fit who)).2.2
      have HR := Lib.hid (show Inv10 w0 w1 x d y c (m + 1) from ⟨O', L', _, _, O2, L2, s2, k2, hT', HS1.out.disk _ (Dk.flushed_len _ _ _), HS2.out, HAL.out.flush HS1.out hw02, by rw [hwr]; have := HM1.out; omega, by have := HM2.out; omega⟩)
      clear hTx hs hT' hwr
      go_wp2_with fail
      go_end0
      exact ⟨rfl, HR.out⟩
    · have HR := Lib.hid (H0.out.step (below_x10 W kd X))
      go_wp2_with fail
      go_end0
      exact ⟨rfl, HR.out⟩
  · have hlt' : (n : Int) ≤ (j : Int) := by omega
    go_enter Try.func21, Try.ntmps21
    go_wp2_with fail
    (try simp only [Exit.inBlock, Exit.then]); refine bodyPost_ret (results_none rfl _ _ _) rfl ?_
    exact ⟨rfl, H0.out⟩
end Go.Proofs.Ytgpdkfmneoggkaa
