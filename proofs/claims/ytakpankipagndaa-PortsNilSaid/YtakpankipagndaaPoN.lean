/- known. -/
import Derived.Test.YtakpankipagndaaPoM
namespace Go.Proofs.Ytakpankipagndaa
open Go.RowKit (wrap64)
open Go.RowKit
open Go.Maps (Keyed)
attribute [local go_sem] Oper.semAt_some

def k0 : Ps := newPs [2, 1]
def k1 : Ps := (claimR k0 0 []).2.2
def k2 : Ps := (claimR k1 0 []).2.2
def k3 : Ps := (comeR k2 [0, 7]).2.1
def k4 : Ps := (takeR k3 0 0).2.2
def k5 : Ps := (closeR k4 0 0).2.2
def k6 : Ps := (comeR k5 [1, 5]).2.1
def k7 : Ps := (comeR k6 []).2.1
def k8 : Ps := (comeR k7 [9]).2.1
def kX (n : Nat) : Cl := ⟨[], [0, 7] :: List.replicate (min n 7) [0], 0, if n < 8 then 0 else 1⟩
def kL (n : Nat) : Ps := k8.upd 0 1 (kX n)
theorem k8_at : k8.c 0 0 = none ∧ k8.c 0 1 = some (kX 0) ∧ k8.q = [2, 1] := ⟨by kernel_rfl, by kernel_rfl, by kernel_rfl⟩
theorem upd_self {s : Ps} {a n : Int} {X : Cl} (h : s.c a n = some X) : s.upd a n X = s := by
  obtain ⟨q, c, m⟩ := s
  unfold Ps.upd
  simp only
  congr 1
  funext b k
  by_cases e : b = a ∧ k = n
  · rw [if_pos e, e.1, e.2]; exact h.symm
  · rw [if_neg e]
theorem upd_upd (s : Ps) (a n : Int) (X Y : Cl) : (s.upd a n X).upd a n Y = s.upd a n Y := by
  unfold Ps.upd
  simp only
  congr 1
  funext b k
  by_cases e : b = a ∧ k = n
  · rw [if_pos e, if_pos e]
  · rw [if_neg e, if_neg e, if_neg e]
theorem kL_0 : kL 0 = k8 := upd_self k8_at.2.1
theorem kX_come (n : Nat) (h : n < 8) : (kX n).come [0] = kX (n + 1) := by
  rcases (show n = 0 ∨ n = 1 ∨ n = 2 ∨ n = 3 ∨ n = 4 ∨ n = 5 ∨ n = 6 ∨ n = 7 by omega) with rfl | rfl | rfl | rfl | rfl | rfl | rfl | rfl <;> kernel_rfl
theorem kL_step (n : Nat) (h : n < 8) : (comeR (kL n) [0]).2.1 = kL (n + 1) := by
  have h1 : (kL n).c 0 1 = some (kX n) := Ps.upd_same _ _ _ _
  have h0 : (kL n).c 0 0 = none := (Ps.upd_other _ _ _ _ (by decide)).trans k8_at.1
  have hq : (kL n).quota 0 = 2 := by
    have : (kL n).q = [2, 1] := k8_at.2.2
    unfold Ps.quota Ps.acc Ps.qt
    rw [this]
    rfl
  have ho : (kL n).openN 0 = [1] := by
    unfold Ps.openN Ps.opens
    rw [hq]
    show (List.filter _ [0, 1]) = _
    rw [List.filter_cons_of_neg (by show ¬ ((kL n).c 0 0).isSome = true; rw [h0]; simp), List.filter_cons_of_pos (by show ((kL n).c 0 1).isSome = true; rw [h1]; rfl)]
    rfl
  have hc : comeR (kL n) [0] = (0, (kL n).comeL 0 [0] ((kL n).openN 0)) := rfl
  rw [hc, ho]
  show ((kL n).come1 0 [0] 1).1 = _
  unfold Ps.come1
  show (match (kL n).c 0 1 with | some X => if matchL X.fl [0] then ((kL n).upd 0 1 (X.come [0]), [(1, decide (X.rg.length = 8))]) else (kL n, []) | none => (kL n, [])).1 = _
  rw [h1]
  show (if matchL [] [0] then _ else _ : Ps × List (Nat × Bool)).1 = _
  rw [if_pos (by decide +kernel)]
  show (kL n).upd 0 1 ((kX n).come [0]) = _
  rw [kX_come n h]
  exact upd_upd _ _ _ _ _
theorem kq0 : newQ [9, 8] = false := by decide +kernel
theorem kq1 : newQ [] = false := by decide +kernel
theorem kq2 : newQ [2, 1] = true := by decide +kernel
theorem kc1 : (claimR k0 0 []).1 = 0 ∧ (claimR k0 0 []).2.1 = 0 ∧ k0.m < 1000000 := by decide +kernel
theorem kc2 : (claimR k1 0 []).1 = 1 ∧ (claimR k1 0 []).2.1 = 0 ∧ k1.m < 1000000 := by decide +kernel
theorem kc3 : (claimR k2 0 []).1 = 0 ∧ (claimR k2 0 []).2.1 = 5 ∧ k2.m < 1000000 := by decide +kernel
theorem kc4 : (claimR k2 2 []).1 = 0 ∧ (claimR k2 2 []).2.1 = 2 := by decide +kernel
theorem kc3s : (claimR k2 0 []).2.2 = k2 := by
  have : k2.free 0 = none := by decide +kernel
  unfold claimR
  rw [this]
  split <;> rfl
theorem kc4s : (claimR k2 2 []).2.2 = k2 := by
  have : k2.acc 2 = false := by decide +kernel
  unfold claimR
  rw [this, if_neg (by simp)]
theorem kd1 : (comeR k2 [0, 7]).1 = 0 ∧ (comeR k2 [0, 7]).2.2 = [(0, false), (1, false)] := by decide +kernel
theorem ke1 : (takeR k3 0 0).1 = 0 ∧ (takeR k3 0 0).2.1 = [0, 7] := by decide +kernel
theorem ke2 : (takeR k4 0 0).1 = 6 ∧ (takeR k4 0 0).2.1 = [] := by decide +kernel
theorem ke2s : (takeR k4 0 0).2.2 = k4 := by
  have : k4.first 0 0 = none := by decide +kernel
  unfold takeR
  rw [this]
theorem kf1 : (closeR k4 0 0).1 = 0 ∧ (closeR k4 0 0).2.1 = 0 := by decide +kernel
theorem kg1 : (comeR k5 [1, 5]).1 = 0 ∧ (comeR k5 [1, 5]).2.2 = [] := by decide +kernel
theorem kg2 : (comeR k6 []).1 = 0 ∧ (comeR k6 []).2.2 = [] := by decide +kernel
theorem kg3 : (comeR k7 [9]).1 = 0 ∧ (comeR k7 [9]).2.2 = [] := by decide +kernel
theorem kh1 : (kL 8).len 0 1 = 8 ∧ (kL 8).lost 0 1 = 1 := by
  have h1 : (kL 8).c 0 1 = some (kX 8) := Ps.upd_same _ _ _ _
  unfold Ps.len Ps.lost
  rw [h1]
  exact ⟨rfl, rfl⟩
theorem k_str07 : strP [0, 7] = ⟨#[0, 7]⟩ := by kernel_rfl
theorem KnK.weak {w0 W : World} {p : Nat} {s : Ps} {Ks Ks' : List (Value × Nat × Nat × Nat × List Value)} (h : KnK w0 W p s Ks) (hs : ∀ t ∈ Ks', t ∈ Ks) : KnK w0 W p s Ks' := by
  obtain ⟨O, R, L, K, kk⟩ := h
  exact ⟨O, R, L, K, fun t ht => kk t (hs t ht)⟩
theorem kn_new {w0 W : World} (hb : Below w0.heap.size w0 W) {A : Option Addr} {qs : List Int} (h : IntsAt W A qs) (c : Nat) (hq : newQ qs = true) {n : Nat} (hn : qs.length = n) :
    Calls Try.prog 24 #[.slice A n c] W fun e w' => ∃ p, e = .returned (.tuple #[.pointer (some ⟨p, 0, none⟩), .int .i64 0]) ∧ KnK w0 w' p (newPs qs) [] := by
  subst hn
  refine (new_yes12 h c hq).mono ?_
  rintro e w' ⟨p, O, R, L, rfl, hp, ho, hbb⟩
  exact ⟨p, rfl, O, R, L, ⟨hp, fun k hk => Nat.le_trans hb.size (ho k hk), hb.trans (hbb.mono hb.size)⟩, Kept.nil _ _⟩
theorem ca_new (w : World) (l : List (Nat × Bool)) : CaIn (w.alloc (.cells (caL l).toArray 53)) (some ⟨w.heap.size, 0, none⟩) l := fun i x hx => by
  obtain ⟨e0, e1⟩ := caL_at l i x hx
  refine ⟨w.heap.size, 0, rfl, by simp, ?_, ?_⟩
  · rw [cell_of_row _ _ _ _ _ _ (heap_alloc_new w _), Nat.zero_add, List.getElem?_toArray]; exact e0
  · rw [cell_of_row _ _ _ _ _ _ (heap_alloc_new w _), Nat.zero_add, List.getElem?_toArray]; exact e1
theorem fl_nil12 (w : World) : FlIn w none 0 0 [] := ⟨rfl, fun _ => ⟨rfl, rfl⟩, TsIn.nil w _⟩
set_option maxHeartbeats 16000000 in
set_option maxRecDepth 100000 in
theorem known_any12 (w : World) : Calls Try.prog 9 #[] w fun e w' => e = .returned (.bool true) ∧ Below w.heap.size w w' := by
  go_enter Try.func9, Try.ntmps9
  go_wp2_with fail
  go_at_call 24
  refine Calls.mono (new_no12 (qs := [9, 8]) (ints_row12 (heap_alloc_new w _)) 2 kq0 (by decide)) ?_
  rintro e w1 ⟨rfl, rfl⟩
  have HB1 := Lib.hid (show Below w.heap.size w (w.alloc (.cells #[.int .i64 9, .int .i64 8] 3)) from (Below.refl _ w).alloc (Nat.le_refl _) _)
  go_wp2_with fail
  go_at_call 24
  refine Calls.mono (new_no12 (qs := []) (ints_nil12 _ none) 0 kq1 (by decide)) ?_
  rintro e w2 ⟨rfl, rfl⟩
  go_wp2_with fail
  go_at_call 24
  have HB2 := Lib.hid (show Below w.heap.size w ((w.alloc (.cells #[.int .i64 9, .int .i64 8] 3)).alloc (.cells #[.int .i64 2, .int .i64 1] 3)) from HB1.out.alloc HB1.out.size _)
  have hI : IntsAt ((w.alloc (.cells #[.int .i64 9, .int .i64 8] 3)).alloc (.cells #[.int .i64 2, .int .i64 1] 3)) (some ⟨w.heap.size + 1, 0, none⟩) [2, 1] := by
    have := ints_row12 (qs := [2, 1]) (heap_alloc_new (w.alloc (.cells #[.int .i64 9, .int .i64 8] 3)) (.cells #[.int .i64 2, .int .i64 1] 3))
    rwa [World.size_alloc] at this
  refine Calls.mono (kn_new HB2.out hI 2 kq2 rfl) ?_
  rintro e w3 ⟨p, rfl, hk⟩
  have K3 := Lib.hid (show KnK w w3 p k0 [] from hk)
  clear hk HB2 HB1 hI
  go_wp2_with fail
  go_at_call 17
  refine Calls.mono (kn_claim K3.out 0 (fl_nil12 _) (by decide) kc1.2.2) ?_
  rw [kc1.1, kc1.2.1]
  rintro e w4 ⟨rfl, hk⟩
  have K4 := Lib.hid (show KnK w w4 p k1 [] from hk)
  clear hk K3
  go_wp2_with fail
  go_at_call 17
  refine Calls.mono (kn_claim K4.out 0 (fl_nil12 _) (by decide) kc2.2.2) ?_
  rw [kc2.1, kc2.2.1]
  rintro e w5 ⟨rfl, hk⟩
  have K5 := Lib.hid (show KnK w w5 p k2 [] from hk)
  clear hk K4
  go_wp2_with fail
  go_at_call 17
  refine Calls.mono (kn_claim K5.out 0 (fl_nil12 _) (by decide) kc3.2.2) ?_
  rw [kc3.1, kc3.2.1, kc3s]
  rintro e w6 ⟨rfl, hk⟩
  have K6 := Lib.hid (show KnK w w6 p k2 [] from hk)
  clear hk K5
  go_wp2_with fail
  go_at_call 17
  refine Calls.mono (kn_claim K6.out 2 (fl_nil12 _) (by decide) kc3.2.2) ?_
  rw [kc4.1, kc4.2, kc4s]
  rintro e w7 ⟨rfl, hk⟩
  have K7 := Lib.hid (show KnK w w7 p k2 [] from hk)
  clear hk K6
  go_wp2_with fail
  go_at_call 19
  refine Calls.mono (kn_come_new K7.out [0, 7] (by decide) rfl) ?_
  rw [kd1.1, kd1.2]
  rintro e w8 ⟨l, rfl, hk⟩
  have K8 := Lib.hid (show KnK w w8 p k3 [(l, 53, 2, 2, caL [(0, false), (1, false)])] from hk)
  clear hk K7
  go_wp2_with fail
  go_at_call 21
  refine Calls.mono (kn_take K8.out (a := 0) (n := 0) (by decide) (by decide)) ?_
  rw [ke1.1, ke1.2]
  rintro e w9 ⟨x, rfl, hk⟩
  have K9 := Lib.hid (show KnK w w9 p k4 [(x, 5, 1, 2, byL [0, 7]), (l, 53, 2, 2, caL [(0, false), (1, false)])] from hk)
  clear hk K8
  go_wp2_with fail
  go_at_call 21
  refine Calls.mono (kn_take K9.out (a := 0) (n := 0) (by decide) (by decide)) ?_
  rw [ke2.1, ke2s]
  rintro e w10 ⟨y, rfl, hk⟩
  have K10 := Lib.hid (show KnK w w10 p k4 [(x, 5, 1, 2, byL [0, 7]), (l, 53, 2, 2, caL [(0, false), (1, false)])] from hk.weak (fun t ht => List.mem_cons_of_mem _ ht))
  clear hk K9
  go_wp2_with fail
  go_at_call 22
  refine Calls.mono (kn_close K10.out (a := 0) (n := 0) (by decide) (by decide)) ?_
  rw [kf1.1, kf1.2]
  rintro e w11 ⟨rfl, hk⟩
  have K11 := Lib.hid (show KnK w w11 p k5 [(x, 5, 1, 2, byL [0, 7]), (l, 53, 2, 2, caL [(0, false), (1, false)])] from hk)
  clear hk K10
  go_wp2_with fail
  go_at_call 19
  refine Calls.mono (kn_come_new K11.out [1, 5] (by decide) rfl) ?_
  rw [kg1.1, kg1.2]
  rintro e w12 ⟨v12, rfl, hk⟩
  obtain ⟨A12, c12, rfl, -⟩ := CaIn.of_own (l := []) (hk.row (List.mem_cons_self ..))
  have K12 := Lib.hid (show KnK w w12 p k6 [(x, 5, 1, 2, byL [0, 7]), (l, 53, 2, 2, caL [(0, false), (1, false)])] from hk.weak (fun t ht => List.mem_cons_of_mem _ ht))
  clear hk K11
  go_wp2_with fail
  go_at_call 19
  refine Calls.mono (kn_come K12.out (PkF.nil12 _) (.inl (FarP.old (fun b o q e => by cases e)))) ?_
  rw [kg2.1, kg2.2]
  rintro e w13 ⟨v13, rfl, hk⟩
  obtain ⟨A13, c13, rfl, -⟩ := CaIn.of_own (l := []) (hk.row (List.mem_cons_self ..))
  have K13 := Lib.hid (show KnK w w13 p k7 [(x, 5, 1, 2, byL [0, 7]), (l, 53, 2, 2, caL [(0, false), (1, false)])] from hk.weak (fun t ht => List.mem_cons_of_mem _ ht))
  clear hk K12
  go_wp2_with fail
  go_at_call 19
  refine Calls.mono (kn_come_new K13.out [9] (by decide) rfl) ?_
  rw [kg3.1, kg3.2]
  rintro e w14 ⟨v14, rfl, hk⟩
  obtain ⟨A14, c14, rfl, -⟩ := CaIn.of_own (l := []) (hk.row (List.mem_cons_self ..))
  have K14 := Lib.hid (show KnK w w14 p (kL 0) [(x, 5, 1, 2, byL [0, 7]), (l, 53, 2, 2, caL [(0, false), (1, false)])] from kL_0 ▸ hk.weak (fun t ht => List.mem_cons_of_mem _ ht))
  clear hk K13
  go_wp2_with fail
  go_loopw [29] (fun i W => ∃ k : Nat, i = .int .i64 (k : Int) ∧ k ≤ 8 ∧ KnK w W p (kL k) [(x, 5, 1, 2, byL [0, 7]), (l, 53, 2, 2, caL [(0, false), (1, false)])]) (fun i _ => 8 - (intOf i).toNat)
  case atStart => exact ⟨0, rfl, Nat.zero_le _, K14.out⟩
  case round =>
    obtain ⟨k, rfl, hk8, hk⟩ := hrel
    have K := Lib.hid hk
    clear hk K14
    by_cases hlt : k < 8
    · have hlt' : (k : Int) < 8 := by omega
      go_wp2_with fail
      go_at_call 19
      refine Calls.mono (kn_come_new K.out [0] (by decide) rfl) ?_
      rw [kL_step k hlt]
      rintro e w15 ⟨v15, rfl, hk⟩
      have K15 := Lib.hid (show KnK w w15 p (kL (k + 1)) [(x, 5, 1, 2, byL [0, 7]), (l, 53, 2, 2, caL [(0, false), (1, false)])] from hk.weak (fun t ht => List.mem_cons_of_mem _ ht))
      clear hk K
      go_wp2_with fail
      go_roundw
      case rel => exact ⟨k + 1, by go_num, hlt, K15.out⟩
      case measure => simp [intOf]; omega
    · obtain rfl : k = 8 := by omega
      have hrow := K.out.row (t := (l, 53, 2, 2, caL [(0, false), (1, false)])) (by simp)
      have HRL := Lib.hid (CaIn.of_own (l := [(0, false), (1, false)]) hrow)
      obtain ⟨AL, cL, rfl, hcl⟩ := HRL.out
      obtain ⟨AX, cX, rfl, hpx, -⟩ := PkF.of_own (P := [0, 7]) (K.out.row (t := (x, 5, 1, 2, byL [0, 7])) (by simp)) (by decide)
      have HCL := Lib.hid hcl
      have HPX := Lib.hid hpx
      have hcx := fun W (hb : Below wr.heap.size wr W) => conv_pk (hpx.below hb).pk 2 cX rfl
      rw [k_str07] at hcx
      have HCX := Lib.hid hcx
      clear HRL hrow hcl hpx hcx
      go_wp2_with (first
        | (go_at_call 18; refine (num_any12 _ _).mono ?_; rintro e w' ⟨rfl, rfl⟩)
        | fail)
      go_at_call 28
      have hba : Below wr.heap.size wr (wr.alloc (.cells #[.int .i64 0, .bool false, .int .i64 1, .bool false] 53)) := (Below.refl _ wr).alloc (Nat.le_refl _) _
      refine Calls.mono (samecame_any (l := [(0, false), (1, false)]) (HCL.out.below hba) (ca_new wr [(0, false), (1, false)]) 2 cL 2 rfl (by decide)) ?_
      rintro e w16 ⟨rfl, hb16⟩
      have HB16 := Lib.hid (hba.trans (hb16.mono hba.size))
      have hcv := HCX.out w16 HB16.out
      have hk16 := K.out.step HB16.out
      have hl := kn_len hk16 (a := 0) (n := 1) (by decide) (by decide)
      have hlo := kn_lost hk16 (a := 0) (n := 1) (by decide) (by decide)
      rw [kh1.1] at hl
      rw [kh1.2] at hlo
      have HL := Lib.hid hl
      have HLO := Lib.hid hlo
      have HBF := Lib.hid hk16.bl
      clear hba hb16 hk16 hl hlo
      go_wp2_with (first
        | (go_at_call 18; refine (num_any12 _ _).mono ?_; rintro e w' ⟨rfl, rfl⟩)
        | (go_at_call 20; refine HL.out.mono ?_; rintro e w' ⟨rfl, rfl⟩)
        | (go_at_call 26; refine HLO.out.mono ?_; rintro e w' ⟨rfl, rfl⟩))
      go_ret
      exact ⟨rfl, HBF.out⟩
end Go.Proofs.Ytakpankipagndaa
