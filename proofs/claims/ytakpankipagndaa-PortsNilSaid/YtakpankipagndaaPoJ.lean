/- Come. -/
import Derived.Test.YtakpankipagndaaPoI
import Derived.Deep.AppendLies
namespace Go.Proofs.Ytakpankipagndaa
open Go.RowKit (wrap64)
open Go.RowKit
open Go.Maps (Keyed)
attribute [local go_sem] Oper.semAt_some

theorem Try.inCame : (Try.prog.info? 53).map (fun i => (i.zero, i.size, i.bytes)) = some (some (.agg #[.int .i64 0, .bool false]), 2, 16) := by kernel_rfl
/-- Where a packet came, and was lost. -/
def caL (l : List (Nat × Bool)) : List Value := l.flatMap fun x => [.int .i64 (x.1 : Int), .bool x.2]
theorem caL_append (a b : List (Nat × Bool)) : caL (a ++ b) = caL a ++ caL b := by simp [caL]
theorem caL_len : ∀ l : List (Nat × Bool), (caL l).length = l.length * 2
  | [] => rfl
  | x :: l => by
    have := caL_len l
    unfold caL at this ⊢
    rw [List.flatMap_cons, List.length_append, this]
    simp
    omega
theorem caL_one (l : List (Nat × Bool)) : ∀ v ∈ caL l, v.oneCell' = true := fun v hv => by
  obtain ⟨x, -, h⟩ := List.mem_flatMap.1 hv
  simp at h
  rcases h with rfl | rfl <;> rfl
/-- A packet at one port. -/
def Ps.come1 (s : Ps) (a : Int) (P : List Nat) (n : Nat) : Ps × List (Nat × Bool) := match s.c a (n : Int) with
  | some X => if matchL X.fl P then (s.upd a n (X.come P), [(n, decide (X.rg.length = 8))]) else (s, [])
  | none => (s, [])
def Ps.comeL (s : Ps) (a : Int) (P : List Nat) : List Nat → Ps × List (Nat × Bool)
  | [] => (s, [])
  | n :: l => (((s.come1 a P n).1.comeL a P l).1, (s.come1 a P n).2 ++ ((s.come1 a P n).1.comeL a P l).2)
theorem comeL_snoc (a : Int) (P : List Nat) (n : Nat) : ∀ (l : List Nat) (s : Ps), s.comeL a P (l ++ [n]) = (((s.comeL a P l).1.come1 a P n).1, (s.comeL a P l).2 ++ ((s.comeL a P l).1.come1 a P n).2)
  | [], s => by simp [Ps.comeL]
  | m :: l, s => by
    have ih := comeL_snoc a P n l (s.come1 a P m).1
    simp only [List.cons_append, Ps.comeL, ih, List.append_assoc]
def Ps.comeV (s : Ps) (P : List Nat) : Ps × List (Nat × Bool) := match homeN P with
  | some x => s.comeL (x : Int) P (s.openN (x : Int))
  | none => (s, [])
theorem come1_m (s : Ps) (a : Int) (P : List Nat) (n : Nat) : (s.come1 a P n).1.m = s.m ∧ (s.come1 a P n).1.q = s.q ∧ (∀ b k, ((s.come1 a P n).1.c b k).isSome = (s.c b k).isSome) ∧ (∀ b k, b ≠ a → (s.come1 a P n).1.c b k = s.c b k) ∧ (s.come1 a P n).2.length ≤ 1 := by
  unfold Ps.come1
  cases hc : s.c a (n : Int) with
  | none => exact ⟨rfl, rfl, fun _ _ => rfl, fun _ _ _ => rfl, by simp⟩
  | some X =>
    dsimp only
    split
    · refine ⟨rfl, rfl, fun b k => ?_, fun b k hb => Ps.upd_other _ _ _ _ (fun e => hb e.1), by simp⟩
      by_cases e : b = a ∧ k = (n : Int)
      · rw [e.1, e.2, Ps.upd_same, hc]; rfl
      · rw [Ps.upd_other _ _ _ _ e]
    · exact ⟨rfl, rfl, fun _ _ => rfl, fun _ _ _ => rfl, by simp⟩
theorem comeL_m (a : Int) (P : List Nat) : ∀ (l : List Nat) (s : Ps), (s.comeL a P l).1.m = s.m ∧ (s.comeL a P l).1.q = s.q ∧ (∀ b k, ((s.comeL a P l).1.c b k).isSome = (s.c b k).isSome) ∧ (∀ b k, b ≠ a → (s.comeL a P l).1.c b k = s.c b k) ∧ (s.comeL a P l).2.length ≤ l.length
  | [], s => ⟨rfl, rfl, fun _ _ => rfl, fun _ _ _ => rfl, Nat.le_refl _⟩
  | n :: l, s => by
    obtain ⟨h1, h2, h3, h4, h5⟩ := come1_m s a P n
    obtain ⟨k1, k2, k3, k4, k5⟩ := comeL_m a P l (s.come1 a P n).1
    refine ⟨k1.trans h1, k2.trans h2, fun b k => (k3 b k).trans (h3 b k), fun b k hb => (k4 b k hb).trans (h4 b k hb), ?_⟩
    simp only [Ps.comeL, List.length_append, List.length_cons]
    omega
theorem homeN_lt {P : List Nat} {x : Nat} (h : homeN P = some x) : x < 8 := by
  cases P with
  | nil => cases h
  | cons y P =>
    have h : (if y < 8 then some y else none) = some x := h
    by_cases h8 : y < 8
    · rw [if_pos h8] at h; cases h; exact h8
    · rw [if_neg h8] at h; cases h
theorem PkF.turn {w w' : World} {O : Nat → Prop} {A : Option Addr} {n c : Nat} {P : List Nat} (h : PkF w A n c P) (hT : TurnO O w w') (hn : ∀ b o q, A = some ⟨b, o, q⟩ → ¬ O b) : PkF w' A n c P :=
  ⟨h.len, h.nil, fun i x hx => by
    obtain ⟨l8, b, o, e, l, c⟩ := h.pk i x hx
    exact ⟨l8, b, o, e, Nat.lt_of_lt_of_le l hT.size, (World.cell?_of_block (a := ⟨b, _, none⟩) (hT.block b l (hn b o none e))).trans c⟩⟩
theorem owns_base {w : World} {B B' : Nat} {e : TypeId} {k : Nat} {v : Value} {n : Nat} {xs : List Value} (h : w.ownsRow B e k v n xs) (hB : B' ≤ B) : w.ownsRow B' e k v n xs := by
  refine ⟨h.1, ?_⟩
  rcases h.2 with h2 | ⟨g, cap, cur, h1, h2, h3⟩
  · exact .inl h2
  · exact .inr ⟨g, cap, cur, h1, by omega, h3⟩
theorem own_cell12 {w : World} {B : Nat} {A : Option Addr} {n c : Nat} {l : List Nat} (h : w.ownsRow B 3 1 (.slice A n c) n (intL l)) {k x : Nat} (hk : l[k]? = some x) (hn : l.length = n) :
    ∃ g, A = some ⟨g, 0, none⟩ ∧ B ≤ g ∧ g < w.heap.size ∧ w.cell? ⟨g, k, none⟩ = some (.int .i64 (x : Int)) := by
  have hlt : k < l.length := (List.getElem?_eq_some_iff.1 hk).1
  obtain ⟨A', c', e, h0, h1⟩ := own_form h
  cases e
  cases A with
  | none => have := (h0 rfl).1; omega
  | some ad =>
    obtain ⟨g, rfl, hg, hg2, -⟩ := h1 ad rfl
    have k1 := h.cells (g := g) rfl k (.int .i64 (x : Int)) (by unfold intL; rw [List.getElem?_map, hk]; rfl)
    rw [add_plain, Nat.zero_add] at k1
    exact ⟨g, rfl, hg, hg2, k1⟩
theorem come_none12 {w : World} {v : Value} (h : NoPo w v) (f : Value) : Calls Try.prog 19 #[v, f] w fun e w' => e = .returned (.tuple #[.slice none 0 0, .int .i64 1]) ∧ w = w' := by
  go_enter Try.func19, Try.ntmps19
  go_wp2_with (go_at_call 45; refine (there_no12 h).mono ?_; rintro e w' ⟨rfl, rfl⟩)
  go_ret2
  exact ⟨rfl, rfl⟩
section
variable {w : World} {O R : Nat → Prop} {p : Nat} {L : Lay12} {s : Ps}
theorem come_long12 (h : PoAt w O R p L s) (A : Option Addr) (n c : Nat) (hn : 64 < n) : Calls Try.prog 19 #[.pointer (some ⟨p, 0, none⟩), .slice A n c] w fun e w' => e = .returned (.tuple #[.slice none 0 0, .int .i64 3]) ∧ w = w' := by
  have HT := Lib.hid (there_yes12 h)
  have hn' : (64 : Int) < n := by omega
  clear h
  go_enter Try.func19, Try.ntmps19
  go_wp2_with (go_at_call 45; refine HT.out.mono ?_; rintro e w' ⟨rfl, rfl⟩)
  go_ret2
  exact ⟨rfl, rfl⟩
theorem come_home12 (h : PoAt w O R p L s) {A : Option Addr} {n c : Nat} {P : List Nat} (hp : PkF w A n c P) (hn : n ≤ 64) (hh : homeN P = none) : Calls Try.prog 19 #[.pointer (some ⟨p, 0, none⟩), .slice A n c] w fun e w' => e = .returned (.tuple #[.slice none 0 0, .int .i64 0]) ∧ w = w' := by
  have HT := Lib.hid (there_yes12 h)
  have HH := Lib.hid (home_any12 hp.pk (c := c) hp.len)
  have e : homeV P = .tuple #[.int .i64 0, .bool false] := by unfold homeV; rw [hh]
  rw [e] at HH
  have hn' : ¬ (64 : Int) < n := by omega
  clear h hp hh e
  go_enter Try.func19, Try.ntmps19
  go_wp2_with (first
    | (go_at_call 45; refine HT.out.mono ?_; rintro e w' ⟨rfl, rfl⟩)
    | (go_at_call 13; refine HH.out.mono ?_; rintro e w' ⟨rfl, rfl⟩))
  go_ret2
  exact ⟨rfl, rfl⟩
/-- Amid Come. -/
structure ComeAt (w : World) (O R : Nat → Prop) (p : Nat) (L : Lay12) (r : Ps × List (Nat × Bool)) (v : Value) (W : World) (R' : Nat → Prop) : Prop where
  row : W.ownsRow w.heap.size 53 2 v r.2.length (caL r.2)
  po : PoAt W O R' p L r.1
  r1 : ∀ k, R k → R' k
  r2 : ∀ k, R' k → R k ∨ w.heap.size ≤ k
  vb : ∀ k, v.ownBlock = some k → ¬ R' k
  tn : TurnO O w W
theorem ComeAt.step {W W' : World} {r : Ps × List (Nat × Bool)} {v : Value} {R' : Nat → Prop} (h : ComeAt w O R p L r v W R') (hb : Below W.heap.size W W') : ComeAt w O R p L r v W' R' :=
  ⟨owns_eq h.row (fun g hg => hb.block g (h.row.lt g hg).2), h.po.step hb, h.r1, h.r2, h.vb, h.tn.trans (TurnO.of_below hb) (fun _ hb => .inl hb)⟩
/-- One more is told. -/
theorem ComeAt.more {w W w2 w3 : World} {r : Ps × List (Nat × Bool)} {v : Value} {R' R2 : Nat → Prop} (h : ComeAt w O R p L r v W R') (hO : ∀ k, O k → k < w.heap.size) {s2 : Ps} (hp : PoAt w2 O R2 p L s2) (hT : TurnO O W w2) (hr : ∀ k, R' k → R2 k) (hr2 : ∀ k, R2 k → R' k ∨ W.heap.size ≤ k)
    {o : Obj} {x : Nat × Bool} {g cap : Nat} (hown : w3.ownsRow w.heap.size 53 2 (.slice (some ⟨g, 0, none⟩) (r.2.length + 1) cap) (r.2.length + 1) (caL r.2 ++ [.int .i64 (x.1 : Int), .bool x.2])) (hg : (w2.alloc o).grownBy w3 v.ownBlock) (hat : v.ownBlock = some g ∨ g = w2.heap.size + 1) :
    ComeAt w O R p L (s2, r.2 ++ [x]) (.slice (some ⟨g, 0, none⟩) (r.2.length + 1) cap) w3 R2 := by
  have hs := hg.size
  rw [World.size_alloc] at hs
  have hv2 : ∀ k, v.ownBlock = some k → k < W.heap.size ∧ w.heap.size ≤ k ∧ ¬ R2 k := fun k hk => by
    have h1 := h.row.lt k hk
    refine ⟨h1.2, h1.1, fun hr => ?_⟩
    rcases hr2 k hr with h2 | h2
    · exact h.vb k hk h2
    · omega
  have hvn : ∀ k, O k ∨ R2 k → v.ownBlock ≠ some k := fun k hk e => by
    obtain ⟨-, h2, h3⟩ := hv2 k e
    rcases hk with hk | hk
    · have := hO k hk; omega
    · exact h3 hk
  have blk : ∀ k, k < w2.heap.size → v.ownBlock ≠ some k → w3.heap[k]? = w2.heap[k]? := fun k hk hn => (hg.block k (by rw [World.size_alloc]; omega) (fun e => hn e.symm)).trans (Below.heap_alloc _ _ _ hk)
  refine ⟨?_, hp.keep (by omega) (fun k hk => blk k (hp.lt hk) (hvn k hk)), fun k hk => hr k (h.r1 k hk), fun k hk => ?_, fun k hk hr => ?_, ?_⟩
  · rw [List.length_append, caL_append]
    exact hown
  · rcases hr2 k hk with h2 | h2
    · exact h.r2 k h2
    · have := h.tn.size; exact .inr (by omega)
  · cases hk
    rcases hat with e | e
    · exact (hv2 _ e).2.2 hr
    · have := hp.lr _ hr; simp only at this; omega
  · have h23 : TurnO (fun k => O k ∨ v.ownBlock = some k) w2 w3 := ⟨hg.os, hg.tape, hg.output, by omega, fun k hk hn => blk k hk (fun e => hn (.inr e))⟩
    refine (h.tn.trans hT (fun b hb => .inl hb)).trans h23 (fun b hb => ?_)
    rcases hb with hb | hb
    · exact .inl hb
    · exact .inr (hv2 b hb).2.1
/-- What Come answers and leaves. -/
def ComeOut12 (w : World) (O R : Nat → Prop) (p : Nat) (L : Lay12) (r : Ps × List (Nat × Bool)) (e : Ending) (w' : World) : Prop :=
  ∃ v R', e = .returned (.tuple #[v, .int .i64 0]) ∧ w'.ownsRow w.heap.size 53 2 v r.2.length (caL r.2) ∧ PoAt w' O R' p L r.1 ∧ (∀ k, R k → R' k) ∧ (∀ k, R' k → R k ∨ w.heap.size ≤ k) ∧ (∀ k, v.ownBlock = some k → ¬ R' k) ∧ TurnO O w w'
set_option maxHeartbeats 8000000 in
set_option maxRecDepth 100000 in
theorem come_yes12 (h : PoAt w O R p L s) {A : Option Addr} {n c : Nat} {P : List Nat} (hp : PkF w A n c P) (hR : Rd R A ∨ ∀ b o q, A = some ⟨b, o, q⟩ → ¬ O b) (hn : n ≤ 64) {x : Nat} (hh : homeN P = some x) : Calls Try.prog 19 #[.pointer (some ⟨p, 0, none⟩), .slice A n c] w (ComeOut12 w O R p L (s.comeL (x : Int) P (s.openN (x : Int)))) := by
  have hx8 := homeN_lt hh
  have hwx : wf12 (x : Int) := wf12_of (by omega)
  have HWX := Lib.hid hwx
  have HT := Lib.hid (there_yes12 h)
  have HH := Lib.hid (home_any12 hp.pk (c := c) hp.len)
  have e : homeV P = .tuple #[.int .i64 (x : Int), .bool true] := by unfold homeV; rw [hh]
  rw [e] at HH
  have HO := Lib.hid (open_any12 h hwx)
  have HMEM := Lib.hid (show ∀ (j n : Nat), (s.openN (x : Int))[j]? = some n → n < 16 ∧ (s.c (x : Int) (n : Int)).isSome = true from fun j n hj => by
    obtain ⟨h1, h2⟩ := opens_mem (List.mem_of_getElem? hj)
    exact ⟨by have := h.ok.quota_le (x : Int); omega, h2⟩)
  have hl16 : (s.openN (x : Int)).length ≤ 16 := Nat.le_trans (opens_len _ _ _) (h.ok.quota_le _)
  generalize s.openN (x : Int) = l at *
  have H := Lib.hid h
  have HP := Lib.hid hp
  have HNO := Lib.hid (show ∀ b o q, A = some ⟨b, o, q⟩ → ¬ O b from hR.elim (fun hr b o q e => h.dis b (hr b o q e)) id)
  have hn' : ¬ (64 : Int) < n := by omega
  have hl16' : (l.length : Int) ≤ 16 := by omega
  clear h hp hh e hR hwx
  obtain ⟨i0, hi, hz0, hz1, hz2⟩ := info_parts Try.inCame
  go_enter Try.func19, Try.ntmps19
  go_wp2_with (first
    | (go_at_call 45; refine HT.out.mono ?_; rintro e w' ⟨rfl, rfl⟩)
    | (go_at_call 13; refine HH.out.mono ?_; rintro e w' ⟨rfl, rfl⟩)
    | (go_at_call 40; refine HO.out.mono ?_; rintro e w1 ⟨v, rfl, ho, hb⟩; obtain ⟨A1, c1, rfl, h01, h02⟩ := own_form ho; have HOW := Lib.hid ho; have HB := Lib.hid hb; have H02 := Lib.hid h02; clear ho hb h02))
  have HO0 := Lib.hid (fun k hk => Nat.lt_of_lt_of_le (H.out.lo k hk) HB.out.size)
  have HC0 := Lib.hid (show ComeAt w1 O R p L (s.comeL (x : Int) P (l.take 0)) (.slice none 0 0) w1 R from ⟨World.ownsRow_nil _ _ _ _, H.out.step HB.out, fun _ h => h, fun _ h => .inl h, fun k hk => (by cases hk), TurnO.refl _ _⟩)
  go_loopw [8, 31] (fun v i W => ∃ (k : Nat) (R' : Nat → Prop), k ≤ l.length ∧ i = .int .i64 (k : Int) ∧ ComeAt w1 O R p L (s.comeL (x : Int) P (l.take k)) v W R') (fun _ i _ => l.length - (intOf i).toNat)
  case atStart => exact ⟨0, R, Nat.zero_le _, rfl, HC0.out⟩
  case round =>
    obtain ⟨k, R', hk, rfl, hca⟩ := hrel
    have HCA := Lib.hid hca
    clear hca
    by_cases hlt : k < l.length
    · have hlt' : (k : Int) < (l.length : Int) := by omega
      have hk0 : (0 : Int) ≤ (k : Int) := by omega
      obtain ⟨nn, hnn⟩ : ∃ nn, l[k]? = some nn := ⟨_, List.getElem?_eq_getElem hlt⟩
      obtain ⟨hn16, hso⟩ := HMEM.out k nn hnn
      have HT1 := Lib.hid (show l.take (k + 1) = l.take k ++ [nn] by rw [List.take_add_one, hnn]; rfl)
      have HR := Lib.hid (comeL_snoc (x : Int) P nn (l.take k) s)
      rw [← HT1.out] at HR
      have hlen := (comeL_m (x : Int) P (l.take k) s).2.2.2.2
      rw [List.length_take] at hlen
      have hso' := ((comeL_m (x : Int) P (l.take k) s).2.2.1 (x : Int) (nn : Int)).trans hso
      obtain ⟨g1, rfl, hg1, hg2, hcell1⟩ := own_cell12 HOW.out hnn rfl
      have hcell := (World.cell?_of_block (a := ⟨g1, k, none⟩) (HCA.out.tn.block g1 hg2 (fun hO => by have := H.out.lo g1 hO; omega))).trans hcell1
      have hwn : wf12 (nn : Int) := wf12_of (by omega)
      obtain ⟨X, hX⟩ : ∃ X, (s.comeL (x : Int) P (l.take k)).1.c (x : Int) (nn : Int) = some X := Option.isSome_iff_exists.1 hso'
      have hc1 := HCA.out.po.c1
      have hlk := HCA.out.po.look_yes HWX.out hwn hX
      obtain ⟨FA, FC, V, hcl⟩ := HCA.out.po.cl _ _ _ hX
      have hc0 := hcl.c0
      have hP1 := Lib.hid ((HP.out.below HB.out).turn HCA.out.tn HNO.out)
      have hPL : P.length = n := HP.out.len
      have HMT := Lib.hid (match_any hcl.fl.ts X.fl.length FC rfl (by have := (HCA.out.po.ok.cl _ _ _ hX).may; unfold mayF at this; simp only [Bool.and_eq_true, decide_eq_true_eq] at this; omega) hP1.out.pk (pc := c) hPL (by omega))
      have HXX := Lib.hid hX
      cases hm : matchL X.fl P with
      | false =>
        rw [hm] at HMT
        have e1 : s.comeL (x : Int) P (l.take (k + 1)) = s.comeL (x : Int) P (l.take k) := by
          rw [HR.out]
          unfold Ps.come1
          rw [hX]
          dsimp only
          rw [hm]
          simp
        have HE1 := Lib.hid e1
        clear e1 hX hcl hm hwn hso hso' hnn hcell1 hPL
        generalize L.C (x : Int) (nn : Int) = cb at *
        go_wp2_with (go_at_call 53; refine HMT.out.mono ?_; rintro e w2 ⟨rfl, hb2⟩; have HB2 := Lib.hid hb2; clear hb2)
        go_roundw
        case rel => exact ⟨k + 1, R', hlt, by go_num, by rw [HE1.out]; exact HCA.out.step HB2.out⟩
        case measure => simp [intOf]; omega
      | true =>
        rw [hm] at HMT
        have e1 : s.comeL (x : Int) P (l.take (k + 1)) = ((s.comeL (x : Int) P (l.take k)).1.upd (x : Int) (nn : Int) (X.come P), (s.comeL (x : Int) P (l.take k)).2 ++ [(nn, decide (X.rg.length = 8))]) := by
          rw [HR.out]
          unfold Ps.come1
          rw [hX]
          dsimp only
          rw [hm, if_pos rfl]
        have HE1 := Lib.hid e1
        have HCO := Lib.hid (HCA.out.po.oc _ _ _ hX)
        have hxk := HCA.out.po.ok.cl _ _ _ hX
        have hPL64 : P.length ≤ 64 := by rw [hPL]; exact hn
        have HCK := Lib.hid (Cl.come_ok hxk hPL64)
        have HCM := Lib.hid (fun W (hb : Below wr.heap.size wr W) => come_any12 ((HCA.out.po.step hb).cl _ _ _ hX) hxk (fun k hk => ⟨(HCA.out.po.step hb).lr k hk, fun e => HCA.out.po.dis k hk (e ▸ HCO.out)⟩) (hP1.out.below hb) hn)
        have hlr : (s.comeL (x : Int) P (l.take k)).2.length ≤ 16 := by omega
        have HLR := Lib.hid hlr
        clear e1 hX hcl hm hwn hso hso' hnn hcell1 hPL hxk hPL64 hlr
        generalize hCb : L.C (x : Int) (nn : Int) = cb at hlk hc0 HCO HCM
        have HCb := Lib.hid hCb
        clear hCb
        generalize hbb : decide (X.rg.length = 8) = bb at HE1 HCM
        clear hbb
        go_wp2_with (first
          | (go_at_call 53; refine HMT.out.mono ?_; rintro e w2 ⟨rfl, hb2⟩; have HB2 := Lib.hid hb2; clear hb2)
          | (go_at_call 54; refine (HCM.out w2 HB2.out).mono ?_; rintro e w4 ⟨rfl, hci, ht4⟩
             have HT4 := Lib.hid (show TurnO O w2 w4 from ht4.wide12 (fun b e => e ▸ HCO.out))
             have HP4 := Lib.hid (show PoAt w4 O (RN R' w2 w4) p L _ from (HCA.out.po.step HB2.out).turn HXX.out (HCb.out ▸ hci) HCK.out (HCb.out ▸ ht4) (fun _ hk => .inl hk) (fun _ hk => hk))
             have HR4 := Lib.hid (show w4.ownsRow w1.heap.size 53 2 u8 (s.comeL (x : Int) P (l.take k)).2.length (caL (s.comeL (x : Int) P (l.take k)).2) from owns_eq HCA.out.row (fun g hg => (HT4.out.block g (Nat.lt_of_lt_of_le (HCA.out.row.lt g hg).2 HB2.out.size) (fun hO => by have := HO0.out g hO; have := (HCA.out.row.lt g hg).1; omega)).trans (HB2.out.block g (HCA.out.row.lt g hg).2)))
             clear hci ht4)
          | (at_builtin; refine wpList_append_lies _ rfl _ _ 49 rfl w1.heap.size 53 i0 (.agg #[.int .i64 0, .bool false]) 2 16 Try.underlying49 hi hz0 hz1 hz2 rfl (by decide) _ _ _ rfl (HR4.out.alloc _) ⟨w4.heap.size, 0, none⟩ 1 1 [.int .i64 (nn : Int), .bool bb] rfl rfl (cells_new w4 [.int .i64 (nn : Int), .bool bb] 53) (by simp; exact ⟨rfl, rfl⟩) (by decide) (by have := HLR.out; unfold maxLen; omega) (by have := HLR.out; omega) (by have := HCA.out.tn.size; have := HB2.out.size; have := HT4.out.size; rw [World.size_alloc]; omega) (w4.heap.size + 1) (by rw [World.size_alloc]) ?_
             intro g cap w5 hown hgrow hat hgl
             have HC5 := Lib.hid (HCA.out.more (x := (nn, bb)) HO0.out HP4.out ((TurnO.of_below HB2.out).trans HT4.out (fun _ hb => .inl hb)) (fun _ hk => .inl hk) (fun b hk => hk.elim .inl (fun h => .inr (Nat.le_trans HB2.out.size h.1))) hown hgrow hat)
             clear hown hgrow hat hgl))
        all_goals
          go_roundw
          case rel => exact ⟨k + 1, _, hlt, by go_num, by rw [HE1.out]; exact HC5.out⟩
          case measure => simp [intOf]; omega
    · have hlt' : ¬ (k : Int) < (l.length : Int) := by omega
      obtain rfl : k = l.length := by omega
      rw [List.take_length] at HCA
      go_wp2_with fail
      go_ret2
      exact ⟨_, R', rfl, owns_base HCA.out.row HB.out.size, HCA.out.po, HCA.out.r1, fun k hk => (HCA.out.r2 k hk).imp id (fun h => Nat.le_trans HB.out.size h), HCA.out.vb, (TurnO.of_below HB.out).trans HCA.out.tn (fun _ hb => .inl hb)⟩
end
end Go.Proofs.Ytakpankipagndaa
