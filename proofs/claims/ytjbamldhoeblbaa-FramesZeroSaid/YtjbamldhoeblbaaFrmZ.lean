/- FramesZero: the walk. -/
import Derived.Test.YtjbamldhoeblbaaFrmOpen
namespace Go.Proofs.Ytjbamldhoeblbaa
open Go.RowKit Go.Shelf

/-- What is free is zero. -/
def ZInv (s : St) : Prop := ∀ i, i < s.n → s.hold i = 0 → ∀ j, s.byt i j = 0
theorem z_fresh (n : Nat) (L : List Int) : ZInv (fresh n L) := fun _ _ _ _ => rfl
theorem z_withHold {s : St} (h : ZInv s) (f : Nat) (x : Int) (hf : f < s.n) (hx : 0 < x) : ZInv (s.withHold f x) := fun i hi hz j => by
  rw [n_withHold] at hi
  rw [hold_withHold _ _ _ hf] at hz
  split at hz
  · omega
  · exact h i hi hz j
theorem z_freed {s : St} (h : ZInv s) (f : Nat) (hf : f < s.n) : ZInv (s.freed f) := fun i hi hz j => by
  rw [n_freed] at hi
  rw [hold_freed _ _ hf] at hz
  show (if i = f then 0 else s.byt i j) = 0
  split
  · rfl
  · rename_i e; rw [if_neg e] at hz; exact h i hi hz j
theorem z_granted {s : St} (h : ZInv s) (f : Nat) (a : Int) (hf : f < s.n) : ZInv (s.granted f a) := fun i hi hz j => by
  rw [n_granted] at hi
  rw [hold_granted _ _ _ hf] at hz
  split at hz
  · cases hz
  · exact h i hi hz j
theorem z_putAt {s : St} (h : ZInv s) (f o : Nat) (b : List Int) (hh : 0 < s.hold f) : ZInv (s.putAt f o b) := fun i hi hz j => by
  have hz' : s.hold i = 0 := hz
  show (if i = f ∧ o ≤ j ∧ j < o + b.length then b.getD (j - o) 0 else s.byt i j) = 0
  rw [if_neg (fun x => by rw [x.1] at hz'; omega)]
  exact h i hi hz' j
theorem next_putAt (s : St) (f o : Nat) (b : List Int) (hb : ∀ x ∈ b, 0 ≤ x ∧ x < 256) : Next s (s.putAt f o b) :=
  next_less (fun h => ok_putAt h f o b hb) rfl rfl (fun _ _ hp => ⟨hp, rfl⟩)

structure NextZ (s s' : St) : Prop where
  next : Next s s'
  z : ZInv s → ZInv s'
def StepOutZ (p F Q c : Nat) (s : St) (w : World) (e : Ending) (w' : World) : Prop := ∃ v s', e = .returned v ∧ PoolAt w' p F Q c s' ∧ w.grownBy w' (some F) ∧ NextZ s s'
theorem drop_nextZ {w : World} {p F Q c : Nat} {s : St} (h : PoolAt w p F Q c s) (f : Int) : Calls Try.prog 19 #[.pointer (some ⟨p, 0, none⟩), .int .i64 f] w (StepOutZ p F Q c s w) := by
  rcases gone_or h.ok f with hg | ⟨k, rfl, hk, hp⟩
  · exact (drop_gone h f hg).mono fun e w' ⟨he, hw⟩ => by subst hw; exact ⟨_, s, he, h, grown_refl _ _, Next.refl s, id⟩
  · have h1 := h.ok.h1 k
    by_cases hm : s.hold k = 1
    · exact (drop_last h k hk hm).mono fun e w' ⟨he, hp', hg⟩ => ⟨_, _, he, hp', hg, next_freed s k hk, fun hz => z_freed hz k hk⟩
    · exact (drop_more h k hk (by omega)).mono fun e w' ⟨he, hp', hg⟩ => ⟨_, _, he, hp', hg, next_withHold s k hk hp _ (by omega) (by omega), fun hz => z_withHold hz k _ hk (by omega)⟩
def PairOut (w : World) (e : Ending) (w' : World) : Prop := ∃ v x, e = .returned (.tuple #[v, .int .i64 x]) ∧ Below w.heap.size w w'
theorem page_any {w : World} {p F Q c : Nat} {s : St} (h : PoolAt w p F Q c s) (f : Int) : Calls Try.prog 23 #[.pointer (some ⟨p, 0, none⟩), .int .i64 f] w (PairOut w) := by
  rcases gone_or h.ok f with hg | ⟨k, rfl, hk, hp⟩
  · exact (page_gone h f hg).mono fun e w' ⟨he, hw⟩ => by subst hw; exact ⟨_, _, he, Below.refl _ _⟩
  · exact (page_yes h k hk hp).mono fun e w' ⟨v, he, _, hb⟩ => ⟨_, _, he, hb⟩
/-- A page that is all zero. -/
def PageZ (w : World) (e : Ending) (w' : World) : Prop := ∃ g cap, e = .returned (.tuple #[.slice (some ⟨g, 0, none⟩) 256 cap, .int .i64 0]) ∧ (∀ j, j < 256 → w'.cell? ⟨g, j, none⟩ = some (.int .u8 0)) ∧ Below w.heap.size w w'
theorem page_zero {w : World} {p F Q c : Nat} {s : St} (h : PoolAt w p F Q c s) (f : Nat) (f' : Int) (ef : (f : Int) = f') (hf : f < s.n) (hh : 0 < s.hold f) (hz : ∀ j, s.byt f j = 0) : Calls Try.prog 23 #[.pointer (some ⟨p, 0, none⟩), .int .i64 f'] w (PageZ w) := by
  subst ef
  refine (page_yes h f hf hh).mono fun e w' ⟨v, he, ho, hb⟩ => ?_
  obtain ⟨hl, ⟨-, h0⟩ | ⟨g, cap, cur, rfl, hg, hw, -, -, -, hx⟩⟩ := ho
  · omega
  · refine ⟨g, cap, he, fun j hj => ?_, hb⟩
    rw [cell_of_row _ _ _ _ _ _ hw, ← Array.getElem?_toList]
    have e := page_get s f j hj
    rw [← hx, hz j, List.getElem?_take, if_pos (by omega)] at e
    exact e
set_option maxHeartbeats 1000000 in
theorem zero_yes {w : World} (g cap : Nat) (hc : ∀ j, j < 256 → w.cell? ⟨g, j, none⟩ = some (.int .u8 0)) : Calls Try.prog 24 #[.slice (some ⟨g, 0, none⟩) 256 cap] w fun e w' => e = .returned (.bool true) ∧ w = w' := by
  have HC := Lib.hid hc
  clear hc
  go_enter Try.func24, Try.ntmps24
  go_wp2
  go_loop [3] (fun i => ∃ k : Nat, k ≤ 256 ∧ i = .int .i64 k) (fun i => 256 - (intOf i).toNat)
  case atStart => exact ⟨0, Nat.zero_le _, rfl⟩
  case round =>
    obtain ⟨k, hk, rfl⟩ := hrel
    by_cases hlt : k < 256
    · have hki : (k : Int) < 256 := by omega
      have hcell := HC.out k hlt
      go_wp2
      go_round
      case rel => exact ⟨k + 1, by omega, by go_num⟩
      case measure => simp [intOf]; omega
    · have hge : ¬ (k : Int) < 256 := by omega
      go_wp2
      go_ret
      exact ⟨rfl, rfl⟩

theorem ok_n_n {n : Int} (h1 : 1 ≤ n) (h2 : n ≤ 256) : NewOk n [n] := ⟨h1, h2, Nat.le_refl 1, by simp, fun k hk => by
  match k, hk with
  | 0, _ =>
    unfold badAt
    show ¬ (n < 0 ∨ n - 0 < n)
    omega⟩
theorem not_n_n {n : Int} (h : ¬ (1 ≤ n ∧ n ≤ 256)) : ¬ NewOk n [n] := fun x => h ⟨x.n1, x.n2⟩

set_option maxRecDepth 100000 in
theorem zero_no (n : Int) (v : Value) (w : World) (h : ¬ (1 ≤ n ∧ n ≤ 256)) : Calls Try.prog 5 #[.int .i64 n, v] w fun e w' => e = .returned (.bool true) ∧ Below w.heap.size w w' := by
  go_enter Try.func5, Try.ntmps5
  go_wp2_with (first
    | (refine (new_no_at n _ 1 1 [n] rfl (ints_at _ _ 3 [n] (heap_alloc_new w _)) (by decide) (not_n_n h)).mono ?_; rintro e w' ⟨rfl, rfl⟩)
    | (refine (known_any _).mono ?_; rintro e w1 ⟨rfl, hb⟩))
  go_ret
  exact ⟨rfl, ((Below.refl _ w).alloc (Nat.le_refl _) _).trans (hb.mono (by simp))⟩

set_option maxRecDepth 100000 in
theorem zero_long (n : Nat) (A : Option Addr) (m c : Nat) (w : World) (h1 : 1 ≤ n) (h2 : n ≤ 256) (hm : (m : Int) ≤ 9223372036854775807) (h : 60 < m) : Calls Try.prog 5 #[.int .i64 n, .slice A m c] w fun e w' => e = .returned (.bool true) ∧ Below w.heap.size w w' := by
  have h60 : (60 : Int) < m := by omega
  go_enter Try.func5, Try.ntmps5
  go_wp2_with fail
  refine (new_yes_at n _ 1 1 [(n : Int)] rfl (ints_at _ _ 3 [(n : Int)] (heap_alloc_new w _)) (ok_n_n (by omega) (by omega))).mono ?_
  rintro e w1 ⟨p, F, Q, cq, rfl, hp, hb, hF, -, -⟩
  have O := Lib.hid (PoolOwn.of_new (w0 := w) ((Below.refl _ w).alloc (Nat.le_refl _) _) (s := fresh n [(n : Int)]) hp hb hF)
  clear hp hb hF
  go_wp2_with (refine (known_any _).mono ?_; rintro e w4 ⟨rfl, hb4⟩; have O4 := Lib.hid (O.out.step hb4); clear hb4)
  go_ret
  exact ⟨rfl, O4.out.below⟩

/-- What stands at a round's head. -/
def ZRel (w : World) (p F Q c : Nat) (n m g : Nat) (i : Value) (W : World) : Prop :=
  ∃ k : Nat, k ≤ m ∧ g = m - k ∧ i = .int .i64 k ∧ ∃ s, PoolOwn w W p F Q c s ∧ Inv s ∧ ZInv s ∧ s.quo = [(n : Int)] ∧ s.n = n
/-- What stands at the head of a round that looks at what was put. -/
def ZIn (w : World) (p F Q c : Nat) (s : St) (H : Nat) (v0 v1 v2 v3 : Value) (l g : Nat) (i : Value) (W : World) : Prop :=
  ∃ j : Nat, j ≤ l ∧ g = l - j ∧ i = .int .i64 j ∧ PoolOwn w W p F Q c s ∧ W.heap[H]? = some (.cells #[v0, v1, v2, v3] 34 (0, 0))
theorem quota_n {s : St} {n : Nat} (h : s.quo = [(n : Int)]) : s.quota 0 = n ∧ s.k = 1 := by unfold St.quota St.k; rw [h]; exact ⟨rfl, rfl⟩
theorem BytesOf.below {w W : World} {A : Option Addr} {L : List Int} (h : BytesOf w A L) (hb : Below w.heap.size w W) : BytesOf W A L := fun h0 => by
  obtain ⟨ad, e, hc⟩ := h h0
  exact ⟨ad, e, fun j x hx => by rw [hb.cell (World.block_lt_of_cell? w _ (hc j x hx))]; exact hc j x hx⟩
theorem grown_block {W W1 : World} {F b : Nat} {o : Obj} (hg : W.grownBy W1 (some F)) (hne : b ≠ F) (h : W.heap[b]? = some o) : W1.heap[b]? = some o :=
  (hg.block b (Array.getElem?_eq_some_iff.1 h).1 (fun e => hne (Option.some.inj e))).trans h
theorem four_of {w : World} {B : Nat} {x y z u : Value} {t : TypeId} (h : w.heap[B]? = some (.cells #[x, y, z, u] t (0, 0))) :
    w.cell? ⟨B, 0, none⟩ = some x ∧ w.cell? ⟨B, 1, none⟩ = some y ∧ w.cell? ⟨B, 2, none⟩ = some z ∧ w.cell? ⟨B, 3, none⟩ = some u :=
  ⟨by rw [cell_of_row _ _ _ _ _ _ h]; rfl, by rw [cell_of_row _ _ _ _ _ _ h]; rfl, by rw [cell_of_row _ _ _ _ _ _ h]; rfl, by rw [cell_of_row _ _ _ _ _ _ h]; rfl⟩
theorem put_byt (s : St) (f o : Nat) (L : List Int) (j : Nat) (x : Int) (hx : L[j]? = some x) : (s.putAt f o L).byt f (o + j) = x := by
  have hj : j < L.length := (List.getElem?_eq_some_iff.1 hx).1
  show (if f = f ∧ o ≤ o + j ∧ o + j < o + L.length then L.getD (o + j - o) 0 else s.byt f (o + j)) = x
  rw [if_pos ⟨rfl, by omega, by omega⟩, show o + j - o = j by omega, List.getD_eq_getElem?_getD, hx]; rfl

set_option maxRecDepth 100000 in
set_option maxHeartbeats 4000000 in
theorem zero_in (n : Nat) (B : Option Addr) (m c2 : Nat) (R : Nat → StepR) (w : World) (h1 : 1 ≤ n) (h2 : n ≤ 256) (hm : m ≤ 60) (hB : StepsOf w B m (fun i => (R i).kd) (fun i => (R i).nn) (fun i => (R i).mm) (fun i => (R i).da) (fun i => (R i).dn) (fun i => (R i).dc)) (hR : ∀ i, i < m → (R i).fits w) :
    Calls Try.prog 5 #[.int .i64 n, .slice B m c2] w fun e w' => e = .returned (.bool true) ∧ Below w.heap.size w w' := by
  have h60 : ¬ (60 : Int) < m := by omega
  have HB := Lib.hid hB
  have HR := Lib.hid hR
  clear hB hR
  go_enter Try.func5, Try.ntmps5
  go_wp2_with fail
  refine (new_yes_at n _ 1 1 [(n : Int)] rfl (ints_at _ _ 3 [(n : Int)] (heap_alloc_new w _)) (ok_n_n (by omega) (by omega))).mono ?_
  rintro e w1 ⟨p, F, Q, cq, rfl, hp, hb, hF, -, -⟩
  have O := Lib.hid (PoolOwn.of_new (w0 := w) ((Below.refl _ w).alloc (Nat.le_refl _) _) (s := fresh n [(n : Int)]) hp hb hF)
  clear hp hb hF
  go_wp2
  go_loopg [7] m (fun g i W => ZRel w p F Q cq n m g i W)
  case atStart => exact ⟨0, Nat.zero_le _, rfl, rfl, _, O.out, inv_fresh (ok_n_n (by omega) (by omega)), z_fresh n [(n : Int)], rfl, fresh_n n [(n : Int)]⟩
  case round =>
    obtain ⟨k, hk1, rfl, rfl, s, hO, hI, hZ, hq, hn⟩ := hrel
    have O := Lib.hid hO
    have I := Lib.hid hI
    have Z := Lib.hid hZ
    have HQ := Lib.hid hq
    have HNn := Lib.hid hn
    clear hO hI hZ hq hn
    by_cases hlt : k < m
    · have hkm : (k : Int) < m := by omega
      obtain ⟨b, o, rfl, hc⟩ := HB.out (by omega)
      have c0 := (O.out.below.cell (p := ⟨b, o + k * 4 + 0, none⟩) (World.block_lt_of_cell? w _ (hc k (by omega) 0 (by omega)))).trans (hc k (by omega) 0 (by omega))
      have c1 := (O.out.below.cell (p := ⟨b, o + k * 4 + 1, none⟩) (World.block_lt_of_cell? w _ (hc k (by omega) 1 (by omega)))).trans (hc k (by omega) 1 (by omega))
      have c2' := (O.out.below.cell (p := ⟨b, o + k * 4 + 2, none⟩) (World.block_lt_of_cell? w _ (hc k (by omega) 2 (by omega)))).trans (hc k (by omega) 2 (by omega))
      have c3 := (O.out.below.cell (p := ⟨b, o + k * 4 + 3, none⟩) (World.block_lt_of_cell? w _ (hc k (by omega) 3 (by omega)))).trans (hc k (by omega) 3 (by omega))
      have hfit := HR.out k hlt
      have HK := Lib.hid hlt
      simp only [stepV, List.getElem?_cons_zero, List.getElem?_cons_succ, Nat.add_zero] at c0 c1 c2' c3
      clear hc hlt
      generalize R k = D at c0 c1 c2' c3 hfit
      obtain ⟨kd, nn, mm, da, dn, dc, dl⟩ := D
      obtain ⟨hdl, hdb, hdr, hdn⟩ := hfit
      have HFB := Lib.hid hdb
      have HFL := Lib.hid hdl
      have HFR := Lib.hid hdr
      dsimp only at c0 c1 c2' c3 HFB HFL HFR hdn
      clear hdl hdb hdr
      have hFw := O.out.pool.lt
      have OX := fun o => Lib.hid (O.out.step ((Below.refl _ wr).alloc (Nat.le_refl _) o))
      by_cases q1 : kd = 1
      · have b1 : (kd == 1) = true := by simpa using q1
        clear q1
        by_cases hf : (s.used ((0 : Nat) : Int) : Int) < s.quota 0
        · have hk0 : 0 < s.k := by rw [(quota_n HQ.out).2]; omega
          have HF := Lib.hid hf
          clear hf
          go_wp2_with (first
            | (go_at_call 17; refine (grant_next_lit (OX _).out.pool I.out 0 0 rfl hk0 HF.out).mono ?_; rintro e w4 ⟨mz, rfl, hmn, hmz, hp, hg, hn⟩; have O4 := Lib.hid ((OX _).out.next hp hg); have N4 := Lib.hid hn; have HM := Lib.hid (And.intro hmn hmz); clear hp hg hn hmn hmz)
            | (go_at_call 23; refine (page_zero O4.out.pool mz mz rfl (by rw [n_granted]; exact HM.out.1) (by rw [hold_granted _ _ _ HM.out.1, if_pos rfl]; decide) (fun j => Z.out mz HM.out.1 HM.out.2 j)).mono ?_; rintro e w5 ⟨g, cap, rfl, hgz, hb5⟩; have O5 := Lib.hid (O4.out.step hb5); have HGZ := Lib.hid hgz; clear hgz hb5)
            | (go_at_call 24; refine (zero_yes g cap HGZ.out).mono ?_; rintro e w' ⟨rfl, rfl⟩))
          go_roundg (m - (k + 1))
          case measure => have := HK.out; omega
          case rel => exact ⟨k + 1, HK.out, rfl, by go_num, _, O5.out, N4.out.inv I.out, z_granted Z.out mz 0 HM.out.1, N4.out.quo.trans HQ.out, N4.out.n.trans HNn.out⟩
        · have hk0 : 0 < s.k := by rw [(quota_n HQ.out).2]; omega
          have HF := Lib.hid (show s.quota 0 ≤ (s.used ((0 : Nat) : Int) : Int) by omega)
          clear hf
          go_wp2_with (first
            | (go_at_call 17; refine (grant_full_lit (OX _).out.pool 0 0 rfl hk0 HF.out).mono ?_; rintro e w4 ⟨rfl, hb4⟩; have O4 := Lib.hid ((OX _).out.step hb4); clear hb4)
            | (go_at_call 23; refine (page_any O4.out.pool 0).mono ?_; rintro e w5 ⟨v5, x5, rfl, hb5⟩; have O5 := Lib.hid (O4.out.step hb5); clear hb5))
          go_roundg (m - (k + 1))
          case measure => have := HK.out; omega
          case rel => exact ⟨k + 1, HK.out, rfl, by go_num, s, O5.out, I.out, Z.out, HQ.out, HNn.out⟩
      · have b1 : (kd == 1) = false := by simpa using q1
        clear q1
        by_cases q3 : kd = 3
        · have b3 : (kd == 3) = true := by simpa using q3
          clear q3
          go_wp2_with (go_at_call 19; refine (drop_nextZ (OX _).out.pool nn).mono ?_; rintro e w4 ⟨v, s4, rfl, hp, hg, hn⟩; have O4 := Lib.hid ((OX _).out.next hp hg); have N4 := Lib.hid hn; clear hp hg hn)
          go_roundg (m - (k + 1))
          case measure => have := HK.out; omega
          case rel => exact ⟨k + 1, HK.out, rfl, by go_num, s4, O4.out, N4.out.next.inv I.out, N4.out.z Z.out, N4.out.next.quo.trans HQ.out, N4.out.next.n.trans HNn.out⟩
        · have b3 : (kd == 3) = false := by simpa using q3
          clear q3
          by_cases q5 : kd = 5
          · have b5 : (kd == 5) = true := by simpa using q5
            clear q5
            by_cases hr : noRoom mm dn
            · have HRM := Lib.hid hr
              clear hr
              go_wp2_with (go_at_call 25; refine (put_arg (OX _).out.pool nn mm da dn dc hdn HRM.out).mono ?_; rintro e w' ⟨rfl, rfl⟩)
              go_roundg (m - (k + 1))
              case measure => have := HK.out; omega
              case rel => exact ⟨k + 1, HK.out, rfl, by go_num, s, (OX _).out, I.out, Z.out, HQ.out, HNn.out⟩
            · have hm0 : 0 ≤ mm := by unfold noRoom at hr; omega
              have hm1 : mm < 256 := by unfold noRoom at hr; omega
              have hm2 : (dn : Int) ≤ 256 - mm := by unfold noRoom at hr; omega
              clear hr
              rcases gone_or I.out.ok nn with hgn | ⟨f, rfl, hfn, hfp⟩
              · have HG := Lib.hid hgn
                clear hgn
                go_wp2_with (go_at_call 25; refine (put_gone (OX _).out.pool nn HG.out mm da dn dc hm0 hm1 hm2).mono ?_; rintro e w' ⟨rfl, rfl⟩)
                go_roundg (m - (k + 1))
                case measure => have := HK.out; omega
                case rel => exact ⟨k + 1, HK.out, rfl, by go_num, s, (OX _).out, I.out, Z.out, HQ.out, HNn.out⟩
              · obtain ⟨o2, rfl⟩ : ∃ o2 : Nat, (o2 : Int) = mm := ⟨mm.toNat, by omega⟩
                have HO2 := Lib.hid (show o2 < 256 by omega)
                have HO3 := Lib.hid (show dn ≤ 256 - o2 by omega)
                have HFP := Lib.hid hfp
                have HFN := Lib.hid hfn
                have HBB := fun W (hb : Below w.heap.size w W) => Lib.hid (HFB.out.below hb)
                obtain ⟨wo, rfl⟩ : ∃ wo : World, wo = wr := ⟨_, rfl⟩
                have HSB := Lib.hid (heap_alloc_new wo (.cells #[.int .i64 kd, .int .i64 f, .int .i64 o2, .slice da dn dc] 34))
                clear hm0 hm1 hm2 hfp hfn
                go_wp2_with (go_at_call 25; refine (put_lit (OX _).out.pool f o2 dn dc f o2 rfl rfl HFN.out HFP.out da dl HFL.out HO2.out HO3.out (HBB _ (OX _).out.below).out HFR.out).mono ?_; rintro e w4 ⟨rfl, hp, hg⟩; have O4 := Lib.hid ((OX _).out.next hp hg); have S4 := Lib.hid (grown_block hg (by omega) HSB.out); clear hp hg)
                clear c0 c1 c2' c3 hFw
                go_loopg [13] dn (fun g i W => ZIn w p F Q cq (s.putAt f o2 dl) wo.heap.size (.int .i64 kd) (.int .i64 f) (.int .i64 o2) (.slice da dn dc) dn g i W)
                case atStart => exact ⟨0, Nat.zero_le _, rfl, rfl, O4.out, S4.out⟩
                case round =>
                  obtain ⟨j, hj1, rfl, rfl, hO5, hS5⟩ := hrel
                  have O5 := Lib.hid hO5
                  have S5 := Lib.hid hS5
                  obtain ⟨s0, s1, s2, s3⟩ := four_of hS5
                  clear hO5 hS5
                  by_cases hj : j < dn
                  · obtain ⟨x, hx⟩ : ∃ x, dl[j]? = some x := ⟨_, List.getElem?_eq_getElem (by rw [HFL.out]; exact hj)⟩
                    obtain ⟨ad, hda, hcl⟩ := HFB.out (by rw [HFL.out]; omega)
                    have hx0 := hcl j x hx
                    obtain ⟨x', hx'⟩ : ∃ x, dl[0]? = some x := ⟨_, List.getElem?_eq_getElem (by rw [HFL.out]; omega)⟩
                    have hx1 := hcl 0 x' hx'
                    rw [Addr.add, if_pos rfl] at hx1
                    obtain ⟨b2, o3, rfl⟩ := spot_none hx1
                    rw [Addr.add_lit] at hx0
                    have hxc := one_below O5.out.below hx0
                    rw [hda] at s3
                    have HJ := Lib.hid hj
                    have HB5 := Lib.hid (put_byt s f o2 dl j x hx)
                    have HOJ := Lib.hid (show o2 + j < 256 by have := HO2.out; have := HO3.out; omega)
                    have hjd : (j : Int) < dn := by omega
                    have hob : (o2 : Int) + j < 256 := by have := HOJ.out; omega
                    clear hx hda hcl hx0 hx' hx1
                    go_wp2_with (go_at_call 26; refine (byte_lit O5.out.pool f (o2 + j) f ((o2 : Int) + j) x rfl (by push_cast; rfl) HFN.out HFP.out HOJ.out HB5.out).mono ?_; rintro e w' ⟨rfl, rfl⟩)
                    go_roundg (dn - (j + 1))
                    case measure => have := HJ.out; omega
                    case rel => exact ⟨j + 1, HJ.out, rfl, by go_num, O5.out, S5.out⟩
                  · have hd1 : decide (j < dn) = false := by simp; omega
                    have hd3 : ¬ (j < dn) := hj
                    clear hj
                    go_wp2
                    go_roundg (m - (k + 1))
                    case measure => have := HK.out; omega
                    case rel => exact ⟨k + 1, HK.out, rfl, by go_num, _, O5.out, (next_putAt s f o2 dl HFR.out).inv I.out, z_putAt Z.out f o2 dl HFP.out, HQ.out, HNn.out⟩
          · have b5 : (kd == 5) = false := by simpa using q5
            clear q5
            go_wp2
            go_roundg (m - (k + 1))
            case measure => have := HK.out; omega
            case rel => exact ⟨k + 1, HK.out, rfl, by go_num, s, (OX _).out, I.out, Z.out, HQ.out, HNn.out⟩
    · have hd1 : decide (k < m) = false := by simp; omega
      have hd3 : ¬ (k < m) := hlt
      clear hlt
      go_wp2_with (refine (known_any _).mono ?_; rintro e w4 ⟨rfl, hb4⟩; have O4 := Lib.hid (O.out.step hb4); clear hb4)
      go_ret
      exact ⟨rfl, O4.out.below⟩

theorem zero_law (n : Int) (B : Option Addr) (m c2 : Nat) (R : Nat → StepR) (w : World) (hB : StepsOf w B m (fun i => (R i).kd) (fun i => (R i).nn) (fun i => (R i).mm) (fun i => (R i).da) (fun i => (R i).dn) (fun i => (R i).dc)) (hm : (m : Int) ≤ 9223372036854775807) (hR : ∀ i, i < m → (R i).fits w) :
    Calls Try.prog 5 #[.int .i64 n, .slice B m c2] w fun e w' => e = .returned (.bool true) ∧ Below w.heap.size w w' := by
  by_cases h : 1 ≤ n ∧ n ≤ 256
  · obtain ⟨k, rfl⟩ : ∃ k : Nat, (k : Int) = n := ⟨n.toNat, by omega⟩
    by_cases hl : 60 < m
    · exact zero_long k B m c2 w (by omega) (by omega) hm hl
    · exact zero_in k B m c2 R w (by omega) (by omega) (by omega) hB hR
  · exact zero_no n _ w h

end Go.Proofs.Ytjbamldhoeblbaa
