/- begin. -/
import Derived.Test.YtakpankipagndaaPoQ
import Derived.Deep.LoopGhost
import Derived.Deep.AppendLies
namespace Go.Proofs.Ytakpankipagndaa
open Go.RowKit (wrap64)
open Go.RowKit
open Go.Maps (Keyed)
attribute [local go_sem] Oper.semAt_some

theorem IntsAt.news {w : World} {A : Option Addr} {qs : List Int} (h : IntsAt w A qs) : ∀ ad, A = some ad → ∀ j u, (qs.map (Value.int .i64))[j]? = some u → w.cell? (ad.add j) = some u := fun ad e j u hu => by
  rw [List.getElem?_map] at hu
  obtain ⟨x, hx, rfl⟩ := Option.map_eq_some_iff.1 hu
  obtain ⟨g, o, e2, -, hc⟩ := h j x hx
  rw [e] at e2
  cases e2
  rw [add_plain]
  exact hc
theorem one_add12 (W : World) (g : Nat) (v : Value) (t : TypeId) (h : W.heap[g]? = some (.cells #[v] t (0, 0))) : ∀ j u, [v][j]? = some u → W.cell? ((⟨g, 0, none⟩ : Addr).add j) = some u := fun j u hj => by
  rw [add_plain, Nat.zero_add, cell_of_row _ _ _ _ _ _ h]
  simpa using hj
/-- The copy of the quotas, as it is overwritten. -/
structure OwnQ12 (W : World) (g n : Nat) (qs : List Int) (k : Nat) : Prop where
  row : ∃ cs, W.heap[g]? = some (.cells cs 3 (0, 0)) ∧ n ≤ cs.size ∧ ∀ (j : Nat) (q : Int), k ≤ j → qs[j]? = some q → cs[j]? = some (.int .i64 q)
theorem OwnQ12.set {W : World} {g n : Nat} {qs : List Int} {k : Nat} (h : OwnQ12 W g n qs k) (v : Value) : OwnQ12 (W.setCell ⟨g, k, none⟩ v) g n qs (k + 1) := by
  obtain ⟨cs, h1, h2, h3⟩ := h.row
  refine ⟨_, heap_setCell_same W g k _ _ v h1, by simpa using h2, fun j q hj hq => ?_⟩
  rw [Array.getElem?_setIfInBounds, if_neg (by show ¬ k = j; omega)]
  exact h3 j q (by omega) hq
theorem OwnQ12.drewn {W : World} {g n : Nat} {qs : List Int} {k m : Nat} (h : OwnQ12 W g n qs k) : OwnQ12 (W.drewN m) g n qs k := ⟨h.row⟩
theorem OwnQ12.of {W : World} {B g cap n : Nat} {qs : List Int} {tl : List Value} {k : Nat} (h : W.ownsRow B 3 1 (.slice (some ⟨g, 0, none⟩) k cap) k (qs.map (Value.int .i64) ++ tl)) (hn : qs.length = n) : OwnQ12 W g n qs 0 := by
  have hc := h.cells (g := g) rfl
  rcases h.2 with ⟨e, -⟩ | ⟨g', cap', cur, e, -, h2, h3, h4, h5, h6⟩
  · cases e
  · cases e
    have hl : k = n + tl.length := by have := h.1; rw [List.length_append, List.length_map] at this; omega
    refine ⟨cur, h2, by omega, fun j q _ hq => ?_⟩
    have hj := (List.getElem?_eq_some_iff.1 hq).1
    have := hc j (.int .i64 q) (by rw [List.getElem?_append_left (by simp; omega), List.getElem?_map, hq]; rfl)
    rw [add_plain, cell_of_row _ _ _ _ _ _ h2, Nat.zero_add] at this
    exact this
theorem OwnQ12.at {W : World} {g n : Nat} {qs : List Int} (h : OwnQ12 W g n qs 0) : IntsAt W (some ⟨g, 0, none⟩) qs := fun i x hx => by
  obtain ⟨cs, h1, h2, h3⟩ := h.row
  exact ⟨g, 0, rfl, (Array.getElem?_eq_some_iff.1 h1).1, by rw [cell_of_row _ _ _ _ _ _ h1, Nat.zero_add]; exact h3 i x (Nat.zero_le _) hx⟩
theorem own_cap12 {W : World} {B g cap k m ty : Nat} {xs : List Value} (h : W.ownsRow B ty 1 (.slice (some ⟨g, 0, none⟩) k cap) m xs) : m ≤ cap := by
  rcases h.2 with ⟨e, -⟩ | ⟨g', cap', cur, e, -, h2, h3, h4, h5, h6⟩
  · cases e
  · cases e; omega
theorem bdN12 {B : Nat} {w w' : World} (h : Below B w w') (m : Nat) : Below B w (w'.drewN m) := below_drewN h m
theorem TurnO.drewnA {W W' : World} {g k m : Nat} (h : TurnO (· = g) W W') (v : Value) : TurnO (· = g) W ((W'.setCell ⟨g, k, none⟩ v).drewN m) := (h.trans (TurnO.set12 W' g k v) (fun b hb => .inl hb)).trans (TurnO.of_below (bdN12 (Below.refl _ _) m) : TurnO (· = g) _ _) (fun b hb => .inl hb)
theorem TurnO.drewnB {W W' : World} {g k m : Nat} (h : TurnO (· = g) W W') (v : Value) : TurnO (· = g) W ((W'.drewN m).setCell ⟨g, k, none⟩ v) := (h.trans (TurnO.of_below (bdN12 (Below.refl _ _) m) : TurnO (· = g) _ _) (fun b hb => .inl hb)).trans (TurnO.set12 _ g k v) (fun b hb => .inl hb)
/-- Ports of the program and the document's, made since w. -/
structure Pair (w W : World) (p r : Nat) (s : Ps) (O R : Nat → Prop) (L : Lay12) (RQ : Nat → Prop) (Y : LayQ) : Prop where
  po : PoAt W O R p L s
  qa : QAt W RQ r Y s
  lo : ∀ k, O k ∨ R k → w.heap.size ≤ k
  lq : ∀ k, QAt.own Y s k ∨ RQ k → w.heap.size ≤ k
  d1 : ∀ k, O k → ¬ (QAt.own Y s k ∨ RQ k)
  d2 : ∀ k, R k → ¬ QAt.own Y s k
  bl : Below w.heap.size w W
def BegOut (w : World) (s : Ps) (e : Ending) (w' : World) : Prop := ∃ p r O R L RQ Y, e = .returned (.tuple #[.pointer (some ⟨p, 0, none⟩), .pointer (some ⟨r, 0, none⟩), .bool true]) ∧ Pair w w' p r s O R L RQ Y
theorem Pair.other {w W W' : World} {p r : Nat} {s : Ps} {O R : Nat → Prop} {L : Lay12} {RQ : Nat → Prop} {Y : LayQ} (h : Pair w W p r s O R L RQ Y) {O' : Nat → Prop} (hT : TurnO O' W W') (hn : ∀ k, (O k ∨ R k) ∨ (QAt.own Y s k ∨ RQ k) → ¬ O' k) (hb : Below w.heap.size w W') : Pair w W' p r s O R L RQ Y :=
  ⟨h.po.other hT (fun k hk => hn k (.inl hk)), h.qa.keep hT.size (fun k hk => hT.block k (h.qa.lt hk) (hn k (.inr hk))), h.lo, h.lq, h.d1, h.d2, hb⟩
set_option maxHeartbeats 8000000 in
set_option maxRecDepth 100000 in
theorem begin_yes12 (w : World) (A : Option Addr) (qs : List Int) (n c : Nat) (hn : qs.length = n) (hq : IntsAt w A qs) (hA : A = none → n = 0 ∧ c = 0) (hok : newQ qs = true) :
    Calls Try.prog 10 #[.slice A n c] w (BegOut w (newPs qs)) := by
  obtain ⟨iI, hiI, hzI, hsI, hbI⟩ := info_parts Try.inInt12
  have hbI : iI.bytes = 8 := hbI
  have hn8 : n ≤ 8 ∧ 1 ≤ n := by
    unfold newQ at hok
    simp only [Bool.and_eq_true, decide_eq_true_eq] at hok
    omega
  have HOK := Lib.hid hok
  have HQ := Lib.hid hq
  have HN := Lib.hid hn
  have HN3 := Lib.hid hq.news
  clear hq hn hok
  go_enter Try.func10, Try.ntmps10
  go_wp2_with (first
    | (at_builtin; refine app_optF rfl _ _ 22 rfl w.heap.size 3 iI (.int .i64 0) 1 8 Try.underlying22 hiI hzI hsI hbI rfl (by decide) (.slice none 0 0) 0 [] rfl (World.ownsRow_nil ..) A n c (qs.map (Value.int .i64)) rfl hA (by simp [HN.out]) HN3.out (by intro v hv; obtain ⟨y, -, rfl⟩ := List.mem_map.1 hv; rfl) (by unfold maxLen; omega) (by omega) (Nat.le_refl _) ?_; intro v4 w4 ho4 hg4; have B4 := Lib.hid (show Below w.heap.size w w4 from (Below.refl w.heap.size w).grown hg4 (Nat.le_refl _) (fun k e => by cases e)); have OW4 := Lib.hid ho4; have hz4 := B4.out.size; have nw4 := heap_alloc_new w4 (Obj.cells #[Value.int .i64 77] 3); clear ho4 hg4)
    | (at_builtin; refine wpList_append_own _ rfl _ _ 22 rfl w.heap.size 3 iI (.int .i64 0) 1 8 Try.underlying22 hiI hzI hsI hbI rfl (by decide) _ _ _ rfl (OW4.out.alloc (Obj.cells #[Value.int .i64 77] 3)) ⟨w4.heap.size, 0, none⟩ 1 1 [.int .i64 77] rfl rfl (one_add12 _ _ _ _ nw4) (by simp [Value.oneCell']) (by unfold maxLen; omega) (by omega) (by simp; omega) ?_; intro v5 w5 ho5 hg5 _; have B5 := Lib.hid (show Below w.heap.size w w5 from (B4.out.alloc hz4 (Obj.cells #[Value.int .i64 77] 3)).grown hg5 (by simp; omega) (fun k e => (OW4.out.lt k e).1)); obtain ⟨go, cap, rfl, hgo1, hgo2⟩ := ho5.form (by omega); have hcap : (n : Int) ≤ (cap : Int) := (by have := own_cap12 ho5; omega); have OW5 := Lib.hid ho5; clear ho5 hg5 nw4))
  have OQ5 := Lib.hid (OwnQ12.of (tl := [.int .i64 77]) (by have := OW5.out; simpa using this) HN.out)
  have HGO := Lib.hid (And.intro hgo1 hgo2)
  have hI5 := OQ5.out.at
  go_at_call 24
  have hnw := new_yes12 hI5 cap HOK.out
  rw [HN.out] at hnw
  refine Calls.mono hnw ?_
  rintro e w6 ⟨p, O, R, L, rfl, hp, hlo, hb6⟩
  have P6 := Lib.hid hp
  have LO := Lib.hid hlo
  have B6 := Lib.hid hb6
  have HB06 := Lib.hid (B5.out.trans (hb6.mono B5.out.size))
  have hqn := qnew_yes12 (HQ.out.below HB06.out) c HOK.out
  rw [HN.out] at hqn
  have HQN := Lib.hid hqn
  clear hp hlo hb6 hnw hI5 hqn
  go_wp2_with fail
  go_at_call 29
  refine Calls.mono HQN.out ?_
  rintro e w7 ⟨r, RQ, Y, rfl, hkq, hb7⟩
  have PR := Lib.hid (show Pair w w7 p r (newPs qs) O R L RQ Y from ⟨P6.out.step hb7, hkq.qa, fun k hk => Nat.le_trans B5.out.size (LO.out k hk), fun k hk => Nat.le_trans HB06.out.size (hkq.lo k hk), fun k hk hk' => by have := P6.out.lo k hk; have := hkq.lo k hk'; omega, fun k hk hk' => by have := P6.out.lr k hk; have := hkq.lo k (.inl hk'); omega, HB06.out.trans (hb7.mono HB06.out.size)⟩)
  have FAR := Lib.hid (show ∀ k, (O k ∨ R k) ∨ (QAt.own Y (newPs qs) k ∨ RQ k) → ¬ k = go from fun k hk e => by
    have := HGO.out.2
    have h6 := B6.out.size
    rcases hk with hk | hk
    · have := LO.out k hk; omega
    · have := hkq.lo k hk; omega)
  have OQ7 := Lib.hid (show OwnQ12 w7 go n qs 0 from by
    obtain ⟨cs, h1, h2, h3⟩ := OQ5.out.row
    exact ⟨cs, ((B6.out.trans (hb7.mono B6.out.size)).block go HGO.out.2).trans h1, h2, h3⟩)
  clear hkq hb7 HQN P6 LO
  go_wp2_with fail
  go_loopg [10] n (fun g i W => ∃ k : Nat, k + g = n ∧ i = .int .i64 (k : Int) ∧ OwnQ12 W go n qs k ∧ TurnO (· = go) w7 W)
  case atStart => exact ⟨0, by omega, rfl, OQ7.out, TurnO.refl _ _⟩
  case round =>
    obtain ⟨k, hk, rfl, hOQ, hT⟩ := hrel
    have OQ := Lib.hid hOQ
    have HT := Lib.hid hT
    clear hOQ hT
    by_cases hlt : k < n
    · have hlt' : (k : Int) < (n : Int) := by omega
      obtain ⟨q0, hkq⟩ : ∃ q0, qs[k]? = some q0 := ⟨_, List.getElem?_eq_getElem (by rw [HN.out]; exact hlt)⟩
      obtain ⟨ga, oa, eA, hgl, hc0⟩ := HQ.out k q0 hkq
      have hc := ((World.cell?_of_block (a := ⟨ga, oa + k, none⟩) (HT.out.block ga (Nat.lt_of_lt_of_le hgl PR.out.bl.size) (by show ¬ ga = go; have := HGO.out.1; omega))).trans (World.cell?_of_block (a := ⟨ga, oa + k, none⟩) (PR.out.bl.block ga hgl))).trans hc0
      obtain ⟨cs, h1, h2, h3⟩ := OQ.out.row
      have hc2 : wr.cell? ⟨go, k, none⟩ = some (.int .i64 q0) := by rw [cell_of_row _ _ _ _ _ _ h1]; exact h3 k q0 (Nat.le_refl _) hkq
      have hz := frozen_of_row _ _ k _ _ h1
      subst eA
      clear h1 h2 h3 hkq hc0 hgl
      go_wp2_with fail
      go_quiet (fail)
      go_wp2_with fail
      go_roundg (n - (k + 1))
      case measure => omega
      case rel => exact ⟨k + 1, by omega, by go_num, by first | exact OwnQ12.drewn (OQ.out.set _) | exact (OQ.out.drewn).set _, by first | exact (HT.out.drewnA _) | exact HT.out.drewnB _⟩
    · obtain rfl : k = n := by omega
      have hlt' : ¬ (k : Int) < (k : Int) := by omega
      have hbl : Below w.heap.size w wr := PR.out.bl.trans (HT.out.below PR.out.bl.size (fun b hb => by have := HGO.out.1; have : b = go := hb; omega))
      have PE := Lib.hid (PR.out.other HT.out (fun k hk => FAR.out k hk) hbl)
      go_wp2_with (go_at_call 18; refine (num_any12 _ _).mono ?_; rintro e w' ⟨rfl, rfl⟩)
      go_ret3
      exact ⟨p, r, O, R, L, RQ, Y, rfl, PE.out⟩
end Go.Proofs.Ytakpankipagndaa
