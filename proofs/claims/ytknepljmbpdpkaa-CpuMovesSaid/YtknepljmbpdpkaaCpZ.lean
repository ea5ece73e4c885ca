/- Bytes and Clone of a plain memory; the document's memory: May, First. -/
import Derived.Test.YtknepljmbpdpkaaCpY
import Derived.Deep.RegionWith
namespace Go.Proofs.Ytknepljmbpdpkaa
open Go.RowKit

def bytesM (m : Mem8) : List Value := (List.range (m.np * 256)).map fun k => Value.int .u8 (m.bt k)
theorem bytesM_len (m : Mem8) : (bytesM m).length = m.np * 256 := by simp [bytesM]
theorem bytesM_get (m : Mem8) (k : Nat) (hk : k < m.np * 256) : (bytesM m)[k]? = some (.int .u8 (m.bt k)) := by
  unfold bytesM; rw [List.getElem?_map, List.getElem?_range hk]; rfl
theorem FlatAt.src {w : World} {F B : Nat} {ra : Option Addr} {rc bc : Nat} {m : Mem8} (h : FlatAt w F B ra rc bc m) : (∀ (j : Nat) (v : Value), (bytesM m)[j]? = some v → w.cell? ⟨B, 0 + j, none⟩ = some v) ∧ ∀ v ∈ bytesM m, v.oneCell' = true := by
  refine ⟨fun j v hj => ?_, fun v hv => ?_⟩
  · have hlt : j < m.np * 256 := by have := (List.getElem?_eq_some_iff.1 hj).1; rwa [bytesM_len] at this
    rw [bytesM_get m j hlt] at hj
    cases hj
    rw [Nat.zero_add]; exact h.bs j hlt
  · obtain ⟨k, -, rfl⟩ := List.mem_map.1 hv; rfl
theorem FlatAt.ints {w : World} {F B : Nat} {ra : Option Addr} {rc bc : Nat} {m : Mem8} (h : FlatAt w F B ra rc bc m) : IntsIn w ra m.np m.ri := fun hp => by
  obtain ⟨Rb, ro, e, -, l, c⟩ := h.rr hp
  exact ⟨Rb, ro, e, l, c⟩
theorem fbytes_any {w : World} {F B : Nat} {ra : Option Addr} {rc bc : Nat} {m : Mem8} (h : FlatAt w F B ra rc bc m) :
    Calls Try.prog 14 #[.pointer (some ⟨F, 0, none⟩)] w (CloneOut9 5 (m.np * 256) (bytesM m) w) := by
  have c1 := h.c1
  have hn := h.ok.np
  have H := Lib.hid (cloneB_some B 0 (m.np * 256) bc (bytesM m) (bytesM_len m) h.src (by omega))
  clear h
  go_enter Try.func14, Try.ntmps14
  go_wp2_with (go_at_call 29; refine H.out.mono ?_; rintro e w' ⟨v', rfl, ho, hne, hb⟩; have HO := Lib.hid ho; have HN := Lib.hid hne; have HB := Lib.hid hb; clear ho hne hb)
  go_ret
  exact ⟨v', rfl, HO.out, HN.out, HB.out⟩
theorem fbytes_nil (w : World) : Calls Try.prog 14 #[.pointer none] w fun e w' => e = .returned (.slice none 0 0) ∧ w = w' := by
  go_enter Try.func14, Try.ntmps14
  go_wp2
  go_ret
  exact ⟨rfl, rfl⟩
theorem fclone_nil (w : World) : Calls Try.prog 15 #[.pointer none] w fun e w' => e = .returned (.pointer none) ∧ w = w' := by
  go_enter Try.func15, Try.ntmps15
  go_wp2
  go_ret
  exact ⟨rfl, rfl⟩
theorem has_nil (x : Int) (w : World) : Calls Try.prog 35 #[.pointer none, .int .u32 x] w fun e w' => e = .returned (.bool false) ∧ w = w' := by
  go_enter Try.func35, Try.ntmps35
  go_wp2
  go_ret
  exact ⟨rfl, rfl⟩
theorem fmay_nil (x r : Int) (w : World) : Calls Try.prog 21 #[.pointer none, .int .u32 x, .int .i64 r] w fun e w' => e = .returned (.bool false) ∧ w = w' := by
  go_enter Try.func21, Try.ntmps21
  go_wp2_with (go_at_call 35; refine (has_nil _ _).mono ?_; rintro e w' ⟨rfl, rfl⟩)
  go_ret
  exact ⟨rfl, rfl⟩
theorem fget_nil (x : Int) (w : World) : Calls Try.prog 24 #[.pointer none, .int .u32 x] w fun e w' => e = .returned (.int .u8 0) ∧ w = w' := by
  go_enter Try.func24, Try.ntmps24
  go_wp2_with (go_at_call 35; refine (has_nil _ _).mono ?_; rintro e w' ⟨rfl, rfl⟩)
  go_ret
  exact ⟨rfl, rfl⟩
theorem fset_nil (x v : Int) (w : World) : Calls Try.prog 23 #[.pointer none, .int .u32 x, .int .u8 v] w fun e w' => e = .returned (.tuple #[]) ∧ w = w' := by
  go_enter Try.func23, Try.ntmps23
  go_wp2_with (go_at_call 35; refine (has_nil _ _).mono ?_; rintro e w' ⟨rfl, rfl⟩)
  go_end0
  exact ⟨rfl, rfl⟩

/-! ### Clone -/
def CloneF (m : Mem8) (w : World) (e : Ending) (w' : World) : Prop := ∃ F B ra rc bc, e = .returned (.pointer (some ⟨F, 0, none⟩)) ∧ FlatAt w' F B ra rc bc m ∧ w.heap.size ≤ F ∧ w.heap.size ≤ B ∧ (∀ b o, ra = some ⟨b, o, none⟩ → w.heap.size ≤ b ∧ b < w'.heap.size) ∧ Below w.heap.size w w'
def intsL (m : Mem8) : List Value := (List.range m.np).map fun j => Value.int .i64 (m.ri j)
theorem clone_flat {w Wf : World} {F : Nat} {a1 a2 : Option Addr} {k1 k2 : Nat} {m : Mem8} (hm : Mem8Ok m)
    (hF : Wf.heap[F]? = some (.cells #[.slice a1 m.np k1, .slice a2 (m.np * 256) k2] 79 (0, 0))) (hgF : w.heap.size ≤ F)
    (h1 : Wf.ownsRow w.heap.size 3 1 (.slice a1 m.np k1) m.np (intsL m)) (h2 : Wf.ownsRow w.heap.size 5 1 (.slice a2 (m.np * 256) k2) (m.np * 256) (bytesM m)) (h2n : Value.slice a2 (m.np * 256) k2 ≠ .slice none 0 0)
    (h12 : ∀ b o b' o', a1 = some ⟨b, o, none⟩ → a2 = some ⟨b', o', none⟩ → b ≠ b') (hF2 : ∀ b o, a2 = some ⟨b, o, none⟩ → b ≠ F) (hb : Below w.heap.size w Wf) :
    ∃ B, FlatAt Wf F B a1 k1 k2 m ∧ w.heap.size ≤ B ∧ (∀ b o, a1 = some ⟨b, o, none⟩ → w.heap.size ≤ b ∧ b < Wf.heap.size) := by
  rcases h2.2 with ⟨e, -⟩ | ⟨g, cap, cur, e, hg, hc, -⟩
  · exact absurd e h2n
  · injection e with e1 e2 e3
    subst e1 e3
    have hgl : g < Wf.heap.size := (Array.getElem?_eq_some_iff.1 hc).1
    refine ⟨g, ⟨hm, ?_, ?_, fun hp => ?_, fun k hk => ?_, fun k => frozen_of_row _ _ _ _ _ hc, (hF2 g 0 rfl).symm, (Array.getElem?_eq_some_iff.1 hF).1, hgl⟩, hg, fun b o e => by subst e; exact h1.lt b rfl⟩
    · rw [cell_of_row _ _ _ _ _ _ hF]; rfl
    · rw [cell_of_row _ _ _ _ _ _ hF]; rfl
    · obtain ⟨g1, c1, e, hg1, hg2⟩ := h1.form hp
      injection e with e1 e2 e3
      subst e1
      refine ⟨g1, 0, rfl, h12 g1 0 g 0 rfl rfl, hg2, fun i hi => ?_⟩
      have := h1.cells (g := g1) rfl i (.int .i64 (m.ri i)) (by unfold intsL; rw [List.getElem?_map, List.getElem?_range hi]; rfl)
      rwa [Addr.add_lit] at this
    · have := h2.cells (g := g) rfl k _ (bytesM_get m k hk)
      rwa [Addr.add_lit, Nat.zero_add] at this
set_option maxHeartbeats 1000000 in
set_option maxRecDepth 100000 in
theorem fclone_any {w : World} {F B : Nat} {ra : Option Addr} {rc bc : Nat} {m : Mem8} (h : FlatAt w F B ra rc bc m) :
    Calls Try.prog 15 #[.pointer (some ⟨F, 0, none⟩)] w (CloneF m w) := by
  have q22 : ∀ (w : World) (a : Option Addr) (n c n' c' : Nat), (binOp .eql 23 (.slice a n c) (.slice none n' c')).run Try.prog w = .ok (.bool a.isNone) w := fun w a n c n' c' => Lib.run_eql_slice_nil w _ _ a n c n' c' Try.underlying23
  have c0 := h.c0
  have c1 := h.c1
  have hn := h.ok.np
  have hFl := h.fl
  have H := Lib.hid h
  have HBX := Lib.hid (show Below w.heap.size w w.drew from Bl.drew (Below.refl _ _))
  clear h
  go_enter Try.func15, Try.ntmps15
  go_wp2
  go_region_with (first
    | (go_at_call 30; refine (cloneI_any (H.out.ints.below HBX.out) rc (by omega)).mono ?_; rintro e w1 ⟨v1, rfl, ho, hb⟩; obtain ⟨a1, k1, rfl⟩ := own_sl8 ho; have HO1 := Lib.hid ho; have HB1 := Lib.hid hb; have hx := Bl.step HBX.out hb; have c0 := (hx.cell (p := ⟨F, 0, none⟩) hFl).trans H.out.c0; have c1 := (hx.cell (p := ⟨F, 1, none⟩) hFl).trans H.out.c1; have HBX := Lib.hid hx; clear ho hb hx)
    | (go_at_call 29; refine (cloneB_some B 0 (m.np * 256) bc (bytesM m) (bytesM_len m) (H.out.below HBX.out).src (by omega)).mono ?_; rintro e w2 ⟨v2, rfl, ho, hne, hb⟩; obtain ⟨a2, k2, rfl⟩ := own_sl8 ho; have HO2 := Lib.hid ho; have HB2 := Lib.hid hb; have HN2 := Lib.hid hne; have hx := Bl.step HBX.out hb; have c0 := (hx.cell (p := ⟨F, 0, none⟩) hFl).trans H.out.c0; have c1 := (hx.cell (p := ⟨F, 1, none⟩) hFl).trans H.out.c1; have HBX := Lib.hid hx; clear ho hb hne hx))
  all_goals
    have hz1 : w.heap.size ≤ w1.heap.size := HB1.out.size
    have hx1 : w1.ownsRow w.heap.size 3 1 (.slice a1 m.np k1) m.np (intsL m) := HO1.out
    obtain ⟨B2, f1, f2, f3⟩ := clone_flat (w := w) (Wf := w2.alloc (.cells #[.slice a1 m.np k1, .slice a2 (m.np * 256) k2] 79)) (F := w2.heap.size) H.out.ok (heap_alloc_new w2 _) HBX.out.size
      ((own_below hx1 HB2.out).alloc _) (own_base8 (HO2.out.alloc _) hz1) HN2.out
      (fun b o b' o' e1 e2 => by subst e1 e2; have q1 := (HO1.out.lt b rfl).2; have q2 := (HO2.out.lt b' rfl).1; omega)
      (fun b o e => by subst e; have := (HO2.out.lt b rfl).2; omega) (Bl.alloc HBX.out _)
    have F1 := Lib.hid f1
    have F2 := Lib.hid f2
    have F3 := Lib.hid f3
    clear f1 f2 f3
    go_wp2
    go_ret
    exact ⟨_, B2, _, _, _, rfl, F1.out, HBX.out.size, F2.out, F3.out, Bl.alloc HBX.out _⟩

/-! ### The document's memory -/
/-- The document's memory: its bytes and its rights. -/
structure QAt (w : World) (p : Nat) (A : Option Addr) (cb : Nat) (Ar : Option Addr) (cr : Nat) (m : Mem8) : Prop where
  ok : Mem8Ok m
  c0 : w.cell? ⟨p, 0, none⟩ = some (.slice A (m.np * 256) cb)
  c1 : w.cell? ⟨p, 1, none⟩ = some (.slice Ar m.np cr)
  pl : p < w.heap.size
  bs : 0 < m.np → ∃ b o, A = some ⟨b, o, none⟩ ∧ b < w.heap.size ∧ ∀ k, k < m.np * 256 → w.cell? ⟨b, o + k, none⟩ = some (.int .u8 (m.bt k))
  rs : IntsIn w Ar m.np m.ri
theorem QAt.below {w w' : World} {p cb cr : Nat} {A Ar : Option Addr} {m : Mem8} (h : QAt w p A cb Ar cr m) (hb : Below w.heap.size w w') : QAt w' p A cb Ar cr m := by
  refine ⟨h.ok, (hb.cell (p := ⟨p, 0, none⟩) h.pl).trans h.c0, (hb.cell (p := ⟨p, 1, none⟩) h.pl).trans h.c1, Nat.lt_of_lt_of_le h.pl hb.size, fun hp => ?_, h.rs.below hb⟩
  obtain ⟨b, o, e, l, c⟩ := h.bs hp
  exact ⟨b, o, e, Nat.lt_of_lt_of_le l hb.size, fun k hk => (hb.cell (p := ⟨b, o + k, none⟩) l).trans (c k hk)⟩
set_option maxHeartbeats 1000000 in
theorem qmay_any {w : World} {p cb cr : Nat} {A Ar : Option Addr} {m : Mem8} (h : QAt w p A cb Ar cr m) (x r : Int) (h0 : 0 ≤ x) (h1 : x < 4294967296) :
    Calls Try.prog 22 #[.pointer (some ⟨p, 0, none⟩), .int .u32 x, .int .i64 r] w fun e w' => e = .returned (.bool (m.may x r)) ∧ w = w' := by
  unfold Mem8.may Mem8.has
  have c1 := h.c1
  have hn := h.ok.np
  by_cases hr1 : 1 ≤ r
  · by_cases hr2 : r ≤ 7
    · by_cases hx : x / 256 < m.np
      · have hx2 : x < (m.np : Int) * 256 := by omega
        obtain ⟨Rb, ro, rfl, -, hr⟩ := h.rs (by omega)
        have cr' := hr (x / 256).toNat (by omega)
        clear h hr
        go_enter Try.func22, Try.ntmps22
        go_wp2
        go_ret
        exact ⟨ret_bool (by simp [hx2, hr2]; intro _; omega), rfl⟩
      · have hx2 : ¬ x < (m.np : Int) * 256 := by omega
        clear h
        go_enter Try.func22, Try.ntmps22
        go_wp2
        go_ret
        exact ⟨ret_bool (by rw [decide_eq_false (show ¬ x < (m.np : Int) * 256 by omega)]; simp), rfl⟩
    · clear h
      go_enter Try.func22, Try.ntmps22
      go_wp2
      go_ret
      exact ⟨ret_bool (by rw [decide_eq_false (show ¬ r ≤ 7 by omega)]; simp), rfl⟩
  · clear h
    go_enter Try.func22, Try.ntmps22
    go_wp2
    go_ret
    exact ⟨ret_bool (by rw [decide_eq_false (show ¬ 0 < r by omega)]; simp), rfl⟩
theorem ret_m8n {p q : Int × Bool} (h : p = q) : Ending.returned (.tuple #[.int .u32 p.1, .bool (!p.2)]) = .returned (.tuple #[.int .u32 q.1, .bool (!q.2)]) := by rw [h]
set_option maxHeartbeats 1000000 in
set_option maxRecDepth 100000 in
theorem qfirst_any {w : World} {p cb cr : Nat} {A Ar : Option Addr} {m : Mem8} (h : QAt w p A cb Ar cr m) (x r : Int) (n : Nat) (h0 : 0 ≤ x) (h1 : x < 4294967296) (hn : n ≤ 65536) :
    Calls Try.prog 19 #[.pointer (some ⟨p, 0, none⟩), .int .u32 x, .int .i64 n, .int .i64 r] w fun e w' => e = .returned (.tuple #[.int .u32 (mayT m r n x).1, .bool (!(mayT m r n x).2)]) ∧ w = w' := by
  have H := Lib.hid h
  clear h
  obtain ⟨T, hT⟩ : ∃ T, mayT m r n x = T := ⟨_, rfl⟩
  rw [hT]
  have HT := Lib.hid hT
  clear hT
  go_enter Try.func19, Try.ntmps19
  go_wp2
  go_loop [10] (fun k => ∃ j : Nat, j ≤ n ∧ k = .int .i64 j ∧ mayT m r (n - j) (m32 (x + (j : Int))) = T) (fun k => n - (intOf k).toNat)
  case atStart => exact ⟨0, Nat.zero_le _, rfl, by rw [Int.natCast_zero, Int.add_zero, m32_id h0 h1]; exact HT.out⟩
  case round =>
    obtain ⟨j, hj, rfl, hT⟩ := hrel
    by_cases hlt : j < n
    · have hlt' : decide (j < n) = true := by simpa using hlt
      have hlt2 : (j : Int) < n := by omega
      have hj2 : (j : Int) ≤ 65536 := by omega
      obtain ⟨q, hq⟩ : ∃ q, n - j = q + 1 := ⟨n - j - 1, by omega⟩
      have HC := Lib.hid (qmay_any H.out (m32 (x + (j : Int))) r (m32_0 _) (m32_1 _))
      cases hmy : m.may (m32 (x + (j : Int))) r with
      | true =>
        have HN := Lib.hid (show mayT m r q (m32 (x + ((j + 1 : Nat) : Int))) = T by
          rw [hq, mayT_yes hmy, m32_add] at hT
          rw [← hT]
          congr 2
          omega)
        rw [hmy] at HC
        have HQ := Lib.hid hq
        clear hT hmy hq
        go_wp2_with (go_at_call 22; refine HC.out.mono ?_; rintro e w' ⟨rfl, rfl⟩)
        go_round
        case rel => exact ⟨j + 1, hlt, by go_num, by rw [show n - (j + 1) = q by have := HQ.out; omega]; exact HN.out⟩
        case measure => simp [intOf]; omega
      | false =>
        have HN := Lib.hid (show (m32 (x + (j : Int)), false) = T by rw [← mayT_no (n := q) hmy, ← hq]; exact hT)
        rw [hmy] at HC
        clear hT hmy hq
        go_wp2_with (go_at_call 22; refine HC.out.mono ?_; rintro e w' ⟨rfl, rfl⟩)
        go_ret2
        exact ⟨ret_m8n HN.out, rfl⟩
    · have HN := Lib.hid (show ((0 : Int), true) = T by rw [show n - j = 0 by omega] at hT; exact hT)
      have hlt' : decide (j < n) = false := by simpa using hlt
      clear hT
      go_wp2_with fail
      go_ret2
      exact ⟨ret_m8n HN.out, rfl⟩
end Go.Proofs.Ytknepljmbpdpkaa
