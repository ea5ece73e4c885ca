/- Contracts of bytes.Clone, isa.All and the document's All: the instructions with which bytes begin. -/
import Derived.Test.YtnkkomodpjgefaaGreatDoorIsaOfLaw
import Derived.Test.YtnkkomodpjgefaaGreatDoorIsaWordsLaw
import Derived.Lib.SliceRun
namespace Go.Proofs.YtnkkomodpjgefaaGreatDoor
open Go.RowKit Go.Sort

/-- The k-th word of bytes. -/
def wAt (L : List Int) (k : Nat) : Int := fourOf (L.getD (4 * k) 0) (L.getD (4 * k + 1) 0) (L.getD (4 * k + 2) 0) (L.getD (4 * k + 3) 0)
/-- Do four bytes stand there, and are they an instruction's? -/
def okAt (L : List Int) (k : Nat) : Bool := decide (4 * k + 4 ≤ L.length) && isWord (wAt L k)
/-- So many instructions do the bytes begin with. -/
def Begins (L : List Int) (N : Nat) : Prop := (∀ j, j < N → okAt L j = true) ∧ okAt L N = false
theorem begins (L : List Int) : ∃ N, Begins L N := by
  have key : ∀ m, (∃ N, Begins L N) ∨ ∀ j, j < m → okAt L j = true := by
    intro m
    induction m with
    | zero => exact Or.inr (fun j h => by omega)
    | succ m ih =>
      rcases ih with h | h
      · exact Or.inl h
      · cases hm : okAt L m
        · exact Or.inl ⟨m, h, hm⟩
        · refine Or.inr fun j hj => ?_
          rcases Nat.lt_or_ge j m with h1 | h1
          · exact h j h1
          · obtain rfl : j = m := by omega
            exact hm
  rcases key (L.length + 1) with h | h
  · exact h
  · have := h L.length (by omega)
    unfold okAt at this
    simp at this
    omega
theorem okAt_parts {L : List Int} {k : Nat} (h : okAt L k = true) : 4 * k + 4 ≤ L.length ∧ isWord (wAt L k) = true := by
  unfold okAt at h; simpa using h
theorem okAt_not {L : List Int} {k : Nat} (h : okAt L k = false) : L.length < 4 * k + 4 ∨ (4 * k + 4 ≤ L.length ∧ isWord (wAt L k) = false) := by
  unfold okAt at h
  rcases Nat.lt_or_ge L.length (4 * k + 4) with h1 | h1
  · exact Or.inl h1
  · rw [decide_eq_true h1, Bool.true_and] at h; exact Or.inr ⟨h1, h⟩
theorem begins_len {L : List Int} {N : Nat} (h : Begins L N) : 4 * N ≤ L.length := by
  rcases Nat.eq_zero_or_pos N with h0 | h0
  · omega
  · have := (okAt_parts (h.1 (N - 1) (by omega))).1; omega

theorem BytesAt.at4 {w : World} {B o : Nat} {L : List Int} (h : BytesAt w (some ⟨B, o, none⟩) L) (p : Nat) (hp : p + 4 ≤ L.length) :
    w.cell? ⟨B, o + p, none⟩ = some (.int .u8 (L.getD p 0)) ∧ w.cell? ⟨B, o + p + 1, none⟩ = some (.int .u8 (L.getD (p + 1) 0)) ∧ w.cell? ⟨B, o + p + 2, none⟩ = some (.int .u8 (L.getD (p + 2) 0)) ∧ w.cell? ⟨B, o + p + 3, none⟩ = some (.int .u8 (L.getD (p + 3) 0)) := by
  have k : ∀ q, q < L.length → w.cell? ⟨B, o + q, none⟩ = some (.int .u8 (L.getD q 0)) := fun q hq => by
    have := h _ rfl q (L[q]) (List.getElem?_eq_getElem hq)
    rw [plain_add] at this
    rw [this, List.getD_eq_getElem?_getD, List.getElem?_eq_getElem hq]; rfl
  exact ⟨k p (by omega), by rw [Nat.add_assoc]; exact k (p + 1) (by omega), by rw [Nat.add_assoc]; exact k (p + 2) (by omega), by rw [Nat.add_assoc]; exact k (p + 3) (by omega)⟩
theorem getD_range {L : List Int} (hr : ∀ x ∈ L, 0 ≤ x ∧ x < 256) (q : Nat) : 0 ≤ L.getD q 0 ∧ L.getD q 0 < 256 := by
  rw [List.getD_eq_getElem?_getD]
  cases h : L[q]? with
  | none => simp
  | some x => exact hr x (List.mem_of_getElem? h)
theorem wAt_range {L : List Int} (hr : ∀ x ∈ L, 0 ≤ x ∧ x < 256) (k : Nat) : 0 ≤ wAt L k ∧ wAt L k < 4294967296 :=
  fourOf_range (getD_range hr _) (getD_range hr _) (getD_range hr _) (getD_range hr _)

theorem own_sl {w : World} {B k : Nat} {e : TypeId} {v : Value} {n : Nat} {xs : List Value} (h : w.ownsRow B e k v n xs) : ∃ a c, v = .slice a n c := by
  rcases h.2 with ⟨hv, hn⟩ | ⟨g, cap, cur, rfl, _⟩
  · subst hn; exact ⟨_, _, hv⟩
  · exact ⟨_, _, rfl⟩

set_option maxHeartbeats 400000 in
set_option maxRecDepth 100000 in
theorem clone_any {A : Option Addr} {n c : Nat} {L : List Int} {w : World} (h : BytesAt w A L) (hL : L.length = n) (hA : A = none → n = 0 ∧ c = 0) (hn : n ≤ 4000) :
    Calls Tryz.prog 16 #[.slice A n c] w fun e w' => ∃ v, e = .returned v ∧ w'.ownsRow w.heap.size 5 1 v n (L.map (Value.int .u8)) ∧ Below w.heap.size w w' := by
  obtain ⟨i0, hi, hz0, hz1, hz2⟩ := info_parts Tryz.infoU8
  have q := fun (w : World) (a : Option Addr) (n c n' c' : Nat) => Lib.run_eql_slice_nil (P := Tryz.prog) w 22 5 a n c n' c' Tryz.underlying22
  have HL := Lib.hid hL
  have H := Lib.hid h
  have HA := Lib.hid hA
  clear h hL hA
  cases A with
  | none =>
    obtain ⟨hn0, hc0⟩ := HA.out rfl
    have hz : L = [] := List.eq_nil_of_length_eq_zero (by rw [HL.out]; exact hn0)
    subst hn0 hc0 hz
    go_enter Tryz.func16, Tryz.ntmps16
    go_wp2
    go_ret
    exact ⟨_, rfl, World.ownsRow_nil .., Below.refl _ _⟩
  | some ad =>
    go_enter Tryz.func16, Tryz.ntmps16
    go_wp2_with (at_builtin; refine wpList_append_own _ rfl _ _ 22 rfl w.heap.size 5 i0 (.int .u8 0) 1 1 Tryz.underlying22 hi hz0 hz1 hz2 rfl (by decide) _ _ _ rfl (World.ownsRow_made w #[] 0 (Nat.le_refl _) (Nat.zero_le _) rfl) ad n c (L.map (Value.int .u8)) rfl (by simp [HL.out]) ((H.out.below (Bl.alloc (Below.refl _ _) _)).news ad rfl) (by simp [Value.oneCell']) (by unfold maxLen; omega) (by omega) (by simp) ?_; intro v1 w1 h1 g1 _)
    go_ret
    refine ⟨v1, rfl, own_cast h1 (by omega) (by simp), (Bl.alloc (Below.refl _ _) _).grown g1 (by simp) (fun k e => ?_)⟩
    have e' : some w.heap.size = some k := e
    cases e'; exact Nat.le_refl _

/-- A row of the call's own over a store elsewhere. -/
theorem own_set {w : World} {B : Nat} {e : TypeId} {k : Nat} {v : Value} {n : Nat} {xs : List Value} (h : w.ownsRow B e k v n xs) {b : Nat} (hb : b < B) (o : Nat) (u : Value) : (w.setCell ⟨b, o, none⟩ u).ownsRow B e k v n xs := by
  obtain ⟨h1, h2⟩ := h
  refine ⟨h1, ?_⟩
  rcases h2 with h2 | ⟨g, cap, cur, hv, hg, hh, r⟩
  · exact Or.inl h2
  · exact Or.inr ⟨g, cap, cur, hv, hg, by rw [Below.heap_setCell _ _ _ _ (show g ≠ b by omega)]; exact hh, r⟩
theorem own_more {w : World} {B B' : Nat} {e : TypeId} {k : Nat} {v : Value} {n : Nat} {xs : List Value} (h : w.ownsRow B e k v n xs) (hB : B' ≤ B) : w.ownsRow B' e k v n xs := by
  obtain ⟨h1, h2⟩ := h
  refine ⟨h1, ?_⟩
  rcases h2 with h2 | ⟨g, cap, cur, hv, hg, hh, r⟩
  · exact Or.inl h2
  · exact Or.inr ⟨g, cap, cur, hv, by omega, hh, r⟩

set_option maxHeartbeats 400000 in
set_option maxRecDepth 100000 in
theorem all_any {A : Option Addr} {n c : Nat} {L : List Int} {w : World} (h : BytesAt w A L) (hL : L.length = n) (hA : A = none → n = 0 ∧ c = 0) (hn : n ≤ 4000) :
    Calls Tryz.prog 5 #[.slice A n c] w fun e w' => ∃ v, e = .returned (.func (.func 17) #[] #[.pointer (some ⟨w.heap.size, 0, none⟩)]) ∧ w'.heap[w.heap.size]? = some (.cells #[v] 22 (0, 0)) ∧ w'.ownsRow (w.heap.size + 1) 5 1 v n (L.map (Value.int .u8)) ∧ Below w.heap.size w w' := by
  have H := Lib.hid h
  have HL := Lib.hid hL
  have HA := Lib.hid hA
  clear h hL hA
  go_enter Tryz.func5, Tryz.ntmps5
  go_wp2_with (go_at_call 16; refine (clone_any (H.out.below (Bl.alloc (Below.refl _ _) _)) HL.out HA.out hn).mono ?_; rintro e w1 ⟨v1, rfl, h1, hb1⟩; obtain ⟨sa, sc, rfl⟩ := own_sl h1; have hc0 := (hb1.cell (p := ⟨w.heap.size, 0, none⟩) (by simp)).trans (show _ = some (Value.slice A n c) by simp); have hf0 := (hb1.frozen (p := ⟨w.heap.size, 0, none⟩) (by simp)).trans (show _ = false by simp))
  go_ret
  refine ⟨_, rfl, ?_, own_set (own_more h1 (by simp)) (by omega) 0 _, (Bl.step (Bl.alloc (Below.refl _ _) _) hb1).setCell (p := ⟨w.heap.size, 0, none⟩) (Nat.le_refl _) _⟩
  have hh : w1.heap[w.heap.size]? = some (.cells #[.slice A n c] 22 (0, 0)) := (hb1.block w.heap.size (by simp)).trans (World.alloc_heap_new w _)
  simp [World.setCell, Array.getElem?_modify, hh]

theorem rread_at {w : World} {B o : Nat} {L : List Int} (h : BytesAt w (some ⟨B, o, none⟩) L) (hr : ∀ x ∈ L, 0 ≤ x ∧ x < 256) {p k : Nat} (hp : p = 4 * k) (hle : p + 4 ≤ L.length) (c : Nat) {x : Int} (hx : oE (wAt L k) = x) :
    Calls Tryz.prog 19 #[.slice (some ⟨B, o + p, none⟩) 4 c] w fun e w' => e = .returned (.tuple #[.agg #[.int .i64 (oOp (wAt L k)), .int .i64 (oD (wAt L k)), .int .i64 (oA (wAt L k)), .int .i64 (oB (wAt L k)), .int .i64 (oM (wAt L k))], .int .i64 x]) ∧ Below w.heap.size w w' := by
  subst hp hx
  obtain ⟨c0, c1, c2, c3⟩ := h.at4 (4 * k) hle
  exact rread_four B (o + 4 * k) c _ _ _ _ w c0 c1 c2 c3 (getD_range hr _) (getD_range hr _) (getD_range hr _) (getD_range hr _)
theorem read_at {w : World} {B o : Nat} {L : List Int} (h : BytesAt w (some ⟨B, o, none⟩) L) (hr : ∀ x ∈ L, 0 ≤ x ∧ x < 256) {p k : Nat} (hp : p = 4 * k) (hle : p + 4 ≤ L.length) (c : Nat) {x : Int} (hx : oE (wAt L k) = x) :
    Calls Tryz.prog 18 #[.slice (some ⟨B, o + p, none⟩) 4 c] w fun e w' => e = .returned (.tuple #[.agg #[.int .i64 (oOp (wAt L k)), .int .i64 (oD (wAt L k)), .int .i64 (oA (wAt L k)), .int .i64 (oB (wAt L k)), .int .i64 (oM (wAt L k))], .int .i64 x]) ∧ Below w.heap.size w w' := by
  subst hp hx
  obtain ⟨c0, c1, c2, c3⟩ := h.at4 (4 * k) hle
  exact read_four B (o + 4 * k) c _ _ _ _ w c0 c1 c2 c3 (getD_range hr _) (getD_range hr _) (getD_range hr _) (getD_range hr _)

set_option maxHeartbeats 1600000 in
set_option maxRecDepth 100000 in
theorem rall_any {A : Option Addr} {n c N : Nat} {L : List Int} {w : World} (h : BytesAt w A L) (hL : L.length = n) (hA : A = none → n = 0 ∧ c = 0) (hn : n ≤ 4000) (hnc : n ≤ c) (hr : ∀ x ∈ L, 0 ≤ x ∧ x < 256) (hN : Begins L N) :
    Calls Tryz.prog 6 #[.slice A n c] w fun e w' => ∃ v, e = .returned v ∧ w'.ownsRow w.heap.size 31 5 v N (insL (fun k => oOp (wAt L k)) (fun k => oD (wAt L k)) (fun k => oA (wAt L k)) (fun k => oB (wAt L k)) (fun k => oM (wAt L k)) N) ∧ Below w.heap.size w w' := by
  obtain ⟨i0, hi, hz0, hz1, hz2⟩ := info_parts Tryz.infoIns
  have H := Lib.hid h
  have HL := Lib.hid hL
  have HA := Lib.hid hA
  have HR := Lib.hid hr
  have HN := Lib.hid hN
  clear h hL hA hr hN
  go_enter Tryz.func6, Tryz.ntmps6
  go_wp2
  go_loopw [3, 4] (fun l i wr => ∃ k p : Nat, Hid (p = 4 * k) ∧ k ≤ N ∧ p ≤ n ∧ i = .int .i64 p ∧ wr.ownsRow w.heap.size 31 5 l k (insL (fun k => oOp (wAt L k)) (fun k => oD (wAt L k)) (fun k => oA (wAt L k)) (fun k => oB (wAt L k)) (fun k => oM (wAt L k)) k) ∧ Below w.heap.size w wr)
    (fun _ i _ => n + 4 - (intOf i).toNat)
  case atStart => exact ⟨0, 0, Lib.hid rfl, Nat.zero_le _, Nat.zero_le _, rfl, World.ownsRow_nil .., Below.refl _ _⟩
  case round =>
    obtain ⟨k, p, HP, hk, hpn, rfl, hown, hbw⟩ := hrel
    obtain ⟨sa, sc, rfl⟩ := own_sl hown
    have hk4 : k ≤ 1000 := by have := HP.out; omega
    have hp0 : (0 : Int) ≤ (p : Int) := by omega
    have hn' : (n : Int) ≤ 4000 := by omega
    have hpn' : (p : Int) ≤ (n : Int) := by omega
    have hnc' : (n : Int) ≤ (c : Int) := by omega
    by_cases hlt : p + 4 ≤ n
    · have hlt' : (p : Int) + 4 ≤ (n : Int) := by omega
      obtain ⟨ad, hAe⟩ : ∃ ad, A = some ad := by
        cases A with
        | none => have := HA.out rfl; omega
        | some ad => exact ⟨ad, rfl⟩
      subst hAe
      obtain ⟨B, o, rfl⟩ : ∃ B o, ad = ⟨B, o, none⟩ := spot_none (show w.cell? ad = _ from H.out ad rfl 0 (L[0]'(by have := HL.out; omega)) (List.getElem?_eq_getElem _))
      have HB := Lib.hid (H.out.below hbw)
      have HPL : Hid (p + 4 ≤ L.length) := Lib.hid (by rw [HL.out]; exact hlt)
      cases hw : isWord (wAt L k)
      · have HE : Hid (oE (wAt L k) = 4) := Lib.hid (by unfold oE; rw [hw]; rfl)
        have HK : Hid (k = N) := Lib.hid (by
          rcases Nat.lt_or_ge k N with h1 | h1
          · have := (okAt_parts (HN.out.1 k h1)).2; rw [hw] at this; cases this
          · omega)
        clear hw
        go_wp2_with (go_at_call 19; refine (rread_at HB.out HR.out HP.out HPL.out _ HE.out).mono ?_; rintro e w1 ⟨rfl, hb1⟩)
        go_ret
        exact ⟨_, rfl, by rw [← HK.out]; exact (own_below hown hb1).alloc _, Bl.alloc (Bl.step hbw hb1) _⟩
      · have HE : Hid (oE (wAt L k) = 0) := Lib.hid (by unfold oE; rw [hw]; rfl)
        have HK : Hid (k < N) := Lib.hid (by
          rcases Nat.lt_or_ge k N with h1 | h1
          · exact h1
          · obtain rfl : k = N := by omega
            have := HN.out.2
            unfold okAt at this
            rw [hw, Bool.and_true] at this
            have := of_decide_eq_false this
            have := HP.out; have := HPL.out; omega)
        clear hw
        go_wp2_with (first
          | (go_at_call 19; refine (rread_at HB.out HR.out HP.out HPL.out _ HE.out).mono ?_; rintro e w1 ⟨rfl, hb1⟩)
          | (at_builtin
             go_loud (refine wpList_append_own _ rfl _ _ 27 rfl w.heap.size 31 i0 (.agg #[.int .i64 0, .int .i64 0, .int .i64 0, .int .i64 0, .int .i64 0]) 5 40 Tryz.underlying27 hi hz0 hz1 hz2 rfl (by decide) (.slice sa k sc) k _ rfl (((own_below hown hb1).alloc _).alloc _) ⟨w1.heap.size + 1, 0, none⟩ 1 1 [.int .i64 (oOp (wAt L k)), .int .i64 (oD (wAt L k)), .int .i64 (oA (wAt L k)), .int .i64 (oB (wAt L k)), .int .i64 (oM (wAt L k))] rfl rfl (by have := cells_five_new (w1.alloc (.cells #[.int .i64 (oOp (wAt L k)), .int .i64 (oD (wAt L k)), .int .i64 (oA (wAt L k)), .int .i64 (oB (wAt L k)), .int .i64 (oM (wAt L k))] 31)) (.int .i64 (oOp (wAt L k))) (.int .i64 (oD (wAt L k))) (.int .i64 (oA (wAt L k))) (.int .i64 (oB (wAt L k))) (.int .i64 (oM (wAt L k))) 31; rwa [World.size_alloc] at this) (by simp [Value.oneCell']) (by unfold maxLen; omega) (by omega) (by have := hbw.size; have := hb1.size; simp; omega) ?_)
             intro v2 w2 h2 g2 _))
        go_roundw
        case rel => exact ⟨k + 1, p + 4, Lib.hid (by have := HP.out; omega), HK.out, hlt, by go_num, h2, (Bl.alloc (Bl.alloc (Bl.step hbw hb1) (.cells #[.int .i64 (oOp (wAt L k)), .int .i64 (oD (wAt L k)), .int .i64 (oA (wAt L k)), .int .i64 (oB (wAt L k)), .int .i64 (oM (wAt L k))] 31)) (.cells #[.int .i64 (oOp (wAt L k)), .int .i64 (oD (wAt L k)), .int .i64 (oA (wAt L k)), .int .i64 (oB (wAt L k)), .int .i64 (oM (wAt L k))] 31)).grown g2 (by have := hbw.size; have := hb1.size; simp; omega) (fun q e => (hown.lt q e).1)⟩
        case measure => simp [intOf]; omega
    · have HK : Hid (k = N) := Lib.hid (by
        rcases Nat.lt_or_ge k N with h1 | h1
        · have := (okAt_parts (HN.out.1 k h1)).1; have := HP.out; have := HL.out; omega
        · omega)
      have hlt' : (n : Int) < (p : Int) + 4 := by omega
      go_wp2
      go_ret
      exact ⟨_, rfl, by rw [← HK.out]; exact hown, hbw⟩

end Go.Proofs.YtnkkomodpjgefaaGreatDoor
