/- begin: extents and the document's over new disks. -/
import Derived.Test.YtgpdkfmneoggkaaExYb
namespace Go.Proofs.Ytgpdkfmneoggkaa
open Go.RowKit
attribute [local go_sem] Oper.semAt_some

theorem newD_len (n : Nat) : (newD (List.replicate n zeroS) 0).fl.length = n := List.length_replicate
theorem OwnQ.drewn {W : World} {g n : Nat} {qs : List Int} {k m : Nat} (h : OwnQ W g n qs k) : OwnQ (W.drewN m) g n qs k := ⟨h.row⟩
theorem results_cell_row2 {P : Program} {fn : Func} {p u : Tmp} {ty : TypeId} (h : fn.results = #[.cell p ty, .tmp u]) (tmps : Array Value) (w : World) (g : Nat) (t : TypeId) (cs : Array Value) (fr : Nat × Nat) (d : TypeDesc)
    (hp : tmps.getD p undef = .pointer (some ⟨g, 0, none⟩)) (hg : w.heap[g]? = some (.cells cs t fr))
    (hu : P.underlying ty = some d) (hd : (match d with | .struct _ | .array _ _ => true | _ => false) = true) (hi : (P.info? ty).map (·.size) = some cs.size) :
    (results fn tmps).run P w = .ok (.tuple #[.agg cs, tmps.getD u undef]) w := by
  have hp' : tmps[p]?.getD undef = .pointer (some ⟨g, 0, none⟩) := by simpa using hp
  simp [results, h, hp', asAddr, run_loadVar_row w g t ty cs fr d hg hu hd hi]
theorem row3 {W : World} {r : Nat} {t : TypeId} {a b c a' b' c' : Value} (h : W.heap[r]? = some (.cells #[a, b, c] t (0, 0))) : (((W.setCell ⟨r, 0, none⟩ a').setCell ⟨r, 1, none⟩ b').setCell ⟨r, 2, none⟩ c').heap[r]? = some (.cells #[a', b', c'] t (0, 0)) := by
  have e1 := heap_setCell_same W r 0 _ _ a' h
  have e2 := heap_setCell_same _ r 1 _ _ b' e1
  have e3 := heap_setCell_same _ r 2 _ _ c' e2
  simpa using e3
theorem Try.sBoth : (Try.prog.info? 30).map (·.size) = some 3 := by kernel_rfl
theorem own_cap {W : World} {B g cap k m : Nat} {xs : List Value} (h : W.ownsRow B 3 1 (.slice (some ⟨g, 0, none⟩) k cap) m xs) : m ≤ cap := by
  rcases h.2 with ⟨e, -⟩ | ⟨g', cap', cur, e, -, h2, h3, h4, h5, h6⟩
  · cases e
  · cases e; omega
theorem TurnO.drewn {W W' : World} {g k m : Nat} (h : TurnO (· = g) W W') (v : Value) (hg : g = g) : TurnO (· = g) W ((W'.setCell ⟨g, k, none⟩ v).drewN m) := (h.trans (TurnO.setCell (· = g) W' g k v rfl) (fun b hb => .inl hb)).trans (TurnO.of_below (bdN (Below.refl _ _) m) : TurnO (· = g) _ _) (fun b hb => .inl hb)
theorem TurnO.drewn2 {W W' : World} {g k m : Nat} (h : TurnO (· = g) W W') (v : Value) (m' : Nat) (hg : g = g) : TurnO (· = g) W ((W'.drewN m).setCell ⟨g, k, none⟩ v) := (h.trans (TurnO.of_below (bdN (Below.refl _ _) m) : TurnO (· = g) _ _) (fun b hb => .inl hb)).trans (TurnO.setCell (· = g) _ g k v rfl) (fun b hb => .inl hb)
set_option maxHeartbeats 4000000 in
set_option maxRecDepth 100000 in
theorem begin_size (w : World) (size : Int) (hsz : size < 1 ∨ 4096 < size) (A : Option Addr) (qs : List Int) (n c : Nat) (hn : qs.length = n) (hn2 : n ≤ 20) (hq : IntsIn w A qs) (hA : A = none → n = 0 ∧ c = 0) :
    Calls Try.prog 10 #[.int .i64 size, .slice A n c] w fun e w' => e = .returned (.tuple #[.agg #[.pointer none, .pointer none, .pointer none], .bool true]) ∧ Below w.heap.size w w' := by
  obtain ⟨iI, hiI, hzI, hsI, hbI⟩ := info_parts Try.infoI10
  have hbI : iI.bytes = 8 := hbI
  have HQ := Lib.hid hq
  have HN := Lib.hid hn
  clear hq hn
  go_enter Try.func10, Try.ntmps10
  go_wp2_with (go_at_call 19; refine (new_no9 size hsz _).mono ?_; rintro e w' ⟨rfl, rfl⟩)
  go_at_call 30
  refine Calls.mono (qnew_no9 size hsz _) ?_
  rintro e w3 ⟨rfl, rfl⟩
  have B3 := Lib.hid ((Below.refl _ w).alloc (Nat.le_refl _) (Obj.cells #[.pointer none, .pointer none, .pointer none] 30))
  have R3 := Lib.hid (heap_alloc_new w (Obj.cells #[.pointer none, .pointer none, .pointer none] 30))
  generalize w.alloc (Obj.cells #[.pointer none, .pointer none, .pointer none] 30) = w3 at B3 R3 ⊢
  have HN3 := Lib.hid (ints_news (HQ.out.step B3.out))
  go_wp2_with (first
    | (go_at_call 16; refine (num_any10 _ _).mono ?_; rintro e w' ⟨rfl, rfl⟩)
    | (at_builtin; refine app_opt8 rfl _ _ 22 rfl w3.heap.size 3 iI (.int .i64 0) 1 8 Try.underlying22 hiI hzI hsI hbI rfl (by decide) (.slice none 0 0) 0 [] rfl (World.ownsRow_nil ..) A n c (qs.map (Value.int .i64)) rfl hA (by simp [HN.out]) HN3.out (by intro v hv; obtain ⟨y, -, rfl⟩ := List.mem_map.1 hv; rfl) (by unfold maxLen; omega) (by omega) (Nat.le_refl _) ?_; intro v4 w4 ho4 hg4; have B4 := Lib.hid (show Below w3.heap.size w3 w4 from (Below.refl w3.heap.size w3).grown hg4 (Nat.le_refl _) (fun k e => by cases e)); have OW4 := Lib.hid ho4; have hz4 := B4.out.size; have nw4 := heap_alloc_new w4 (Obj.cells #[Value.int .i64 77] 3); clear ho4 hg4)
    | (at_builtin; refine wpList_append_own _ rfl _ _ 22 rfl w3.heap.size 3 iI (.int .i64 0) 1 8 Try.underlying22 hiI hzI hsI hbI rfl (by decide) _ _ _ rfl (OW4.out.alloc (Obj.cells #[Value.int .i64 77] 3)) ⟨w4.heap.size, 0, none⟩ 1 1 [.int .i64 77] rfl rfl (one_add _ _ _ _ nw4) (by simp [Value.oneCell']) (by unfold maxLen; omega) (by omega) (by simp; omega) ?_; intro v5 w5 ho5 hg5 _; have B5 := Lib.hid (show Below w3.heap.size w3 w5 from (B4.out.alloc hz4 (Obj.cells #[Value.int .i64 77] 3)).grown hg5 (by simp; omega) (fun k e => (OW4.out.lt k e).1)); obtain ⟨go, cap, rfl, hgo1, hgo2⟩ := ho5.form (by omega); have hcap : (n : Int) ≤ (cap : Int) := (by have := own_cap ho5; omega); have OW5 := Lib.hid ho5; clear ho5 hg5 nw4))
  have hI5 := own_ints (tl := [.int .i64 77]) (ints_bound HQ.out) OW5.out HN.out
  have HI5 := Lib.hid hI5
  have OQ5 := Lib.hid (OwnQ.of (tl := [.int .i64 77]) OW5.out HN.out)
  have hgo : w3.heap.size ≤ go ∧ go < w5.heap.size := OW5.out.lt go rfl
  clear hI5 hgo1
  go_at_call 20
  refine Calls.mono (xnew_no (.inl rfl) _ _ _) ?_
  rintro e w6 ⟨rfl, rfl⟩
  go_wp2_with fail
  go_at_call 31
  refine Calls.mono (qxnew_nil _ _ _ _) ?_
  rintro e w7 ⟨rfl, rfl⟩
  have B7 := Lib.hid (Below.refl w5.heap.size w5)
  have OQ7 := Lib.hid (show OwnQ w5 go n qs 0 from by obtain ⟨cs, h1, h2, h3⟩ := OQ5.out.row; exact ⟨cs, (B7.out.block go hgo.2).trans h1, h2, h3⟩)
  have B37 := Lib.hid (show Below w3.heap.size w3 w5 from B5.out.trans (B7.out.mono B5.out.size))
  have R7 := Lib.hid (show w5.heap[w.heap.size]? = some (Obj.cells #[.pointer none, .pointer none, .pointer none] 30 (0, 0)) from (B37.out.block _ (Array.getElem?_eq_some_iff.1 R3.out).1).trans R3.out)
  have hwgo : w.heap.size < go := by have := (Array.getElem?_eq_some_iff.1 R3.out).1; omega
  go_wp2_with fail
  go_loopg [14] n (fun g i W => ∃ k : Nat, k + g = n ∧ i = .int .i64 (k : Int) ∧ OwnQ W go n qs k ∧ TurnO (· = go) w5 W)
  case atStart => exact ⟨0, by omega, rfl, OQ7.out, TurnO.refl _ _⟩
  case round =>
    obtain ⟨k, hk, rfl, hOQ, hT⟩ := hrel
    have OQ := Lib.hid hOQ
    have HT := Lib.hid hT
    clear hOQ hT
    by_cases hlt : k < n
    · have hlt' : (k : Int) < (n : Int) := by omega
      obtain ⟨q0, hkq⟩ : ∃ q0, qs[k]? = some q0 := ⟨_, List.getElem?_eq_getElem (by rw [HN.out]; exact hlt)⟩
      have hIw : IntsIn wr A qs := fun j v hj => by
        obtain ⟨g, o, e, hc, hv⟩ := (HQ.out.step B3.out) j v hj
        have hl : g < w3.heap.size := World.block_lt_of_cell? w3 _ hc
        have hbl := B37.out.block g hl
        exact ⟨g, o, e, ((World.cell?_of_block (a := ⟨g, o + j, none⟩) (HT.out.block g (Nat.lt_of_lt_of_le hl B37.out.size) (by show ¬ g = go; omega))).trans (World.cell?_of_block (a := ⟨g, o + j, none⟩) hbl)).trans hc, hv⟩
      obtain ⟨ga, oa, eA, hc, -, -⟩ := hIw k q0 hkq
      obtain ⟨cs, h1, h2, h3⟩ := OQ.out.row
      have hc2 : wr.cell? ⟨go, k, none⟩ = some (.int .i64 q0) := by rw [cell_of_row _ _ _ _ _ _ h1]; exact h3 k q0 (Nat.le_refl _) hkq
      have hz := frozen_of_row _ _ k _ _ h1
      subst eA
      clear h1 h2 h3 hIw hkq
      go_wp2_with fail
      go_quiet (fail)
      go_wp2_with fail
      go_roundg (n - (k + 1))
      case measure => omega
      case rel => exact ⟨k + 1, by omega, by go_num, by first | exact OwnQ.drewn (OQ.out.set _) | exact (OQ.out.drewn).set _, by first | exact (HT.out.drewn _ rfl) | exact HT.out.drewn2 _ _ rfl⟩
    · obtain rfl : k = n := by omega
      have hlt' : ¬ (k : Int) < (k : Int) := by omega
      have RW := Lib.hid ((HT.out.block w.heap.size (by have := (Array.getElem?_eq_some_iff.1 R7.out).1; exact this) (by show ¬ w.heap.size = go; omega)).trans R7.out)
      have cc0 := cell_of_row _ _ 0 _ _ _ RW.out
      have cc1 := cell_of_row _ _ 1 _ _ _ RW.out
      have cc2 := cell_of_row _ _ 2 _ _ _ RW.out
      have ff := fun o => frozen_of_row _ _ o _ _ RW.out
      have BW := Lib.hid (show Below w.heap.size w wr from B3.out.trans ((B37.out.mono B3.out.size).trans (HT.out.below (by have := B3.out.size; have := B37.out.size; omega) (by intro b hb; show w.heap.size ≤ b; have : b = go := hb; omega))))
      go_wp2_with (go_at_call 16; refine (num_any10 _ _).mono ?_; rintro e w' ⟨rfl, rfl⟩)
      have BE := Lib.hid (show Below w.heap.size w (((wr.setCell ⟨w.heap.size, 0, none⟩ (.pointer none)).setCell ⟨w.heap.size, 1, none⟩ (.pointer none)).setCell ⟨w.heap.size, 2, none⟩ (.pointer none)) from ((BW.out.setCell (Nat.le_refl _) _).setCell (Nat.le_refl _) _).setCell (Nat.le_refl _) _)
      refine bodyPost_ret (results_cell_row2 rfl _ _ w.heap.size 30 #[.pointer none, .pointer none, .pointer none] (0, 0) _ rfl (row3 RW.out) Try.underlying30 rfl Try.sBoth) rfl ?_
      exact ⟨rfl, BE.out⟩
theorem newXt_fit {qs : List Int} {sz : Nat} (h : sumQ qs qs.length ≤ sz) (a : Nat) : ((newXt qs qs.length).pt a).fi + ((newXt qs qs.length).pt a).ct ≤ sz := by
  unfold newXt
  dsimp only
  by_cases ha : a < qs.length
  · rw [if_pos ha]
    have h1 := sumQ_succ (List.getElem?_eq_getElem ha)
    have h2 := sumQ_mono (qs := qs) (show a + 1 ≤ qs.length by omega)
    show sumQ qs a + (qs.getD a 0).toNat ≤ sz
    rw [List.getD_eq_getElem?_getD, List.getElem?_eq_getElem ha]
    show sumQ qs a + (qs[a]).toNat ≤ sz
    omega
  · rw [if_neg ha]; exact Nat.zero_le _
def BegOk (w : World) (sz : Nat) (qs : List Int) (e : Ending) (w' : World) : Prop :=
  ∃ x d q dq O L Y B, e = .returned (.tuple #[.agg #[.pointer (some ⟨x, 0, none⟩), .pointer (some ⟨d, 0, none⟩), .pointer (some ⟨q, 0, none⟩)], .bool true]) ∧ ExDk w' O x d L (newXt qs qs.length) (newD (List.replicate sz zeroS) 0) ∧ QxAt w' q dq Y (newXt qs qs.length) ∧ QdAt B sz sz (fun _ => zeroS) w' ∧ dq = B + 1 ∧ Below w.heap.size w w'
set_option maxHeartbeats 4000000 in
set_option maxRecDepth 100000 in
theorem begin_arg (w : World) (sz : Nat) (hs1 : 1 ≤ sz) (hs2 : sz ≤ 4096) (A : Option Addr) (qs : List Int) (n c : Nat) (hn : qs.length = n) (hn2 : n ≤ 20) (hq : IntsIn w A qs) (hA : A = none → n = 0 ∧ c = 0) (hbad : qs.length < 1 ∨ 8 < qs.length ∨ ∃ q ∈ qs, q < 0) :
    Calls Try.prog 10 #[.int .i64 (sz : Int), .slice A n c] w (fun e w' => ∃ d, e = .returned (.tuple #[.agg #[.pointer none, .pointer (some ⟨d, 0, none⟩), .pointer none], .bool true]) ∧ Below w.heap.size w w') := by
  obtain ⟨iI, hiI, hzI, hsI, hbI⟩ := info_parts Try.infoI10
  have hbI : iI.bytes = 8 := hbI
  have HQ := Lib.hid hq
  have HN := Lib.hid hn
  clear hq
  go_enter Try.func10, Try.ntmps10
  go_wp2_with fail
  go_at_call 19
  refine Calls.mono (new_yes9 sz hs1 hs2 _) ?_
  rintro e w2 ⟨d, O, L, rfl, hD, hO, hb2⟩
  have b0 := (Below.refl _ w).alloc (Nat.le_refl _) (Obj.cells #[.pointer none, .pointer none, .pointer none] 30)
  have r0 := heap_alloc_new w (Obj.cells #[.pointer none, .pointer none, .pointer none] 30)
  have B2 := Lib.hid (b0.trans (hb2.mono (by simp)))
  have R2 := Lib.hid ((hb2.block w.heap.size (by simp)).trans r0)
  have D2 := Lib.hid hD
  have O2 := Lib.hid (show ∀ k, O k → w.heap.size < k from fun k hk => by have := hO k hk; simp at this; omega)
  clear hD hO hb2 b0 r0
  go_wp2_with fail
  go_at_call 30
  refine Calls.mono (qnew_yes9 sz hs1 hs2 _) ?_
  rintro e w3 ⟨rfl, hQ, hb3⟩
  have D3 := Lib.hid (D2.out.step hb3)
  have Q3 := Lib.hid hQ
  have B3 := Lib.hid (B2.out.trans (hb3.mono B2.out.size))
  have hlt2 := (Array.getElem?_eq_some_iff.1 R2.out).1
  have R3 := Lib.hid ((hb3.block w.heap.size hlt2).trans R2.out)
  obtain ⟨dq, hdq⟩ : ∃ dq, w2.heap.size + 1 = dq := ⟨_, rfl⟩
  obtain ⟨Bq, hBq⟩ : ∃ Bq, w2.heap.size = Bq := ⟨_, rfl⟩
  have HDQ := Lib.hid (show Bq + 1 = dq by omega)
  rw [hdq]
  rw [hBq] at Q3
  have HBQ := Lib.hid (show w.heap.size < Bq from hBq ▸ hlt2)
  clear hQ hb3 hdq hBq D2 B2 R2 hlt2
  have HN3 := Lib.hid (ints_news (HQ.out.step B3.out))
  go_wp2_with (first
    | (go_at_call 16; refine (num_any10 _ _).mono ?_; rintro e w' ⟨rfl, rfl⟩)
    | (at_builtin; refine app_opt8 rfl _ _ 22 rfl w3.heap.size 3 iI (.int .i64 0) 1 8 Try.underlying22 hiI hzI hsI hbI rfl (by decide) (.slice none 0 0) 0 [] rfl (World.ownsRow_nil ..) A n c (qs.map (Value.int .i64)) rfl hA (by simp [HN.out]) HN3.out (by intro v hv; obtain ⟨y, -, rfl⟩ := List.mem_map.1 hv; rfl) (by unfold maxLen; omega) (by omega) (Nat.le_refl _) ?_; intro v4 w4 ho4 hg4; have B4 := Lib.hid (show Below w3.heap.size w3 w4 from (Below.refl w3.heap.size w3).grown hg4 (Nat.le_refl _) (fun k e => by cases e)); have OW4 := Lib.hid ho4; have hz4 := B4.out.size; have nw4 := heap_alloc_new w4 (Obj.cells #[Value.int .i64 77] 3); clear ho4 hg4)
    | (at_builtin; refine wpList_append_own _ rfl _ _ 22 rfl w3.heap.size 3 iI (.int .i64 0) 1 8 Try.underlying22 hiI hzI hsI hbI rfl (by decide) _ _ _ rfl (OW4.out.alloc (Obj.cells #[Value.int .i64 77] 3)) ⟨w4.heap.size, 0, none⟩ 1 1 [.int .i64 77] rfl rfl (one_add _ _ _ _ nw4) (by simp [Value.oneCell']) (by unfold maxLen; omega) (by omega) (by simp; omega) ?_; intro v5 w5 ho5 hg5 _; have B5 := Lib.hid (show Below w3.heap.size w3 w5 from (B4.out.alloc hz4 (Obj.cells #[Value.int .i64 77] 3)).grown hg5 (by simp; omega) (fun k e => (OW4.out.lt k e).1)); obtain ⟨go, cap, rfl, hgo1, hgo2⟩ := ho5.form (by omega); have hcap : (n : Int) ≤ (cap : Int) := (by have := own_cap ho5; omega); have OW5 := Lib.hid ho5; clear ho5 hg5 nw4))
  have hI5 := own_ints (tl := [.int .i64 77]) (ints_bound HQ.out) OW5.out HN.out
  have HI5 := Lib.hid hI5
  have OQ5 := Lib.hid (OwnQ.of (tl := [.int .i64 77]) OW5.out HN.out)
  have hgo : w3.heap.size ≤ go ∧ go < w5.heap.size := OW5.out.lt go rfl
  clear hI5 hgo1
  have D5 := Lib.hid (D3.out.step B5.out)
  have Q5 := Lib.hid (show QdAt Bq sz sz (fun _ => zeroS) w5 from by obtain ⟨v, b, h⟩ := Q3.out; exact ⟨v, b, h.keep B5.out⟩)
  go_at_call 20
  refine Calls.mono (xnew_arg D5.out _ qs n cap HN.out (by omega) HI5.out hbad) ?_
  rintro e w6 ⟨rfl, hb6⟩
  have B6 := Lib.hid hb6
  have Q6 := Lib.hid (show QdAt Bq sz sz (fun _ => zeroS) w6 from by obtain ⟨v, b, h⟩ := Q5.out; exact ⟨v, b, h.keep hb6⟩)
  clear hb6
  clear Q5
  go_wp2_with fail
  go_at_call 31
  obtain ⟨vq, bq, hq6⟩ := Q6.out
  obtain ⟨gq, cq, rfl⟩ := hq6.row hs1
  have hd6 := hq6.c0
  rw [HDQ.out] at hd6
  have HD6 := Lib.hid hd6
  clear hq6 hd6
  refine Calls.mono (qxnew_arg (HD6.out) hs1 hs2 A qs n c HN.out (by omega) (HQ.out.step (B3.out.trans ((B5.out.trans (B6.out.mono B5.out.size)).mono B3.out.size))) hbad) ?_
  rintro e w7 ⟨rfl, hb7⟩
  have B7 := Lib.hid (B6.out.trans (hb7.mono B6.out.size))
  have Q7 := Lib.hid (show QdAt Bq sz sz (fun _ => zeroS) w7 from by obtain ⟨v, b, h⟩ := Q6.out; exact ⟨v, b, h.keep hb7⟩)
  have D7 := Lib.hid (D5.out.step B7.out)
  clear hb7 Q6 D5 HD6
  have OQ7 := Lib.hid (show OwnQ w7 go n qs 0 from by obtain ⟨cs, h1, h2, h3⟩ := OQ5.out.row; exact ⟨cs, (B7.out.block go hgo.2).trans h1, h2, h3⟩)
  have B37 := Lib.hid (show Below w3.heap.size w3 w7 from B5.out.trans (B7.out.mono B5.out.size))
  have R7 := Lib.hid (show w7.heap[w.heap.size]? = some (Obj.cells #[.pointer none, .pointer none, .pointer none] 30 (0, 0)) from (B37.out.block _ (Array.getElem?_eq_some_iff.1 R3.out).1).trans R3.out)
  have hwgo : w.heap.size < go := by have := (Array.getElem?_eq_some_iff.1 R3.out).1; omega
  go_wp2_with fail
  go_loopg [14] n (fun g i W => ∃ k : Nat, k + g = n ∧ i = .int .i64 (k : Int) ∧ OwnQ W go n qs k ∧ TurnO (· = go) w7 W)
  case atStart => exact ⟨0, by omega, rfl, OQ7.out, TurnO.refl _ _⟩
  case round =>
    obtain ⟨k, hk, rfl, hOQ, hT⟩ := hrel
    have OQ := Lib.hid hOQ
    have HT := Lib.hid hT
    clear hOQ hT
    by_cases hlt : k < n
    · have hlt' : (k : Int) < (n : Int) := by omega
      obtain ⟨q0, hkq⟩ : ∃ q0, qs[k]? = some q0 := ⟨_, List.getElem?_eq_getElem (by rw [HN.out]; exact hlt)⟩
      have hIw : IntsIn wr A qs := fun j v hj => by
        obtain ⟨g, o, e, hc, hv⟩ := (HQ.out.step B3.out) j v hj
        have hl : g < w3.heap.size := World.block_lt_of_cell? w3 _ hc
        have hbl := B37.out.block g hl
        exact ⟨g, o, e, ((World.cell?_of_block (a := ⟨g, o + j, none⟩) (HT.out.block g (Nat.lt_of_lt_of_le hl B37.out.size) (by show ¬ g = go; omega))).trans (World.cell?_of_block (a := ⟨g, o + j, none⟩) hbl)).trans hc, hv⟩
      obtain ⟨ga, oa, eA, hc, -, -⟩ := hIw k q0 hkq
      obtain ⟨cs, h1, h2, h3⟩ := OQ.out.row
      have hc2 : wr.cell? ⟨go, k, none⟩ = some (.int .i64 q0) := by rw [cell_of_row _ _ _ _ _ _ h1]; exact h3 k q0 (Nat.le_refl _) hkq
      have hz := frozen_of_row _ _ k _ _ h1
      subst eA
      clear h1 h2 h3 hIw hkq
      go_wp2_with fail
      go_quiet (fail)
      go_wp2_with fail
      go_roundg (n - (k + 1))
      case measure => omega
      case rel => exact ⟨k + 1, by omega, by go_num, by first | exact OwnQ.drewn (OQ.out.set _) | exact (OQ.out.drewn).set _, by first | exact (HT.out.drewn _ rfl) | exact HT.out.drewn2 _ _ rfl⟩
    · obtain rfl : k = n := by omega
      have hlt' : ¬ (k : Int) < (k : Int) := by omega
      have RW := Lib.hid ((HT.out.block w.heap.size (by have := (Array.getElem?_eq_some_iff.1 R7.out).1; exact this) (by show ¬ w.heap.size = go; omega)).trans R7.out)
      have cc0 := cell_of_row _ _ 0 _ _ _ RW.out
      have cc1 := cell_of_row _ _ 1 _ _ _ RW.out
      have cc2 := cell_of_row _ _ 2 _ _ _ RW.out
      have ff := fun o => frozen_of_row _ _ o _ _ RW.out
      have BW := Lib.hid (show Below w.heap.size w wr from B3.out.trans ((B37.out.mono B3.out.size).trans (HT.out.below (by have := B3.out.size; have := B37.out.size; omega) (by intro b hb; show w.heap.size ≤ b; have : b = go := hb; omega))))
      go_wp2_with (go_at_call 16; refine (num_any10 _ _).mono ?_; rintro e w' ⟨rfl, rfl⟩)
      have BE := Lib.hid (show Below w.heap.size w (((wr.setCell ⟨w.heap.size, 0, none⟩ (.pointer none)).setCell ⟨w.heap.size, 1, none⟩ (.pointer (some ⟨d, 0, none⟩))).setCell ⟨w.heap.size, 2, none⟩ (.pointer none)) from ((BW.out.setCell (Nat.le_refl _) _).setCell (Nat.le_refl _) _).setCell (Nat.le_refl _) _)
      refine bodyPost_ret (results_cell_row2 rfl _ _ w.heap.size 30 #[.pointer none, .pointer (some ⟨d, 0, none⟩), .pointer none] (0, 0) _ rfl (row3 RW.out) Try.underlying30 rfl Try.sBoth) rfl ?_
      exact ⟨d, rfl, BE.out⟩
set_option maxHeartbeats 4000000 in
set_option maxRecDepth 100000 in
theorem begin_full (w : World) (sz : Nat) (hs1 : 1 ≤ sz) (hs2 : sz ≤ 4096) (A : Option Addr) (qs : List Int) (n c : Nat) (hn : qs.length = n) (hn2 : n ≤ 20) (hq : IntsIn w A qs) (hA : A = none → n = 0 ∧ c = 0) (h1 : 1 ≤ n) (h8 : n ≤ 8) (hpos : ∀ q ∈ qs, 0 ≤ q) (hfull : sz < sumQ qs qs.length) :
    Calls Try.prog 10 #[.int .i64 (sz : Int), .slice A n c] w (fun e w' => ∃ d, e = .returned (.tuple #[.agg #[.pointer none, .pointer (some ⟨d, 0, none⟩), .pointer none], .bool true]) ∧ Below w.heap.size w w') := by
  obtain ⟨iI, hiI, hzI, hsI, hbI⟩ := info_parts Try.infoI10
  have hbI : iI.bytes = 8 := hbI
  have HQ := Lib.hid hq
  have HN := Lib.hid hn
  clear hq
  go_enter Try.func10, Try.ntmps10
  go_wp2_with fail
  go_at_call 19
  refine Calls.mono (new_yes9 sz hs1 hs2 _) ?_
  rintro e w2 ⟨d, O, L, rfl, hD, hO, hb2⟩
  have b0 := (Below.refl _ w).alloc (Nat.le_refl _) (Obj.cells #[.pointer none, .pointer none, .pointer none] 30)
  have r0 := heap_alloc_new w (Obj.cells #[.pointer none, .pointer none, .pointer none] 30)
  have B2 := Lib.hid (b0.trans (hb2.mono (by simp)))
  have R2 := Lib.hid ((hb2.block w.heap.size (by simp)).trans r0)
  have D2 := Lib.hid hD
  have O2 := Lib.hid (show ∀ k, O k → w.heap.size < k from fun k hk => by have := hO k hk; simp at this; omega)
  clear hD hO hb2 b0 r0
  go_wp2_with fail
  go_at_call 30
  refine Calls.mono (qnew_yes9 sz hs1 hs2 _) ?_
  rintro e w3 ⟨rfl, hQ, hb3⟩
  have D3 := Lib.hid (D2.out.step hb3)
  have Q3 := Lib.hid hQ
  have B3 := Lib.hid (B2.out.trans (hb3.mono B2.out.size))
  have hlt2 := (Array.getElem?_eq_some_iff.1 R2.out).1
  have R3 := Lib.hid ((hb3.block w.heap.size hlt2).trans R2.out)
  obtain ⟨dq, hdq⟩ : ∃ dq, w2.heap.size + 1 = dq := ⟨_, rfl⟩
  obtain ⟨Bq, hBq⟩ : ∃ Bq, w2.heap.size = Bq := ⟨_, rfl⟩
  have HDQ := Lib.hid (show Bq + 1 = dq by omega)
  rw [hdq]
  rw [hBq] at Q3
  have HBQ := Lib.hid (show w.heap.size < Bq from hBq ▸ hlt2)
  clear hQ hb3 hdq hBq D2 B2 R2 hlt2
  have HN3 := Lib.hid (ints_news (HQ.out.step B3.out))
  go_wp2_with (first
    | (go_at_call 16; refine (num_any10 _ _).mono ?_; rintro e w' ⟨rfl, rfl⟩)
    | (at_builtin; refine app_opt8 rfl _ _ 22 rfl w3.heap.size 3 iI (.int .i64 0) 1 8 Try.underlying22 hiI hzI hsI hbI rfl (by decide) (.slice none 0 0) 0 [] rfl (World.ownsRow_nil ..) A n c (qs.map (Value.int .i64)) rfl hA (by simp [HN.out]) HN3.out (by intro v hv; obtain ⟨y, -, rfl⟩ := List.mem_map.1 hv; rfl) (by unfold maxLen; omega) (by omega) (Nat.le_refl _) ?_; intro v4 w4 ho4 hg4; have B4 := Lib.hid (show Below w3.heap.size w3 w4 from (Below.refl w3.heap.size w3).grown hg4 (Nat.le_refl _) (fun k e => by cases e)); have OW4 := Lib.hid ho4; have hz4 := B4.out.size; have nw4 := heap_alloc_new w4 (Obj.cells #[Value.int .i64 77] 3); clear ho4 hg4)
    | (at_builtin; refine wpList_append_own _ rfl _ _ 22 rfl w3.heap.size 3 iI (.int .i64 0) 1 8 Try.underlying22 hiI hzI hsI hbI rfl (by decide) _ _ _ rfl (OW4.out.alloc (Obj.cells #[Value.int .i64 77] 3)) ⟨w4.heap.size, 0, none⟩ 1 1 [.int .i64 77] rfl rfl (one_add _ _ _ _ nw4) (by simp [Value.oneCell']) (by unfold maxLen; omega) (by omega) (by simp; omega) ?_; intro v5 w5 ho5 hg5 _; have B5 := Lib.hid (show Below w3.heap.size w3 w5 from (B4.out.alloc hz4 (Obj.cells #[Value.int .i64 77] 3)).grown hg5 (by simp; omega) (fun k e => (OW4.out.lt k e).1)); obtain ⟨go, cap, rfl, hgo1, hgo2⟩ := ho5.form (by omega); have hcap : (n : Int) ≤ (cap : Int) := (by have := own_cap ho5; omega); have OW5 := Lib.hid ho5; clear ho5 hg5 nw4))
  have hI5 := own_ints (tl := [.int .i64 77]) (ints_bound HQ.out) OW5.out HN.out
  have HI5 := Lib.hid hI5
  have OQ5 := Lib.hid (OwnQ.of (tl := [.int .i64 77]) OW5.out HN.out)
  have hgo : w3.heap.size ≤ go ∧ go < w5.heap.size := OW5.out.lt go rfl
  clear hI5 hgo1
  have D5 := Lib.hid (D3.out.step B5.out)
  have Q5 := Lib.hid (show QdAt Bq sz sz (fun _ => zeroS) w5 from by obtain ⟨v, b, h⟩ := Q3.out; exact ⟨v, b, h.keep B5.out⟩)
  go_at_call 20
  refine Calls.mono (xnew_full D5.out _ qs n cap HN.out (by omega) HI5.out (by rw [HN.out]; omega) (by rw [HN.out]; omega) hpos (by rw [newD_len]; exact hfull)) ?_
  rintro e w6 ⟨rfl, hb6⟩
  have B6 := Lib.hid hb6
  have Q6 := Lib.hid (show QdAt Bq sz sz (fun _ => zeroS) w6 from by obtain ⟨v, b, h⟩ := Q5.out; exact ⟨v, b, h.keep hb6⟩)
  clear hb6
  clear Q5
  go_wp2_with fail
  go_at_call 31
  obtain ⟨vq, bq, hq6⟩ := Q6.out
  obtain ⟨gq, cq, rfl⟩ := hq6.row hs1
  have hd6 := hq6.c0
  rw [HDQ.out] at hd6
  have HD6 := Lib.hid hd6
  clear hq6 hd6
  refine Calls.mono (qxnew_full (HD6.out) hs1 hs2 A qs n c HN.out (by omega) (HQ.out.step (B3.out.trans ((B5.out.trans (B6.out.mono B5.out.size)).mono B3.out.size))) (by rw [HN.out]; omega) (by rw [HN.out]; omega) hpos hfull) ?_
  rintro e w7 ⟨rfl, hb7⟩
  have B7 := Lib.hid (B6.out.trans (hb7.mono B6.out.size))
  have Q7 := Lib.hid (show QdAt Bq sz sz (fun _ => zeroS) w7 from by obtain ⟨v, b, h⟩ := Q6.out; exact ⟨v, b, h.keep hb7⟩)
  have D7 := Lib.hid (D5.out.step B7.out)
  clear hb7 Q6 D5 HD6
  have OQ7 := Lib.hid (show OwnQ w7 go n qs 0 from by obtain ⟨cs, h1, h2, h3⟩ := OQ5.out.row; exact ⟨cs, (B7.out.block go hgo.2).trans h1, h2, h3⟩)
  have B37 := Lib.hid (show Below w3.heap.size w3 w7 from B5.out.trans (B7.out.mono B5.out.size))
  have R7 := Lib.hid (show w7.heap[w.heap.size]? = some (Obj.cells #[.pointer none, .pointer none, .pointer none] 30 (0, 0)) from (B37.out.block _ (Array.getElem?_eq_some_iff.1 R3.out).1).trans R3.out)
  have hwgo : w.heap.size < go := by have := (Array.getElem?_eq_some_iff.1 R3.out).1; omega
  go_wp2_with fail
  go_loopg [14] n (fun g i W => ∃ k : Nat, k + g = n ∧ i = .int .i64 (k : Int) ∧ OwnQ W go n qs k ∧ TurnO (· = go) w7 W)
  case atStart => exact ⟨0, by omega, rfl, OQ7.out, TurnO.refl _ _⟩
  case round =>
    obtain ⟨k, hk, rfl, hOQ, hT⟩ := hrel
    have OQ := Lib.hid hOQ
    have HT := Lib.hid hT
    clear hOQ hT
    by_cases hlt : k < n
    · have hlt' : (k : Int) < (n : Int) := by omega
      obtain ⟨q0, hkq⟩ : ∃ q0, qs[k]? = some q0 := ⟨_, List.getElem?_eq_getElem (by rw [HN.out]; exact hlt)⟩
      have hIw : IntsIn wr A qs := fun j v hj => by
        obtain ⟨g, o, e, hc, hv⟩ := (HQ.out.step B3.out) j v hj
        have hl : g < w3.heap.size := World.block_lt_of_cell? w3 _ hc
        have hbl := B37.out.block g hl
        exact ⟨g, o, e, ((World.cell?_of_block (a := ⟨g, o + j, none⟩) (HT.out.block g (Nat.lt_of_lt_of_le hl B37.out.size) (by show ¬ g = go; omega))).trans (World.cell?_of_block (a := ⟨g, o + j, none⟩) hbl)).trans hc, hv⟩
      obtain ⟨ga, oa, eA, hc, -, -⟩ := hIw k q0 hkq
      obtain ⟨cs, h1, h2, h3⟩ := OQ.out.row
      have hc2 : wr.cell? ⟨go, k, none⟩ = some (.int .i64 q0) := by rw [cell_of_row _ _ _ _ _ _ h1]; exact h3 k q0 (Nat.le_refl _) hkq
      have hz := frozen_of_row _ _ k _ _ h1
      subst eA
      clear h1 h2 h3 hIw hkq
      go_wp2_with fail
      go_quiet (fail)
      go_wp2_with fail
      go_roundg (n - (k + 1))
      case measure => omega
      case rel => exact ⟨k + 1, by omega, by go_num, by first | exact OwnQ.drewn (OQ.out.set _) | exact (OQ.out.drewn).set _, by first | exact (HT.out.drewn _ rfl) | exact HT.out.drewn2 _ _ rfl⟩
    · obtain rfl : k = n := by omega
      have hlt' : ¬ (k : Int) < (k : Int) := by omega
      have RW := Lib.hid ((HT.out.block w.heap.size (by have := (Array.getElem?_eq_some_iff.1 R7.out).1; exact this) (by show ¬ w.heap.size = go; omega)).trans R7.out)
      have cc0 := cell_of_row _ _ 0 _ _ _ RW.out
      have cc1 := cell_of_row _ _ 1 _ _ _ RW.out
      have cc2 := cell_of_row _ _ 2 _ _ _ RW.out
      have ff := fun o => frozen_of_row _ _ o _ _ RW.out
      have BW := Lib.hid (show Below w.heap.size w wr from B3.out.trans ((B37.out.mono B3.out.size).trans (HT.out.below (by have := B3.out.size; have := B37.out.size; omega) (by intro b hb; show w.heap.size ≤ b; have : b = go := hb; omega))))
      go_wp2_with (go_at_call 16; refine (num_any10 _ _).mono ?_; rintro e w' ⟨rfl, rfl⟩)
      have BE := Lib.hid (show Below w.heap.size w (((wr.setCell ⟨w.heap.size, 0, none⟩ (.pointer none)).setCell ⟨w.heap.size, 1, none⟩ (.pointer (some ⟨d, 0, none⟩))).setCell ⟨w.heap.size, 2, none⟩ (.pointer none)) from ((BW.out.setCell (Nat.le_refl _) _).setCell (Nat.le_refl _) _).setCell (Nat.le_refl _) _)
      refine bodyPost_ret (results_cell_row2 rfl _ _ w.heap.size 30 #[.pointer none, .pointer (some ⟨d, 0, none⟩), .pointer none] (0, 0) _ rfl (row3 RW.out) Try.underlying30 rfl Try.sBoth) rfl ?_
      exact ⟨d, rfl, BE.out⟩
set_option maxHeartbeats 4000000 in
set_option maxRecDepth 100000 in
theorem begin_ok (w : World) (sz : Nat) (hs1 : 1 ≤ sz) (hs2 : sz ≤ 4096) (A : Option Addr) (qs : List Int) (n c : Nat) (hn : qs.length = n) (hn2 : n ≤ 20) (hq : IntsIn w A qs) (hA : A = none → n = 0 ∧ c = 0) (h1 : 1 ≤ n) (h8 : n ≤ 8) (hpos : ∀ q ∈ qs, 0 ≤ q) (hfit : sumQ qs qs.length ≤ sz) :
    Calls Try.prog 10 #[.int .i64 (sz : Int), .slice A n c] w (BegOk w sz qs) := by
  obtain ⟨iI, hiI, hzI, hsI, hbI⟩ := info_parts Try.infoI10
  have hbI : iI.bytes = 8 := hbI
  have HQ := Lib.hid hq
  have HN := Lib.hid hn
  clear hq
  go_enter Try.func10, Try.ntmps10
  go_wp2_with fail
  go_at_call 19
  refine Calls.mono (new_yes9 sz hs1 hs2 _) ?_
  rintro e w2 ⟨d, O, L, rfl, hD, hO, hb2⟩
  have b0 := (Below.refl _ w).alloc (Nat.le_refl _) (Obj.cells #[.pointer none, .pointer none, .pointer none] 30)
  have r0 := heap_alloc_new w (Obj.cells #[.pointer none, .pointer none, .pointer none] 30)
  have B2 := Lib.hid (b0.trans (hb2.mono (by simp)))
  have R2 := Lib.hid ((hb2.block w.heap.size (by simp)).trans r0)
  have D2 := Lib.hid hD
  have O2 := Lib.hid (show ∀ k, O k → w.heap.size < k from fun k hk => by have := hO k hk; simp at this; omega)
  clear hD hO hb2 b0 r0
  go_wp2_with fail
  go_at_call 30
  refine Calls.mono (qnew_yes9 sz hs1 hs2 _) ?_
  rintro e w3 ⟨rfl, hQ, hb3⟩
  have D3 := Lib.hid (D2.out.step hb3)
  have Q3 := Lib.hid hQ
  have B3 := Lib.hid (B2.out.trans (hb3.mono B2.out.size))
  have hlt2 := (Array.getElem?_eq_some_iff.1 R2.out).1
  have R3 := Lib.hid ((hb3.block w.heap.size hlt2).trans R2.out)
  obtain ⟨dq, hdq⟩ : ∃ dq, w2.heap.size + 1 = dq := ⟨_, rfl⟩
  obtain ⟨Bq, hBq⟩ : ∃ Bq, w2.heap.size = Bq := ⟨_, rfl⟩
  have HDQ := Lib.hid (show Bq + 1 = dq by omega)
  rw [hdq]
  rw [hBq] at Q3
  have HBQ := Lib.hid (show w.heap.size < Bq from hBq ▸ hlt2)
  clear hQ hb3 hdq hBq D2 B2 R2 hlt2
  have HN3 := Lib.hid (ints_news (HQ.out.step B3.out))
  go_wp2_with (first
    | (go_at_call 16; refine (num_any10 _ _).mono ?_; rintro e w' ⟨rfl, rfl⟩)
    | (at_builtin; refine app_opt8 rfl _ _ 22 rfl w3.heap.size 3 iI (.int .i64 0) 1 8 Try.underlying22 hiI hzI hsI hbI rfl (by decide) (.slice none 0 0) 0 [] rfl (World.ownsRow_nil ..) A n c (qs.map (Value.int .i64)) rfl hA (by simp [HN.out]) HN3.out (by intro v hv; obtain ⟨y, -, rfl⟩ := List.mem_map.1 hv; rfl) (by unfold maxLen; omega) (by omega) (Nat.le_refl _) ?_; intro v4 w4 ho4 hg4; have B4 := Lib.hid (show Below w3.heap.size w3 w4 from (Below.refl w3.heap.size w3).grown hg4 (Nat.le_refl _) (fun k e => by cases e)); have OW4 := Lib.hid ho4; have hz4 := B4.out.size; have nw4 := heap_alloc_new w4 (Obj.cells #[Value.int .i64 77] 3); clear ho4 hg4)
    | (at_builtin; refine wpList_append_own _ rfl _ _ 22 rfl w3.heap.size 3 iI (.int .i64 0) 1 8 Try.underlying22 hiI hzI hsI hbI rfl (by decide) _ _ _ rfl (OW4.out.alloc (Obj.cells #[Value.int .i64 77] 3)) ⟨w4.heap.size, 0, none⟩ 1 1 [.int .i64 77] rfl rfl (one_add _ _ _ _ nw4) (by simp [Value.oneCell']) (by unfold maxLen; omega) (by omega) (by simp; omega) ?_; intro v5 w5 ho5 hg5 _; have B5 := Lib.hid (show Below w3.heap.size w3 w5 from (B4.out.alloc hz4 (Obj.cells #[Value.int .i64 77] 3)).grown hg5 (by simp; omega) (fun k e => (OW4.out.lt k e).1)); obtain ⟨go, cap, rfl, hgo1, hgo2⟩ := ho5.form (by omega); have hcap : (n : Int) ≤ (cap : Int) := (by have := own_cap ho5; omega); have OW5 := Lib.hid ho5; clear ho5 hg5 nw4))
  have hI5 := own_ints (tl := [.int .i64 77]) (ints_bound HQ.out) OW5.out HN.out
  have HI5 := Lib.hid hI5
  have OQ5 := Lib.hid (OwnQ.of (tl := [.int .i64 77]) OW5.out HN.out)
  have hgo : w3.heap.size ≤ go ∧ go < w5.heap.size := OW5.out.lt go rfl
  clear hI5 hgo1
  have D5 := Lib.hid (D3.out.step B5.out)
  have Q5 := Lib.hid (show QdAt Bq sz sz (fun _ => zeroS) w5 from by obtain ⟨v, b, h⟩ := Q3.out; exact ⟨v, b, h.keep B5.out⟩)
  go_at_call 20
  refine Calls.mono (xnew_ok D5.out _ qs n cap HN.out (by omega) HI5.out (by rw [HN.out]; omega) (by rw [HN.out]; omega) hpos (by rw [newD_len]; omega)) ?_
  rintro e w6 ⟨x, rfl, hE, hx, hb6⟩
  have B6 := Lib.hid hb6
  have Q6 := Lib.hid (show QdAt Bq sz sz (fun _ => zeroS) w6 from by obtain ⟨v, b, h⟩ := Q5.out; exact ⟨v, b, h.keep hb6⟩)
  have E6 := Lib.hid hE
  have HX := Lib.hid hx
  clear hb6 hE hx
  clear Q5
  go_wp2_with fail
  go_at_call 31
  obtain ⟨vq, bq, hq6⟩ := Q6.out
  obtain ⟨gq, cq, rfl⟩ := hq6.row hs1
  have hd6 := hq6.c0
  rw [HDQ.out] at hd6
  have HD6 := Lib.hid hd6
  clear hq6 hd6
  refine Calls.mono (qxnew_ok (HD6.out) hs1 hs2 A qs n c HN.out (by omega) (HQ.out.step (B3.out.trans ((B5.out.trans (B6.out.mono B5.out.size)).mono B3.out.size))) (by rw [HN.out]; omega) (by rw [HN.out]; omega) hpos (by omega)) ?_
  rintro e w7 ⟨q, Y, rfl, hX7, hLo, hb7⟩
  have B7 := Lib.hid (B6.out.trans (hb7.mono B6.out.size))
  have Q7 := Lib.hid (show QdAt Bq sz sz (fun _ => zeroS) w7 from by obtain ⟨v, b, h⟩ := Q6.out; exact ⟨v, b, h.keep hb7⟩)
  have X7 := Lib.hid hX7
  have LO7 := Lib.hid hLo
  have S67 := Lib.hid B6.out.size
  have E7 := Lib.hid (E6.out.step hb7)
  have D7 := Lib.hid (D5.out.step B7.out)
  clear hb7 Q6 D5 HD6 hX7 hLo E6
  have OQ7 := Lib.hid (show OwnQ w7 go n qs 0 from by obtain ⟨cs, h1, h2, h3⟩ := OQ5.out.row; exact ⟨cs, (B7.out.block go hgo.2).trans h1, h2, h3⟩)
  have B37 := Lib.hid (show Below w3.heap.size w3 w7 from B5.out.trans (B7.out.mono B5.out.size))
  have R7 := Lib.hid (show w7.heap[w.heap.size]? = some (Obj.cells #[.pointer none, .pointer none, .pointer none] 30 (0, 0)) from (B37.out.block _ (Array.getElem?_eq_some_iff.1 R3.out).1).trans R3.out)
  have hwgo : w.heap.size < go := by have := (Array.getElem?_eq_some_iff.1 R3.out).1; omega
  go_wp2_with fail
  go_loopg [14] n (fun g i W => ∃ k : Nat, k + g = n ∧ i = .int .i64 (k : Int) ∧ OwnQ W go n qs k ∧ TurnO (· = go) w7 W)
  case atStart => exact ⟨0, by omega, rfl, OQ7.out, TurnO.refl _ _⟩
  case round =>
    obtain ⟨k, hk, rfl, hOQ, hT⟩ := hrel
    have OQ := Lib.hid hOQ
    have HT := Lib.hid hT
    clear hOQ hT
    by_cases hlt : k < n
    · have hlt' : (k : Int) < (n : Int) := by omega
      obtain ⟨q0, hkq⟩ : ∃ q0, qs[k]? = some q0 := ⟨_, List.getElem?_eq_getElem (by rw [HN.out]; exact hlt)⟩
      have hIw : IntsIn wr A qs := fun j v hj => by
        obtain ⟨g, o, e, hc, hv⟩ := (HQ.out.step B3.out) j v hj
        have hl : g < w3.heap.size := World.block_lt_of_cell? w3 _ hc
        have hbl := B37.out.block g hl
        exact ⟨g, o, e, ((World.cell?_of_block (a := ⟨g, o + j, none⟩) (HT.out.block g (Nat.lt_of_lt_of_le hl B37.out.size) (by show ¬ g = go; omega))).trans (World.cell?_of_block (a := ⟨g, o + j, none⟩) hbl)).trans hc, hv⟩
      obtain ⟨ga, oa, eA, hc, -, -⟩ := hIw k q0 hkq
      obtain ⟨cs, h1, h2, h3⟩ := OQ.out.row
      have hc2 : wr.cell? ⟨go, k, none⟩ = some (.int .i64 q0) := by rw [cell_of_row _ _ _ _ _ _ h1]; exact h3 k q0 (Nat.le_refl _) hkq
      have hz := frozen_of_row _ _ k _ _ h1
      subst eA
      clear h1 h2 h3 hIw hkq
      go_wp2_with fail
      go_quiet (fail)
      go_wp2_with fail
      go_roundg (n - (k + 1))
      case measure => omega
      case rel => exact ⟨k + 1, by omega, by go_num, by first | exact OwnQ.drewn (OQ.out.set _) | exact (OQ.out.drewn).set _, by first | exact (HT.out.drewn _ rfl) | exact HT.out.drewn2 _ _ rfl⟩
    · obtain rfl : k = n := by omega
      have hlt' : ¬ (k : Int) < (k : Int) := by omega
      have RW := Lib.hid ((HT.out.block w.heap.size (by have := (Array.getElem?_eq_some_iff.1 R7.out).1; exact this) (by show ¬ w.heap.size = go; omega)).trans R7.out)
      have cc0 := cell_of_row _ _ 0 _ _ _ RW.out
      have cc1 := cell_of_row _ _ 1 _ _ _ RW.out
      have cc2 := cell_of_row _ _ 2 _ _ _ RW.out
      have ff := fun o => frozen_of_row _ _ o _ _ RW.out
      have BW := Lib.hid (show Below w.heap.size w wr from B3.out.trans ((B37.out.mono B3.out.size).trans (HT.out.below (by have := B3.out.size; have := B37.out.size; omega) (by intro b hb; show w.heap.size ≤ b; have : b = go := hb; omega))))
      go_wp2_with (go_at_call 16; refine (num_any10 _ _).mono ?_; rintro e w' ⟨rfl, rfl⟩)
      have BE := Lib.hid (show Below w.heap.size w (((wr.setCell ⟨w.heap.size, 0, none⟩ (.pointer (some ⟨x, 0, none⟩))).setCell ⟨w.heap.size, 1, none⟩ (.pointer (some ⟨d, 0, none⟩))).setCell ⟨w.heap.size, 2, none⟩ (.pointer (some ⟨q, 0, none⟩))) from ((BW.out.setCell (Nat.le_refl _) _).setCell (Nat.le_refl _) _).setCell (Nat.le_refl _) _)
      refine bodyPost_ret (results_cell_row2 rfl _ _ w.heap.size 30 #[.pointer (some ⟨x, 0, none⟩), .pointer (some ⟨d, 0, none⟩), .pointer (some ⟨q, 0, none⟩)] (0, 0) _ rfl (row3 RW.out) Try.underlying30 rfl Try.sBoth) rfl ?_
      have eqS : ∀ b, b ≠ w.heap.size → (((wr.setCell ⟨w.heap.size, 0, none⟩ (.pointer (some ⟨x, 0, none⟩))).setCell ⟨w.heap.size, 1, none⟩ (.pointer (some ⟨d, 0, none⟩))).setCell ⟨w.heap.size, 2, none⟩ (.pointer (some ⟨q, 0, none⟩))).heap[b]? = wr.heap[b]? := fun b hb => ((heap_setCell_other _ _ _ _ hb).trans (heap_setCell_other _ _ _ _ hb)).trans (heap_setCell_other _ _ _ _ hb)
      have s3 := B3.out.size
      have s37 := B37.out.size
      have s57 := B7.out.size
      have s6 := S67.out
      have hE7 : ∀ b, w5.heap.size ≤ b → b < w7.heap.size → (((wr.setCell ⟨w.heap.size, 0, none⟩ (.pointer (some ⟨x, 0, none⟩))).setCell ⟨w.heap.size, 1, none⟩ (.pointer (some ⟨d, 0, none⟩))).setCell ⟨w.heap.size, 2, none⟩ (.pointer (some ⟨q, 0, none⟩))).heap[b]? = w7.heap[b]? := fun b h1 h2 => (eqS b (by omega)).trans (HT.out.block b h2 (by show ¬ b = go; omega))
      have hE3 : ∀ b, w.heap.size < b → b < w3.heap.size → (((wr.setCell ⟨w.heap.size, 0, none⟩ (.pointer (some ⟨x, 0, none⟩))).setCell ⟨w.heap.size, 1, none⟩ (.pointer (some ⟨d, 0, none⟩))).setCell ⟨w.heap.size, 2, none⟩ (.pointer (some ⟨q, 0, none⟩))).heap[b]? = w3.heap[b]? := fun b h1 h2 => ((eqS b (by omega)).trans (HT.out.block b (by omega) (by show ¬ b = go; omega))).trans (B37.out.block b h2)
      have hsz : w3.heap.size ≤ (((wr.setCell ⟨w.heap.size, 0, none⟩ (.pointer (some ⟨x, 0, none⟩))).setCell ⟨w.heap.size, 1, none⟩ (.pointer (some ⟨d, 0, none⟩))).setCell ⟨w.heap.size, 2, none⟩ (.pointer (some ⟨q, 0, none⟩))).heap.size := by have := HT.out.size; simp; omega
      refine ⟨x, d, q, dq, O, L, Y, Bq, rfl, ⟨E7.out.keep (hE7 x HX.out E7.out.lt), D3.out.keep hsz (fun k hk => hE3 k (O2.out k hk) (D3.out.lt k hk)), fun hx => by have := D3.out.lt x hx; have := HX.out; have := B5.out.size; omega, fun a => by rw [newD_len]; exact newXt_fit hfit a⟩, X7.out.keepOn LO7.out (fun b h1 h2 => hE7 b (by omega) h2), ?_, HDQ.out.symm, BE.out⟩
      obtain ⟨v, b, hq3⟩ := Q3.out
      exact ⟨v, b, hq3.keepOn hsz (fun j h1 h2 => hE3 j (by have := HBQ.out; omega) h2)⟩
end Go.Proofs.Ytgpdkfmneoggkaa
