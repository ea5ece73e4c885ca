/- Passing: what passes, copied. -/
import Derived.Test.YteibholghonajaaFiN
import Derived.Deep.RegionHeld3
import Derived.Deep.WholeRow
namespace Go.Proofs.Yteibholghonajaa
open Go.RowKit

/-- A packet among others that came in. -/
structure Pk where
  A : Option Addr
  n : Nat
  c : Nat
  P : List Nat
structure PkOk (W : World) (x : Pk) : Prop where
  len : x.P.length = x.n
  nil : x.A = none → x.n = 0 ∧ x.c = 0
  pk : PkIn W x.A x.P
  n63 : (x.n : Int) ≤ 9223372036854775807
theorem PkOk.below {W W' : World} {x : Pk} (h : PkOk W x) (hb : Below W.heap.size W W') : PkOk W' x := ⟨h.len, h.nil, h.pk.below hb, h.n63⟩
def PsIn (W : World) (A : Option Addr) (Ps : List Pk) : Prop := ∀ i x, Ps[i]? = some x → PkOk W x ∧ ∃ b o, A = some ⟨b, o, none⟩ ∧ b < W.heap.size ∧ W.cell? ⟨b, o + i, none⟩ = some (.slice x.A x.n x.c)
theorem PsIn.below {W W' : World} {A : Option Addr} {Ps : List Pk} (h : PsIn W A Ps) (hb : Below W.heap.size W W') : PsIn W' A Ps := fun i x hx => by
  obtain ⟨h1, b, o, e, l, c⟩ := h i x hx
  exact ⟨h1.below hb, b, o, e, Nat.lt_of_lt_of_le l hb.size, (hb.cell (p := ⟨b, _, none⟩) l).trans c⟩
/-- Which of the first ones pass. -/
def hitP (L : List Ts) (Ps : List Pk) (i : Nat) : Bool := match Ps[i]? with | some x => matchL L x.P | none => false
def hitsP (L : List Ts) (Ps : List Pk) (k : Nat) : List Nat := (List.range k).filter (hitP L Ps)
theorem hitsP_succ (L : List Ts) (Ps : List Pk) (k : Nat) : hitsP L Ps (k + 1) = hitsP L Ps k ++ (if hitP L Ps k = true then [k] else []) := by
  unfold hitsP
  rw [List.range_succ, List.filter_append]
  congr 1
  by_cases h : hitP L Ps k = true
  · rw [if_pos h]; simp only [List.filter_cons, h]; rfl
  · rw [if_neg h]; simp only [List.filter_cons, h]; rfl
theorem hitsP_len (L : List Ts) (Ps : List Pk) (k : Nat) : (hitsP L Ps k).length ≤ k := Nat.le_trans (List.length_filter_le _ _) (by simp)
theorem hitsP_mem {L : List Ts} {Ps : List Pk} {k i : Nat} (h : i ∈ hitsP L Ps k) : i < k ∧ hitP L Ps i = true := by
  unfold hitsP at h
  rw [List.mem_filter, List.mem_range] at h
  exact h
theorem hitP_at {L : List Ts} {Ps : List Pk} {i : Nat} {x : Pk} (h : Ps[i]? = some x) : hitP L Ps i = matchL L x.P := by unfold hitP; rw [h]
theorem match_le {L : List Ts} {P : List Nat} (h : matchL L P = true) : P.length ≤ 64 := by
  unfold matchL at h
  simp only [Bool.and_eq_true, decide_eq_true_eq] at h
  exact h.1.2

set_option maxHeartbeats 1000000 in
theorem clone_any {w : World} {x : Pk} (h : PkOk w x) (hn : x.n ≤ 1000000) : Calls Try.prog 30 #[.slice x.A x.n x.c] w fun e w' => ∃ v, e = .returned v ∧ w'.ownsRow w.heap.size 5 1 v x.n (byL x.P) ∧ Below w.heap.size w w' := by
  obtain ⟨A, n, c, P⟩ := x
  obtain ⟨hl, hnil, hpk, -⟩ := h
  simp only at hl hnil hpk hn ⊢
  cases A with
  | none =>
    obtain ⟨rfl, rfl⟩ := hnil rfl
    obtain rfl : P = [] := List.eq_nil_of_length_eq_zero hl
    have q22 : ∀ (w : World) (a : Option Addr) (n c n' c' : Nat), (binOp .eql 23 (.slice a n c) (.slice none n' c')).run Try.prog w = .ok (.bool a.isNone) w := fun w a n c n' c' => Lib.run_eql_slice_nil w _ _ a n c n' c' Try.underlying23
    clear hpk hl hnil
    go_enter Try.func30, Try.ntmps30
    go_wp2
    go_ret
    exact ⟨_, rfl, World.ownsRow_nil _ _ _ _, Below.refl _ w⟩
  | some ad =>
    by_cases h0 : n = 0
    · subst h0
      obtain rfl : P = [] := List.eq_nil_of_length_eq_zero hl
      obtain ⟨i0, hi, hz0, hz1, hz2⟩ := info_parts Try.inU8t
      have q22 : ∀ (w : World) (a : Option Addr) (n c n' c' : Nat), (binOp .eql 23 (.slice a n c) (.slice none n' c')).run Try.prog w = .ok (.bool a.isNone) w := fun w a n c n' c' => Lib.run_eql_slice_nil w _ _ a n c n' c' Try.underlying23
      clear hpk hl hnil
      go_enter Try.func30, Try.ntmps30
      go_wp2_with (at_builtin; refine wpList_append_own _ rfl _ _ 23 rfl w.heap.size 5 i0 (.int .u8 0) 1 1 Try.underlying23 hi hz0 hz1 hz2 rfl (by decide) _ _ _ rfl (World.ownsRow_made w #[] 0 (Nat.le_refl _) (Nat.zero_le _) rfl) ad 0 c [] rfl rfl (by simp) (by simp) (by unfold maxLen; omega) (by omega) (by simp) ?_; intro v' w1 hown hgrow hnil2)
      go_ret
      exact ⟨v', rfl, by simpa [byL] using hown, ((Below.refl _ w).alloc (Nat.le_refl _) _).grown hgrow (by simp) (by intro k hk; cases hk; exact Nat.le_refl _)⟩
    · obtain ⟨-, b, o, e, -, -⟩ := hpk 0 P[0] (List.getElem?_eq_getElem (by omega))
      cases e
      refine (clone_some b o n c (byL P) (by rw [byL_len, hl]) ⟨fun j v hj => ?_, byL_one P⟩ hn).mono ?_
      · have hjl : j < P.length := by
          have := (List.getElem?_eq_some_iff.1 hj).1
          simpa [byL] using this
        obtain ⟨-, b', o', e, -, hc⟩ := hpk j P[j] (List.getElem?_eq_getElem hjl)
        cases e
        rw [hc]
        unfold byL at hj
        rw [List.getElem?_map, List.getElem?_eq_getElem hjl] at hj
        exact hj
      · rintro e w' ⟨v, rfl, ho, -, hb⟩
        exact ⟨v, rfl, ho, hb⟩

/-! ### What is told -/
def rowP : List Nat → List Value → List Value
  | i :: is, v :: vs => .int .i64 (i : Int) :: v :: rowP is vs
  | _, _ => []
theorem rowP_len : ∀ (is : List Nat) (vs : List Value), is.length = vs.length → (rowP is vs).length = is.length * 2
  | [], [], _ => rfl
  | i :: is, v :: vs, h => by
    have := rowP_len is vs (by simpa using h)
    simp only [rowP, List.length_cons, this]; omega
  | [], _ :: _, h => by simp at h
  | _ :: _, [], h => by simp at h
theorem rowP_snoc : ∀ (is : List Nat) (vs : List Value) (i : Nat) (v : Value), is.length = vs.length → rowP (is ++ [i]) (vs ++ [v]) = rowP is vs ++ [.int .i64 (i : Int), v]
  | [], [], _, _, _ => rfl
  | j :: is, u :: vs, i, v, h => by
    have := rowP_snoc is vs i v (by simpa using h)
    simp only [List.cons_append, rowP, this]
  | [], _ :: _, _, _, h => by simp at h
  | _ :: _, [], _, _, h => by simp at h
theorem rowP_at : ∀ (is : List Nat) (vs : List Value) (j i : Nat) (v : Value), is[j]? = some i → vs[j]? = some v → (rowP is vs)[j * 2]? = some (.int .i64 (i : Int)) ∧ (rowP is vs)[j * 2 + 1]? = some v
  | i :: is, v :: vs, 0, i', v', h, h' => by
    simp at h h'; subst h h'; exact ⟨rfl, rfl⟩
  | i :: is, v :: vs, j + 1, i', v', h, h' => by
    have := rowP_at is vs j i' v' (by simpa using h) (by simpa using h')
    simp only [rowP]
    rw [show (j + 1) * 2 = j * 2 + 1 + 1 by omega, show j * 2 + 1 + 1 + 1 = (j * 2 + 1) + 1 + 1 by omega]
    simpa using this
  | [], _, _, _, _, h, _ => by simp at h
  | _ :: _, [], _, _, _, _, h => by simp at h
/-- What stands for a packet that passes. -/
def ToldAt (W : World) (base : Nat) (Ps : List Pk) (i : Nat) (v : Value) : Prop := ∃ x, Ps[i]? = some x ∧ W.ownsRow base 5 1 v x.n (byL x.P) ∧ x.P.length = x.n ∧ (∀ y ∈ x.P, y < 256) ∧ x.n ≤ 64
structure PassIs (W : World) (base bx : Nat) (Ps : List Pk) (is : List Nat) (v : Value) (vs : List Value) : Prop where
  cell : W.heap[bx]? = some (.cells #[v] 65 (0, 0))
  own : W.ownsRow base 67 2 v is.length (rowP is vs)
  len : is.length = vs.length
  told : ∀ (j i : Nat) (u : Value), is[j]? = some i → vs[j]? = some u → ToldAt W base Ps i u
theorem ToldAt.below {W W' : World} {base : Nat} {Ps : List Pk} {i : Nat} {v : Value} (h : ToldAt W base Ps i v) (hb : Below W.heap.size W W') : ToldAt W' base Ps i v := by
  obtain ⟨x, h1, h2, h3⟩ := h
  exact ⟨x, h1, own_stepF h2 hb, h3⟩
theorem PassIs.below {W W' : World} {base bx : Nat} {Ps : List Pk} {is : List Nat} {v : Value} {vs : List Value} (h : PassIs W base bx Ps is v vs) (hb : Below W.heap.size W W') : PassIs W' base bx Ps is v vs :=
  ⟨(hb.block bx (Array.getElem?_eq_some_iff.1 h.cell).1).trans h.cell, own_stepF h.own hb, h.len, fun j i u h1 h2 => (h.told j i u h1 h2).below hb⟩
theorem Try.inPassed : (Try.prog.info? 67).map (fun i => (i.zero, i.size, i.bytes)) = some (some (.agg #[.int .i64 0, .slice none 0 0]), 2, 32) := by kernel_rfl
theorem step_append_F {P : Program} {ops : Array Oper} {o : Oper} {a : Act} {w : World} {K : Act → World → Prop} {Q : Exit → Act → World → Prop} {E : Prop}
    (hg : o.guard = none) (s x : Operand) (t : TypeId) (hop : o.op = Op.call { callee := Callee.builtin Builtin.append, args := #[s, x], argTypes := #[t, t] })
    (base : Nat) (e : TypeId) (i : TypeInfo) (z : Value) (size bytes : Nat) (h1 : P.underlying t = some (.slice e)) (h2 : P.info? e = some i) (h3 : i.zero = some z) (h4 : i.size = size) (h5 : i.bytes = bytes) (h6 : z.cells.size = size) (h7 : 0 < size)
    (v : Value) (n : Nat) (xs : List Value) (hs : a.eval s = v) (hown : w.ownsRow base e size v n xs)
    (ad : Addr) (m c : Nat) (news : List Value) (hx : a.eval x = .slice (some ad) m c) (hn : news.length = m * size) (hc : ∀ j u, news[j]? = some u → w.cell? (ad.add j) = some u) (h1c : ∀ u ∈ news, u.oneCell' = true)
    (b1 : n + m ≤ maxLen) (b2 : (n + m) * bytes ≤ 140737488355328) (hbase : base ≤ w.heap.size)
    (hK : ∀ v' w', w'.ownsRow base e size v' (n + m) (xs ++ news) → w.grownBy w' v.ownBlock → K (a.put o.dst v') w') :
    if Region.wanted o (yielded ops a.tmps) = true then Oper.wp P o a w K Q else E := by
  have hw : Region.wanted o (yielded ops a.tmps) = true := by simp [Region.wanted, hg]
  rw [if_pos hw]
  obtain ⟨v', w', hrun, r1, r2, _⟩ := run_append_own (P := P) w base t o.type e i z size bytes h1 h2 h3 h4 h5 h6 h7 v n xs hown ad m c news hn hc h1c b1 b2 hbase
  unfold Oper.wp
  simp [execOp, hop, resolve, invoke, builtin, hs, hx, hrun, Result.andThen]
  exact hK v' w' r1 r2
theorem pk_lt {w : World} {A : Option Addr} {P : List Nat} (h : PkIn w A P) : ∀ y ∈ P, y < 256 := fun y hy => by
  obtain ⟨i, hi, e⟩ := List.getElem_of_mem hy
  exact (h i y (by rw [List.getElem?_eq_getElem hi, e])).1
theorem pass_ne {W : World} {base bx : Nat} {Ps : List Pk} {is : List Nat} {v : Value} {vs : List Value} (h : PassIs W base bx Ps is v vs) : some bx ≠ v.ownBlock := by
  rcases h.own.2 with ⟨rfl, -⟩ | ⟨g, cap, cur, rfl, -, hg, -⟩
  · simp [Value.ownBlock]
  · intro e
    simp only [Value.ownBlock, Option.some.injEq] at e
    subst e
    rw [h.cell] at hg
    simp at hg
theorem setCell_below {B b : Nat} {w W : World} (h : Below B w W) (hb : B ≤ b) (u : Value) : Below B w (W.setCell ⟨b, 0, none⟩ u) := h.setCell hb u
/-- A row of bytes stays where a row of others and a variable turn. -/
theorem bytes_stay {W W' : World} {base bx : Nat} {Ps : List Pk} {is : List Nat} {v v' : Value} {vs : List Value} (h : PassIs W base bx Ps is v vs) (hg : W.grownBy W' v.ownBlock) {B n : Nat} {u : Value} {xs : List Value} (hu : W.ownsRow B 5 1 u n xs) :
    (W'.setCell ⟨bx, 0, none⟩ v').ownsRow B 5 1 u n xs := by
  refine owns_eq hu fun g hgu => ?_
  rcases hu.2 with ⟨rfl, -⟩ | ⟨g', cap, cur, rfl, -, hgc, -⟩
  · simp [Value.ownBlock] at hgu
  · simp only [Value.ownBlock, Option.some.injEq] at hgu
    subst hgu
    have h1 : g' ≠ bx := fun e => by rw [e, h.cell] at hgc; simp at hgc
    have h2 : some g' ≠ v.ownBlock := fun e => by
      rcases h.own.2 with ⟨rfl, -⟩ | ⟨g, cap', cur', rfl, -, hg', -⟩
      · simp [Value.ownBlock] at e
      · simp only [Value.ownBlock, Option.some.injEq] at e
        subst e
        rw [hg'] at hgc
        simp at hgc
    rw [heap_setCell_other _ _ _ _ h1]
    exact hg.block g' (Array.getElem?_eq_some_iff.1 hgc).1 h2
/-- One more that passes. -/
theorem pass_more {W W' : World} {base bx B k : Nat} {Ps : List Pk} {is : List Nat} {v v' : Value} {vs : List Value} {x : Pk} {u : Value} (h : PassIs W base bx Ps is v vs) (hx : Ps[k]? = some x)
    (hu : W.ownsRow B 5 1 u x.n (byL x.P)) (hB : base ≤ B) (hP : x.P.length = x.n ∧ (∀ y ∈ x.P, y < 256)) (h64 : x.n ≤ 64) (hg : W.grownBy W' v.ownBlock)
    (ho : W'.ownsRow base 67 2 v' (is.length + 1) (rowP is vs ++ [.int .i64 (k : Int), u])) :
    PassIs (W'.setCell ⟨bx, 0, none⟩ v') base bx Ps (is ++ [k]) v' (vs ++ [u]) := by
  have hne := pass_ne h
  have hl := (Array.getElem?_eq_some_iff.1 h.cell).1
  have hc' : W'.heap[bx]? = some (.cells #[v] 65 (0, 0)) := (hg.block bx hl hne).trans h.cell
  have hn' : some bx ≠ v'.ownBlock := by
    rcases ho.2 with ⟨rfl, -⟩ | ⟨g, cap, cur, rfl, -, hgc, -⟩
    · simp [Value.ownBlock]
    · intro e
      simp only [Value.ownBlock, Option.some.injEq] at e
      subst e
      rw [hc'] at hgc
      simp at hgc
  refine ⟨?_, ?_, by rw [List.length_append, List.length_append, h.len]; rfl, fun j i y h1 h2 => ?_⟩
  · have := heap_setCell_same _ bx 0 _ _ v' hc'
    simpa using this
  · rw [List.length_append, rowP_snoc _ _ _ _ h.len]
    refine owns_eq ho fun g hgv => ?_
    rw [heap_setCell_other _ _ _ _ (fun e => hn' (by rw [hgv, e]))]
  · rcases Nat.lt_or_ge j is.length with hj | hj
    · rw [List.getElem?_append_left hj] at h1
      rw [List.getElem?_append_left (by rw [← h.len]; exact hj)] at h2
      obtain ⟨z, e1, e2, e3⟩ := h.told j i y h1 h2
      exact ⟨z, e1, bytes_stay h hg e2, e3⟩
    · rw [List.getElem?_append_right hj] at h1
      rw [List.getElem?_append_right (by rw [← h.len]; exact hj), ← h.len] at h2
      have hj0 : j - is.length = 0 := by
        have := (List.getElem?_eq_some_iff.1 h1).1
        simp at this; omega
      rw [hj0] at h1 h2
      simp at h1 h2
      subst h1 h2
      exact ⟨x, hx, own_base (bytes_stay h hg hu) hB, hP.1, hP.2, h64⟩
/-- What Passing answers: a closure over what passes. -/
def PassOut (L : List Ts) (Ps : List Pk) (k : Nat) (w : World) (e : Ending) (w' : World) : Prop := ∃ bx v vs, e = .returned (.func (.func 35) #[] #[.pointer (some ⟨bx, 0, none⟩)]) ∧ PassIs w' w.heap.size bx Ps (hitsP L Ps k) v vs ∧ w.heap.size ≤ bx ∧ Below w.heap.size w w'
set_option maxHeartbeats 4000000 in
set_option maxRecDepth 100000 in
theorem passing_any {w : World} {A B : Option Addr} {n c m d : Nat} {L : List Ts} {Ps : List Pk} (h : FlIn w A n c L) (hn : n ≤ 1000) (hp : PsIn w B Ps) (hm : Ps.length = m) (hm2 : m ≤ 1000) :
    Calls Try.prog 25 #[.slice A n c, .slice B m d] w (PassOut L Ps m w) := by
  obtain ⟨i0, hi, hz0, hz1, hz2⟩ := info_parts Try.inPassed
  have H := Lib.hid h
  have HP := Lib.hid hp
  have HM := Lib.hid hm
  have nw := Lib.hid (heap_alloc_new w (Obj.cells #[.slice none 0 0] 65))
  have B0 := Lib.hid ((Below.refl w.heap.size w).alloc (Nat.le_refl _) (Obj.cells #[.slice none 0 0] 65))
  clear h hp hm
  go_enter Try.func25, Try.ntmps25
  go_wp2_with fail
  obtain ⟨bx, hbx⟩ : ∃ bx, w.heap.size = bx := ⟨_, rfl⟩
  have HBX := Lib.hid hbx
  rw [hbx] at nw
  generalize w.alloc (Obj.cells #[.slice none 0 0] 65) = w0 at nw B0 ⊢
  simp only [hbx]
  clear hbx
  go_loopg [10] m (fun g i W => ∃ (k : Nat) (v : Value) (vs : List Value), k + g = m ∧ i = .int .i64 (k : Int) ∧ PassIs W w.heap.size bx Ps (hitsP L Ps k) v vs ∧ Below w.heap.size w W)
  case atStart => exact ⟨0, .slice none 0 0, [], by omega, rfl, ⟨nw.out, World.ownsRow_nil _ _ _ _, rfl, fun j i u h => by simp [hitsP] at h⟩, B0.out⟩
  case round =>
    obtain ⟨k, v, vs, hk, rfl, hP, hB⟩ := hrel
    have HPS := Lib.hid hP
    have HW := Lib.hid hB
    clear hP hB
    by_cases hlt : k < m
    · have hlt2 : (k : Int) < m := by omega
      obtain ⟨x, hx⟩ : ∃ x, Ps[k]? = some x := ⟨_, List.getElem?_eq_getElem (by rw [HM.out]; exact hlt)⟩
      obtain ⟨hok, b, o, rfl, hbl, hc⟩ := (HP.out.below HW.out) k x hx
      have HX := Lib.hid hx
      have HOK := Lib.hid hok
      have HMT := Lib.hid (match_any (H.out.below HW.out).ts n c H.out.len (by omega) hok.pk (pc := x.c) hok.len hok.n63)
      have HS := Lib.hid (hitsP_succ L Ps k)
      rw [hitP_at hx] at HS
      clear hok hx hbl
      cases hq : matchL L x.P with
      | false =>
        rw [hq] at HMT
        rw [hq, if_neg (by simp), List.append_nil] at HS
        clear hq
        go_wp2_with (go_at_call 11; refine HMT.out.mono ?_; rintro e w1 ⟨rfl, hb⟩)
        go_roundg (m - (k + 1))
        case measure => omega
        case rel => exact ⟨k + 1, v, vs, by omega, by go_num, by rw [HS.out]; exact HPS.out.below hb, HW.out.trans (hb.mono HW.out.size)⟩
      | true =>
        have hx64 := match_le hq
        rw [HOK.out.len] at hx64
        rw [hq] at HMT
        rw [hq, if_pos rfl] at HS
        clear hq
        go_wp2_with (go_at_call 11; refine HMT.out.mono ?_; rintro e w1 ⟨rfl, hb⟩; have HPS := Lib.hid (HPS.out.below hb); have HOK := Lib.hid (HOK.out.below hb); have HW := Lib.hid (HW.out.trans (hb.mono HW.out.size)); clear hb)
        have hx64' : x.n ≤ 1000000 := by omega
        have HLk := Lib.hid (hitsP_len L Ps k)
        obtain ⟨W0, hW0⟩ : ∃ W0, w1.drew = W0 := ⟨_, rfl⟩
        have bd : Below w1.heap.size w1 W0 := by rw [← hW0]; exact (Below.refl _ w1).drew
        have HPS := Lib.hid (HPS.out.below bd)
        have HOK := Lib.hid (HOK.out.below bd)
        have HW := Lib.hid (HW.out.trans (bd.mono HW.out.size))
        clear bd
        refine wp_region_noPanic ?_
        refine wp_region_held_drew (S := fun _ => True) (by kernel_rfl) ?_ (fun hHeld => ?_)
        · trivial
        rw [hW0]
        clear hW0
        refine wpAnyH_take (i := 1) (v := ?_) rfl (by kernel_rfl) (by kernel_rfl) (by kernel_rfl) (fun _ _ _ h => h) (Or.inl ⟨by rfl, ?_⟩) (by assumption) ?_
        rotate_left
        · (intro w hSw; have hSc := hSw; (try simp only [List.getElem_toArray, List.getElem_cons_zero, List.getElem_cons_succ]); go_simp; try (with_reducible rfl))
        try simp only [Act.put, List.getElem_toArray, List.getElem_cons_zero, List.getElem_cons_succ, List.setIfInBounds_toArray, List.set_cons_zero, List.set_cons_succ]
        refine wpAnyH_take (i := 2) (v := ?_) rfl (by kernel_rfl) (by kernel_rfl) (by kernel_rfl) (fun _ _ _ h => h) (Or.inl ⟨by rfl, ?_⟩) (by assumption) ?_
        rotate_left
        · (intro w hSw; have hSc := hSw; (try simp only [List.getElem_toArray, List.getElem_cons_zero, List.getElem_cons_succ]); go_simp; try (with_reducible rfl))
        try simp only [Act.put, List.getElem_toArray, List.getElem_cons_zero, List.getElem_cons_succ, List.setIfInBounds_toArray, List.set_cons_zero, List.set_cons_succ]
        refine wpAnyH_ready (rs := [0, 3]) (by kernel_rfl) (by simp) ?_
        refine (AllReadyH.cons rfl (fun K hK => ?_) (AllReadyH.cons rfl (fun K hK => ?_) AllReadyH.nil))
        · have cv := cell_of_row _ _ 0 _ _ _ HPS.out.cell
          (try simp only [List.getElem_toArray, List.getElem_cons_zero]); go_simp
          try (go_wp2_with fail)
          refine hK.out _ _ trivial (fun hHeld => ?_)
          clear hK K
          try simp only [Act.put, List.getElem_toArray, List.getElem_cons_zero, List.setIfInBounds_toArray, List.set_cons_zero, List.set_cons_succ]
          clear cv
          refine wpAnyH_ready (rs := [3]) (by kernel_rfl) (by simp) ?_
          refine (AllReadyH.cons rfl (fun K hK => ?_) AllReadyH.nil)
          (try simp only [List.getElem_toArray, List.getElem_cons_zero, List.getElem_cons_succ]); go_simp
          go_at_call 30
          refine Calls.mono (clone_any HOK.out hx64') ?_
          rintro e w2 ⟨u, rfl, hu, hb⟩
          have HPS := Lib.hid (HPS.out.below hb)
          have HU := Lib.hid hu
          obtain ⟨Au, cu, rfl, hAu, hAu2⟩ := own_form hu
          have HUB := Lib.hid HW.out.size
          have HOK2 : Hid (x.P.length = x.n ∧ (∀ y ∈ x.P, y < 256)) := Lib.hid ⟨HOK.out.len, pk_lt HOK.out.pk⟩
          have HX2 := Lib.hid (show x.n ≤ 64 from hx64)
          have HW := Lib.hid (HW.out.trans (hb.mono HW.out.size))
          clear hu hb hAu hAu2
          try (go_wp2_with fail)
          refine hK.out _ _ trivial (fun hHeld => ?_)
          clear hK K
          try simp only [Act.put, List.getElem_toArray, List.getElem_cons_zero, List.getElem_cons_succ, List.setIfInBounds_toArray, List.set_cons_zero, List.set_cons_succ]
          refine wpAnyH_take (i := 4) (v := ?_) rfl (by kernel_rfl) (by kernel_rfl) (by kernel_rfl) (fun _ _ _ h => h) (Or.inl ⟨by rfl, ?_⟩) (by assumption) ?_
          rotate_left
          · (intro w hSw; have hSc := hSw; (try simp only [List.getElem_toArray, List.getElem_cons_zero, List.getElem_cons_succ]); go_simp; try (with_reducible rfl))
          try simp only [Act.put, List.getElem_toArray, List.getElem_cons_zero, List.getElem_cons_succ, List.setIfInBounds_toArray, List.set_cons_zero, List.set_cons_succ]
          refine wpAnyH_ready (rs := [5]) (by kernel_rfl) (by simp) ?_
          refine (AllReadyH.cons rfl (fun K hK => ?_) AllReadyH.nil)
          have b3 := (Below.refl w2.heap.size w2).alloc (Nat.le_refl _) (Obj.cells #[.int .i64 (k : Int), .slice Au x.n cu] 67)
          have HPS := Lib.hid (HPS.out.below b3)
          have HU := Lib.hid (own_stepF HU.out b3)
          have HW := Lib.hid (HW.out.trans (b3.mono HW.out.size))
          have HNEW := Lib.hid (cells_new w2 [.int .i64 (k : Int), .slice Au x.n cu] 67)
          clear b3
          (try simp only [List.getElem_toArray, List.getElem_cons_zero, List.getElem_cons_succ]); go_simp
          refine hK.out _ _ trivial (fun hHeld => ?_)
          clear hK K
          try simp only [Act.put, List.getElem_toArray, List.getElem_cons_zero, List.getElem_cons_succ, List.setIfInBounds_toArray, List.set_cons_zero, List.set_cons_succ]
          refine wpAnyH_ready (rs := [6]) (by kernel_rfl) (by simp) ?_
          refine (AllReadyH.cons rfl (fun K hK => ?_) AllReadyH.nil)
          refine step_append_F rfl _ _ 65 rfl w.heap.size 67 i0 (.agg #[.int .i64 0, .slice none 0 0]) 2 32 Try.underlying65 hi hz0 hz1 hz2 rfl (by decide) _ _ _ rfl HPS.out.own ⟨w2.heap.size, 0, none⟩ 1 1 [.int .i64 (k : Int), .slice Au x.n cu] rfl rfl HNEW.out (by simp [Value.oneCell']) ?bb1 ?bb2 HW.out.size ?_
          case bb1 => have := HLk.out; unfold maxLen; omega
          case bb2 => have := HLk.out; omega
          intro v4 w4 ho4 hg4
          have HO4 := Lib.hid ho4
          obtain ⟨A4, c4, e4, -, -⟩ := own_form ho4
          clear ho4
          subst e4
          have hne := pass_ne HPS.out
          have hl3 := (Array.getElem?_eq_some_iff.1 HPS.out.cell).1
          have hc4 : w4.heap[bx]? = some (.cells #[v] 65 (0, 0)) := (hg4.block bx hl3 hne).trans HPS.out.cell
          have cv := cell_of_row _ _ 0 _ _ _ hc4
          have fv := frozen_of_row _ _ 0 _ _ hc4
          have l4 := (Array.getElem?_eq_some_iff.1 hc4).1
          have P5 := Lib.hid (pass_more HPS.out HX.out HU.out HUB.out HOK2.out HX2.out hg4 HO4.out)
          have HW4 := Lib.hid (HW.out.grown hg4 HW.out.size (fun j hj => (HPS.out.own.lt j hj).1))
          clear hc4 hne hl3 hg4
          refine hK.out _ _ trivial (fun hHeld => ?_)
          clear hK K
          try simp only [Act.put, List.getElem_toArray, List.getElem_cons_zero, List.getElem_cons_succ, List.setIfInBounds_toArray, List.set_cons_zero, List.set_cons_succ]
          refine wpAnyH_ready (rs := [7]) (by kernel_rfl) (by simp) ?_
          refine (AllReadyH.cons rfl (fun K hK => ?_) AllReadyH.nil)
          (try simp only [List.getElem_toArray, List.getElem_cons_zero, List.getElem_cons_succ]); go_simp
          refine hK.out _ _ trivial (fun hHeld => ?_)
          clear hK K
          try simp only [Act.put, List.getElem_toArray, List.getElem_cons_zero, List.getElem_cons_succ, List.setIfInBounds_toArray, List.set_cons_zero, List.set_cons_succ]
          refine wpAnyH_done (by kernel_rfl) ?_ _
          refine NoPanic.normal ?_
          clear cv fv l4
          go_wp2_with fail
          go_roundg (m - (k + 1))
          case measure => omega
          case rel => exact ⟨k + 1, _, _, by omega, by go_num, by rw [HS.out]; exact P5.out, setCell_below HW4.out (by have := HBX.out; omega) _⟩
        · (try simp only [List.getElem_toArray, List.getElem_cons_zero, List.getElem_cons_succ]); go_simp
          go_at_call 30
          refine Calls.mono (clone_any HOK.out hx64') ?_
          rintro e w2 ⟨u, rfl, hu, hb⟩
          have HPS := Lib.hid (HPS.out.below hb)
          have HU := Lib.hid hu
          obtain ⟨Au, cu, rfl, hAu, hAu2⟩ := own_form hu
          have HUB := Lib.hid HW.out.size
          have HOK2 : Hid (x.P.length = x.n ∧ (∀ y ∈ x.P, y < 256)) := Lib.hid ⟨HOK.out.len, pk_lt HOK.out.pk⟩
          have HX2 := Lib.hid (show x.n ≤ 64 from hx64)
          have HW := Lib.hid (HW.out.trans (hb.mono HW.out.size))
          clear hu hb hAu hAu2
          try (go_wp2_with fail)
          refine hK.out _ _ trivial (fun hHeld => ?_)
          clear hK K
          try simp only [Act.put, List.getElem_toArray, List.getElem_cons_zero, List.getElem_cons_succ, List.setIfInBounds_toArray, List.set_cons_zero, List.set_cons_succ]
          refine wpAnyH_take (i := 4) (v := ?_) rfl (by kernel_rfl) (by kernel_rfl) (by kernel_rfl) (fun _ _ _ h => h) (Or.inl ⟨by rfl, ?_⟩) (by assumption) ?_
          rotate_left
          · (intro w hSw; have hSc := hSw; (try simp only [List.getElem_toArray, List.getElem_cons_zero, List.getElem_cons_succ]); go_simp; try (with_reducible rfl))
          try simp only [Act.put, List.getElem_toArray, List.getElem_cons_zero, List.getElem_cons_succ, List.setIfInBounds_toArray, List.set_cons_zero, List.set_cons_succ]
          refine wpAnyH_ready (rs := [0, 5]) (by kernel_rfl) (by simp) ?_
          refine (AllReadyH.cons rfl (fun K hK => ?_) (AllReadyH.cons rfl (fun K hK => ?_) AllReadyH.nil))
          · have cv := cell_of_row _ _ 0 _ _ _ HPS.out.cell
            (try simp only [List.getElem_toArray, List.getElem_cons_zero]); go_simp
            try (go_wp2_with fail)
            refine hK.out _ _ trivial (fun hHeld => ?_)
            clear hK K
            try simp only [Act.put, List.getElem_toArray, List.getElem_cons_zero, List.setIfInBounds_toArray, List.set_cons_zero, List.set_cons_succ]
            clear cv
            refine wpAnyH_ready (rs := [5]) (by kernel_rfl) (by simp) ?_
            refine (AllReadyH.cons rfl (fun K hK => ?_) AllReadyH.nil)
            have b3 := (Below.refl w2.heap.size w2).alloc (Nat.le_refl _) (Obj.cells #[.int .i64 (k : Int), .slice Au x.n cu] 67)
            have HPS := Lib.hid (HPS.out.below b3)
            have HU := Lib.hid (own_stepF HU.out b3)
            have HW := Lib.hid (HW.out.trans (b3.mono HW.out.size))
            have HNEW := Lib.hid (cells_new w2 [.int .i64 (k : Int), .slice Au x.n cu] 67)
            clear b3
            (try simp only [List.getElem_toArray, List.getElem_cons_zero, List.getElem_cons_succ]); go_simp
            refine hK.out _ _ trivial (fun hHeld => ?_)
            clear hK K
            try simp only [Act.put, List.getElem_toArray, List.getElem_cons_zero, List.getElem_cons_succ, List.setIfInBounds_toArray, List.set_cons_zero, List.set_cons_succ]
            refine wpAnyH_ready (rs := [6]) (by kernel_rfl) (by simp) ?_
            refine (AllReadyH.cons rfl (fun K hK => ?_) AllReadyH.nil)
            refine step_append_F rfl _ _ 65 rfl w.heap.size 67 i0 (.agg #[.int .i64 0, .slice none 0 0]) 2 32 Try.underlying65 hi hz0 hz1 hz2 rfl (by decide) _ _ _ rfl HPS.out.own ⟨w2.heap.size, 0, none⟩ 1 1 [.int .i64 (k : Int), .slice Au x.n cu] rfl rfl HNEW.out (by simp [Value.oneCell']) ?bb1 ?bb2 HW.out.size ?_
            case bb1 => have := HLk.out; unfold maxLen; omega
            case bb2 => have := HLk.out; omega
            intro v4 w4 ho4 hg4
            have HO4 := Lib.hid ho4
            obtain ⟨A4, c4, e4, -, -⟩ := own_form ho4
            clear ho4
            subst e4
            have hne := pass_ne HPS.out
            have hl3 := (Array.getElem?_eq_some_iff.1 HPS.out.cell).1
            have hc4 : w4.heap[bx]? = some (.cells #[v] 65 (0, 0)) := (hg4.block bx hl3 hne).trans HPS.out.cell
            have cv := cell_of_row _ _ 0 _ _ _ hc4
            have fv := frozen_of_row _ _ 0 _ _ hc4
            have l4 := (Array.getElem?_eq_some_iff.1 hc4).1
            have P5 := Lib.hid (pass_more HPS.out HX.out HU.out HUB.out HOK2.out HX2.out hg4 HO4.out)
            have HW4 := Lib.hid (HW.out.grown hg4 HW.out.size (fun j hj => (HPS.out.own.lt j hj).1))
            clear hc4 hne hl3 hg4
            refine hK.out _ _ trivial (fun hHeld => ?_)
            clear hK K
            try simp only [Act.put, List.getElem_toArray, List.getElem_cons_zero, List.getElem_cons_succ, List.setIfInBounds_toArray, List.set_cons_zero, List.set_cons_succ]
            refine wpAnyH_ready (rs := [7]) (by kernel_rfl) (by simp) ?_
            refine (AllReadyH.cons rfl (fun K hK => ?_) AllReadyH.nil)
            (try simp only [List.getElem_toArray, List.getElem_cons_zero, List.getElem_cons_succ]); go_simp
            refine hK.out _ _ trivial (fun hHeld => ?_)
            clear hK K
            try simp only [Act.put, List.getElem_toArray, List.getElem_cons_zero, List.getElem_cons_succ, List.setIfInBounds_toArray, List.set_cons_zero, List.set_cons_succ]
            refine wpAnyH_done (by kernel_rfl) ?_ _
            refine NoPanic.normal ?_
            clear cv fv l4
            go_wp2_with fail
            go_roundg (m - (k + 1))
            case measure => omega
            case rel => exact ⟨k + 1, _, _, by omega, by go_num, by rw [HS.out]; exact P5.out, setCell_below HW4.out (by have := HBX.out; omega) _⟩
          · have b3 := (Below.refl w2.heap.size w2).alloc (Nat.le_refl _) (Obj.cells #[.int .i64 (k : Int), .slice Au x.n cu] 67)
            have HPS := Lib.hid (HPS.out.below b3)
            have HU := Lib.hid (own_stepF HU.out b3)
            have HW := Lib.hid (HW.out.trans (b3.mono HW.out.size))
            have HNEW := Lib.hid (cells_new w2 [.int .i64 (k : Int), .slice Au x.n cu] 67)
            clear b3
            (try simp only [List.getElem_toArray, List.getElem_cons_zero, List.getElem_cons_succ]); go_simp
            refine hK.out _ _ trivial (fun hHeld => ?_)
            clear hK K
            try simp only [Act.put, List.getElem_toArray, List.getElem_cons_zero, List.getElem_cons_succ, List.setIfInBounds_toArray, List.set_cons_zero, List.set_cons_succ]
            refine wpAnyH_ready (rs := [0]) (by kernel_rfl) (by simp) ?_
            refine (AllReadyH.cons rfl (fun K hK => ?_) AllReadyH.nil)
            have cv := cell_of_row _ _ 0 _ _ _ HPS.out.cell
            (try simp only [List.getElem_toArray, List.getElem_cons_zero]); go_simp
            try (go_wp2_with fail)
            refine hK.out _ _ trivial (fun hHeld => ?_)
            clear hK K
            try simp only [Act.put, List.getElem_toArray, List.getElem_cons_zero, List.setIfInBounds_toArray, List.set_cons_zero, List.set_cons_succ]
            clear cv
            refine wpAnyH_ready (rs := [6]) (by kernel_rfl) (by simp) ?_
            refine (AllReadyH.cons rfl (fun K hK => ?_) AllReadyH.nil)
            refine step_append_F rfl _ _ 65 rfl w.heap.size 67 i0 (.agg #[.int .i64 0, .slice none 0 0]) 2 32 Try.underlying65 hi hz0 hz1 hz2 rfl (by decide) _ _ _ rfl HPS.out.own ⟨w2.heap.size, 0, none⟩ 1 1 [.int .i64 (k : Int), .slice Au x.n cu] rfl rfl HNEW.out (by simp [Value.oneCell']) ?bb1 ?bb2 HW.out.size ?_
            case bb1 => have := HLk.out; unfold maxLen; omega
            case bb2 => have := HLk.out; omega
            intro v4 w4 ho4 hg4
            have HO4 := Lib.hid ho4
            obtain ⟨A4, c4, e4, -, -⟩ := own_form ho4
            clear ho4
            subst e4
            have hne := pass_ne HPS.out
            have hl3 := (Array.getElem?_eq_some_iff.1 HPS.out.cell).1
            have hc4 : w4.heap[bx]? = some (.cells #[v] 65 (0, 0)) := (hg4.block bx hl3 hne).trans HPS.out.cell
            have cv := cell_of_row _ _ 0 _ _ _ hc4
            have fv := frozen_of_row _ _ 0 _ _ hc4
            have l4 := (Array.getElem?_eq_some_iff.1 hc4).1
            have P5 := Lib.hid (pass_more HPS.out HX.out HU.out HUB.out HOK2.out HX2.out hg4 HO4.out)
            have HW4 := Lib.hid (HW.out.grown hg4 HW.out.size (fun j hj => (HPS.out.own.lt j hj).1))
            clear hc4 hne hl3 hg4
            refine hK.out _ _ trivial (fun hHeld => ?_)
            clear hK K
            try simp only [Act.put, List.getElem_toArray, List.getElem_cons_zero, List.getElem_cons_succ, List.setIfInBounds_toArray, List.set_cons_zero, List.set_cons_succ]
            refine wpAnyH_ready (rs := [7]) (by kernel_rfl) (by simp) ?_
            refine (AllReadyH.cons rfl (fun K hK => ?_) AllReadyH.nil)
            (try simp only [List.getElem_toArray, List.getElem_cons_zero, List.getElem_cons_succ]); go_simp
            refine hK.out _ _ trivial (fun hHeld => ?_)
            clear hK K
            try simp only [Act.put, List.getElem_toArray, List.getElem_cons_zero, List.getElem_cons_succ, List.setIfInBounds_toArray, List.set_cons_zero, List.set_cons_succ]
            refine wpAnyH_done (by kernel_rfl) ?_ _
            refine NoPanic.normal ?_
            clear cv fv l4
            go_wp2_with fail
            go_roundg (m - (k + 1))
            case measure => omega
            case rel => exact ⟨k + 1, _, _, by omega, by go_num, by rw [HS.out]; exact P5.out, setCell_below HW4.out (by have := HBX.out; omega) _⟩
    · obtain rfl : k = m := by omega
      have hlt2 : ¬ (k : Int) < (k : Int) := by omega
      go_wp2
      go_ret
      exact ⟨bx, v, vs, rfl, HPS.out, by have := HBX.out; omega, HW.out⟩
end Go.Proofs.Yteibholghonajaa
