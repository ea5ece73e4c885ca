/- The document's add. -/
import Derived.Test.YtakgjakcbpdefaaCaqD
import Derived.RegionTactic
import Derived.Deep.RegionWith
import Derived.Deep.RegionLaw
namespace Go.Proofs.Ytakgjakcbpdefaa
open Go.RowKit

/-- An append of a slice that the call itself has made, at the step of a region that draws its order. -/
theorem step_append_own {P : Program} {ops : Array Oper} {o : Oper} {a : Act} {w : World} {K : Act → World → Prop} {Q : Exit → Act → World → Prop} {E : Prop}
    (hg : o.guard = none) (s x : Operand) (t : TypeId) (hop : o.op = Op.call { callee := Callee.builtin Builtin.append, args := #[s, x], argTypes := #[t, t] })
    (base : Nat) (e : TypeId) (i : TypeInfo) (z : Value) (size bytes : Nat) (h1 : P.underlying t = some (.slice e)) (h2 : P.info? e = some i) (h3 : i.zero = some z) (h4 : i.size = size) (h5 : i.bytes = bytes) (h6 : z.cells.size = size) (h7 : 0 < size)
    (v : Value) (n : Nat) (xs : List Value) (hs : a.eval s = v) (hown : w.ownsRow base e size v n xs)
    (ad : Addr) (m c : Nat) (news : List Value) (hx : a.eval x = .slice (some ad) m c) (hn : news.length = m * size) (hc : ∀ j u, news[j]? = some u → w.cell? (ad.add j) = some u) (h1c : ∀ u ∈ news, u.oneCell' = true)
    (b1 : n + m ≤ maxLen) (b2 : (n + m) * bytes ≤ 140737488355328) (hbase : base ≤ w.heap.size)
    (hK : ∀ v' w', w'.ownsRow base e size v' (n + m) (xs ++ news) → w.grownBy w' v.ownBlock → K (a.put o.dst v') w') :
    if Region.wanted o (yielded ops a.tmps) = true then Oper.wp P o a w K Q else E := by
  have hw : Region.wanted o (yielded ops a.tmps) = true := by simp [Region.wanted, hg]
  rw [if_pos hw]
  obtain ⟨v', w', hrun, r1, r2, _⟩ := run_append_own (P := P) w base t o.type e i z size bytes h1 h2 h3 h4 h5 h6 h7 v n xs hown ad m c news hn hc h1c b1 b2 hbase
  unfold Oper.wp
  simp [execOp, hop, resolve, invoke, builtin, hs, hx, hrun, Result.andThen]
  exact hK v' w' r1 r2
/-- What a call that turns the document's table comes to. -/
def QOut (w : World) (B q : Nat) (o : Out) (e : Ending) (w' : World) : Prop := e = .returned (.tuple #[.int .i64 o.num, .int .i64 o.err]) ∧ QAt w' B q o.tab ∧ DK B q w w'
section
variable {w : World} {B q : Nat} {T : Tab}
theorem QAt.apart {v : Value} {n : Nat} {xs : List Value} (h : QAt w B q T) (ho : w.ownsRow B 43 7 v n xs) {g : Nat} (hg : v.ownBlock = some g) : g ≠ q := fun e => by
  obtain ⟨u, h1, -⟩ := h.tab
  rcases ho.2 with ⟨rfl, -⟩ | ⟨g', cap, cur, rfl, -, hgc, -⟩
  · simp [Value.ownBlock] at hg
  · simp only [Value.ownBlock, Option.some.injEq] at hg
    subst hg e
    rw [hgc] at h1
    simp at h1
theorem qadd_done {W W2 w3 : World} {A : Option Addr} {cp s : Nat} {v : Value} {c : Cap} (hB : B ≤ q) (hl : T.last < 1000) (hi : q ≠ s) (ht : DK B q w W) (hown : W.ownsRow B 43 7 (.slice A T.caps.length cp) T.caps.length (rowC T.caps))
    (hgq : ∀ g, (Value.slice A T.caps.length cp).ownBlock = some g → g ≠ q)
    (rq : W.heap[q]? = some (.cells #[.slice A T.caps.length cp, .int .i64 ((T.last : Int) + 1)] 29 (0, 0))) (hb : Below W.heap.size W W2)
    (ho3 : w3.ownsRow B 43 7 v (T.caps.length + 1) (rowC T.caps ++ capL { c with id := (T.last : Int) + 1 })) (hg3 : W2.grownBy w3 (Value.slice A T.caps.length cp).ownBlock) :
    QAt (w3.setCell ⟨q, 0, none⟩ v) B q (addT T c) ∧ DK B q w (w3.setCell ⟨q, 0, none⟩ v) := by
  have hql := (Array.getElem?_eq_some_iff.1 rq).1
  have rw3 := (hg3.block q (Nat.lt_of_lt_of_le hql hb.size) (fun e => hgq q e.symm rfl)).trans ((hb.block q hql).trans rq)
  have hne : ∀ g, v.ownBlock = some g → g ≠ q := fun g hg e => by
    rcases ho3.2 with ⟨rfl, -⟩ | ⟨g', cap, cur, rfl, -, hgc, -⟩
    · simp [Value.ownBlock] at hg
    · simp only [Value.ownBlock, Option.some.injEq] at hg
      subst hg e
      rw [hgc] at rw3
      simp at rw3
  refine ⟨⟨hB, v, ?_, ?_⟩, ?_⟩
  · exact heap_setCell_same w3 q 0 _ _ v rw3
  · show (w3.setCell ⟨q, 0, none⟩ v).ownsRow B 43 7 v (T.caps ++ [_]).length (rowC (T.caps ++ [_]))
    rw [List.length_append, rowC_append]
    refine owns_eqC (by simpa [rowC] using ho3) fun g hg => heap_setCell_other _ _ _ _ (hne g hg)
  · have hown2 : W2.ownsRow B 43 7 (.slice A T.caps.length cp) T.caps.length (rowC T.caps) := owns_eqC hown fun g hg => hb.block g (hown.lt g hg).2
    exact ((ht.trans (DK.of_below hb)).trans (DK.of_grown hg3 hown2)).trans (DK.of_set B q 0 _ _)
set_option maxHeartbeats 4000000 in
set_option maxRecDepth 100000 in
theorem qadd_any (h : QAt w B q T) (hB : B ≤ w.heap.size) (hl : T.last < 1000) (hn : T.caps.length ≤ 1000) (c : Cap) :
    Calls Try.prog 52 #[.pointer (some ⟨q, 0, none⟩), capV c] w (QOut w B q (addO T c)) := by
  have H := fun o => Lib.hid (h.step (w' := w.alloc o) ((Below.refl _ w).alloc (Nat.le_refl _) _))
  have HH := Lib.hid h
  have HN := Lib.hid hn
  have HL := Lib.hid hl
  have HBB := Lib.hid hB
  unfold addO
  by_cases hf : 32 ≤ madeBy T.caps c.maker
  · rw [if_pos hf]
    have HF : ((32 : Int) ≤ (madeBy T.caps c.maker : Nat)) := by omega
    clear h hf hl hn hB
    unfold capV
    go_enter Try.func52, Try.ntmps52
    go_wp2_with (go_at_call 35; refine (qmade_any (H _).out HN.out _).mono ?_; rintro e w1 ⟨rfl, rfl⟩)
    go_ret2
    exact ⟨rfl, (H _).out, DK.of_below ((Below.refl _ w).alloc (Nat.le_refl _) _)⟩
  · rw [if_neg hf]
    have HF : ((madeBy T.caps c.maker : Nat) : Int) < 32 := by omega
    obtain ⟨i0, hi, hz0, hz1, hz2⟩ := info_parts Try.inCap
    obtain ⟨A, cp, rq0, own0, -, -, -, -, hq⟩ := h.out
    have hap := fun g => h.apart own0 (g := g)
    clear h hf hl hn hB
    unfold capV
    go_enter Try.func52, Try.ntmps52
    go_wp2_with fail
    refine (qmade_any (H _).out HN.out _).mono ?_
    rintro e w1 ⟨rfl, hw1⟩
    have b1 := Lib.hid (show Below w.heap.size w w1 by rw [← hw1]; exact (Below.refl _ w).alloc (Nat.le_refl _) _)
    have d0 := Lib.hid (show w1.heap[w.heap.size]? = some (.cells #[.int .i64 c.id, .int .i64 c.parent, .int .i64 c.account, .int .i64 c.maker, .int .i64 c.kind, .int .i64 c.object, .int .i64 c.rights] 43 (0, 0)) by rw [← hw1]; exact heap_alloc_new w _)
    clear hw1
    obtain ⟨⟨c0, c1, c2, c3, c4, c5, c6⟩, ⟨f0, f1, f2, f3, f4, f5, f6⟩, hlt⟩ := seven_of d0.out
    have rq1 := Lib.hid ((b1.out.block q hq).trans rq0)
    have own1 := Lib.hid (owns_eqC own0 fun g hg => b1.out.block g (own0.lt g hg).2)
    have hlo := Lib.hid (fun g hg => (own0.lt g hg).2)
    have HAP := Lib.hid hap
    have t0 := cell_of_row _ _ 0 _ _ _ rq1.out
    have t1 := cell_of_row _ _ 1 _ _ _ rq1.out
    have tf := frozen_of_row _ _ 1 _ _ rq1.out
    have qlt1 : q < w1.heap.size := Nat.lt_of_lt_of_le hq b1.out.size
    have ne : (q = w.heap.size) = False := eq_false (Nat.ne_of_lt hq)
    have ne' : (w.heap.size = q) = False := eq_false (fun e => Nat.ne_of_lt hq e.symm)
    have h1 : (T.last : Int) < 1000 := by have := HL.out; omega
    clear rq0 own0 hap
    go_wp2_with fail
    have hts : q ≠ w.heap.size := Nat.ne_of_lt hq
    have r1 := heap_setCell_same w1 q 1 _ _ (.int .i64 ((T.last : Int) + 1)) rq1.out
    have r2 := (heap_setCell_other w1 ⟨q, 1, none⟩ w.heap.size (.int .i64 ((T.last : Int) + 1)) (fun e => hts e.symm)).trans d0.out
    generalize hW1 : w1.setCell ⟨q, 1, none⟩ (.int .i64 ((T.last : Int) + 1)) = W1 at r1 r2
    have r3 := heap_setCell_same W1 w.heap.size 0 _ _ (.int .i64 ((T.last : Int) + 1)) r2
    have r4 := (heap_setCell_other W1 ⟨w.heap.size, 0, none⟩ q (.int .i64 ((T.last : Int) + 1)) hts).trans r1
    have hsz : (W1.setCell ⟨w.heap.size, 0, none⟩ (.int .i64 ((T.last : Int) + 1))).heap.size = w1.heap.size := by rw [← hW1]; simp
    generalize hW : W1.setCell ⟨w.heap.size, 0, none⟩ (.int .i64 ((T.last : Int) + 1)) = W at r3 r4 hsz
    have OWN := Lib.hid (show W.ownsRow B 43 7 (.slice A T.caps.length cp) T.caps.length (rowC T.caps) from owns_eqC own1.out fun g hg => by
      subst hW hW1
      exact (heap_setCell_other _ ⟨w.heap.size, 0, none⟩ g _ (Nat.ne_of_lt (hlo.out g hg))).trans (heap_setCell_other _ ⟨q, 1, none⟩ g _ (HAP.out g hg)))
    have trW := Lib.hid (show DK B q w W from by
      subst hW hW1
      refine (DK.of_below b1.out).trans ((DK.of_set B q 1 w1 (.int .i64 ((T.last : Int) + 1))).trans ⟨rfl, rfl, rfl, by simp, fun k o ho hk hc => ?_⟩)
      refine (heap_setCell_other _ ⟨w.heap.size, 0, none⟩ k _ (fun e => ?_)).trans ho
      subst e
      rw [r2] at ho
      cases ho
      exact hc HBB.out _ rfl)
    clear hW hW1 t0 t1 tf c0 c1 c2 c3 c4 c5 c6 f0 f1 f2 f3 f4 f5 f6 hlt
    have t0 := cell_of_row _ _ 0 _ _ _ r4
    obtain ⟨⟨c0, c1, c2, c3, c4, c5, c6⟩, -, hlt⟩ := seven_of r3
    have R3 := Lib.hid r3
    have R4 := Lib.hid r4
    have HSZ := Lib.hid hsz
    have QL := Lib.hid (show q < W.heap.size by rw [hsz]; exact qlt1)
    have t0a := (World.cell?_of_block (a := ⟨q, 0, none⟩) (Below.heap_alloc W (.cells #[.int .i64 ((T.last : Int) + 1), .int .i64 c.parent, .int .i64 c.account, .int .i64 c.maker, .int .i64 c.kind, .int .i64 c.object, .int .i64 c.rights] 43) q QL.out)).trans t0
    clear r1 r2 r3 r4 hsz
    skip
    go_region_law (refine step_append_own rfl _ _ 27 rfl B 43 i0 (.agg #[.int .i64 0, .int .i64 0, .int .i64 0, .int .i64 0, .int .i64 0, .int .i64 0, .int .i64 0]) 7 56 Try.underlying27 hi hz0 hz1 hz2 rfl (by decide) _ T.caps.length (rowC T.caps) rfl (OWN.out.alloc _) ⟨W.heap.size, 0, none⟩ 1 1 (capL { c with id := (T.last : Int) + 1 }) rfl rfl (cells_newC W (capL { c with id := (T.last : Int) + 1 }) 43) (capL_one _) (by have := HN.out; unfold maxLen; omega) (by have := HN.out; omega) (by have := HSZ.out; have := HBB.out; have := b1.out.size; simp; omega) ?_; intro v' w3 hown' hg3; obtain ⟨Av, cv, ev, -, -⟩ := own_formC hown'; subst ev; have HO3 := Lib.hid hown'; have HG3 := Lib.hid hg3; have rw3 := (hg3.block q (by have := QL.out; simp; omega) (fun e => HAP.out q e.symm rfl)).trans ((Below.heap_alloc _ _ _ QL.out).trans R4.out); have rb3 := (hg3.block w.heap.size (by have := (Array.getElem?_eq_some_iff.1 R3.out).1; simp; omega) (fun e => by have := hlo.out _ e.symm; omega)).trans ((Below.heap_alloc _ _ _ (Array.getElem?_eq_some_iff.1 R3.out).1).trans R3.out); have u0 := cell_of_row _ _ 0 _ _ _ rw3; have uf := frozen_of_row _ _ 0 _ _ rw3; have ub := cell_of_row _ _ 0 _ _ _ rb3; have ul := (Array.getElem?_eq_some_iff.1 rw3).1; clear rw3 rb3 hown' hg3)
    all_goals
      go_wp2_with fail
      go_ret2
      exact ⟨rfl, qadd_done HH.out.hq HL.out hts trW.out OWN.out (fun g hg => HAP.out g hg) R4.out (((Below.refl _ W).alloc (Nat.le_refl _) _).drew) HO3.out HG3.out⟩
end
end Go.Proofs.Ytakgjakcbpdefaa
