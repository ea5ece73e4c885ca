/- What tests ask for together, in memory: add. -/
import Derived.Test.YteibholghonajaaFiF
namespace Go.Proofs.Yteibholghonajaa
open Go.RowKit

def smV (s : Sm) (k : Nat) : Value := if k = 0 then .int .i64 (s.size : Int) else if k < 65 then .int .u8 (s.M (k - 1) : Int) else .int .u8 (s.V (k - 65) : Int)
def smA (s : Sm) : Array Value := Array.ofFn (n := 129) fun k => smV s k.val
theorem smA_size (s : Sm) : (smA s).size = 129 := by simp [smA]
theorem smA_at (s : Sm) {k : Nat} (h : k < 129) : (smA s)[k]? = some (smV s k) := by
  unfold smA; rw [Array.getElem?_ofFn]; simp [h]
theorem smA_one (s : Sm) : (smA s).all (·.oneCell') = true := by
  rw [Array.all_eq_true]
  intro i hi
  have h := smA_at s (by rw [smA_size] at hi; exact hi)
  rw [Array.getElem?_eq_getElem hi] at h
  rw [Option.some.inj h]
  unfold smV
  split
  · rfl
  · split <;> rfl
structure SmOk (s : Sm) : Prop where
  n : s.size ≤ 64
  m : ∀ q, s.M q < 256
  v : ∀ q, s.V q < 256
def SmAt (w : World) (g : Nat) (s : Sm) : Prop := w.heap[g]? = some (.cells (smA s) 57 (0, 0))
section
variable {w : World} {g : Nat} {s : Sm}
theorem SmAt.lt (h : SmAt w g s) : g < w.heap.size := (Array.getElem?_eq_some_iff.1 h).1
theorem SmAt.c0 (h : SmAt w g s) : w.cell? ⟨g, 0, none⟩ = some (.int .i64 (s.size : Int)) := by
  rw [cell_of_row _ _ _ _ _ _ h, smA_at s (by omega)]; rfl
theorem SmAt.cM (h : SmAt w g s) {q : Nat} (hq : q < 64) : w.cell? ⟨g, 1 + q, none⟩ = some (.int .u8 (s.M q : Int)) := by
  rw [cell_of_row _ _ _ _ _ _ h, smA_at s (by omega)]
  unfold smV
  rw [if_neg (by omega), if_pos (by omega), show 1 + q - 1 = q by omega]
theorem SmAt.cV (h : SmAt w g s) {q : Nat} (hq : q < 64) : w.cell? ⟨g, 65 + q, none⟩ = some (.int .u8 (s.V q : Int)) := by
  rw [cell_of_row _ _ _ _ _ _ h, smA_at s (by omega)]
  unfold smV
  rw [if_neg (by omega), if_neg (by omega), show 65 + q - 65 = q by omega]
theorem SmAt.fz (h : SmAt w g s) (o : Nat) : w.frozen? ⟨g, o, none⟩ = false := frozen_of_row _ _ o _ _ h
theorem SmAt.below {w' : World} (h : SmAt w g s) (hb : Below w.heap.size w w') : SmAt w' g s := (hb.block g h.lt).trans h
end
theorem smA_add (s : Sm) (n : Tn) (hp : n.p < 64) : (((smA s).setIfInBounds 0 (.int .i64 ((max s.size (n.p + 1) : Nat) : Int))).setIfInBounds (1 + n.p) (.int .u8 ((s.M n.p ||| n.m : Nat) : Int))).setIfInBounds (65 + n.p) (.int .u8 ((s.V n.p ||| n.v : Nat) : Int)) = smA (s.add n) := by
  apply Array.ext
  · simp [smA_size]
  · intro i h1 h2
    have hi : i < 129 := by rw [smA_size] at h2; exact h2
    rw [← Option.some_inj, ← Array.getElem?_eq_getElem h1, ← Array.getElem?_eq_getElem h2, smA_at _ hi]
    rw [Array.getElem?_setIfInBounds, Array.getElem?_setIfInBounds, Array.getElem?_setIfInBounds]
    simp only [Array.size_setIfInBounds, smA_size, smA_at s hi]
    unfold smV Sm.add upd
    simp only
    by_cases h5 : 65 + n.p = i
    · subst h5
      rw [if_pos rfl, if_pos (by omega), if_neg (by omega), if_neg (by omega), show 65 + n.p - 65 = n.p by omega, if_pos rfl]
    · rw [if_neg h5]
      by_cases h3 : 1 + n.p = i
      · subst h3
        rw [if_pos rfl, if_pos (by omega), if_neg (by omega), if_pos (by omega), show 1 + n.p - 1 = n.p by omega, if_pos rfl]
      · rw [if_neg h3]
        by_cases h0 : 0 = i
        · subst h0; simp
        · rw [if_neg h0, if_neg (by omega)]
          rw [if_neg (show ¬ i = 0 by omega)]
          by_cases h6 : i < 65
          · rw [if_pos h6, if_pos h6, if_neg (show ¬ i - 1 = n.p by omega)]
          · rw [if_neg h6, if_neg h6, if_neg (show ¬ i - 65 = n.p by omega)]
theorem gen_world {C : World → Prop} (W : World) (P : World → Prop) (hP : P W) (h : ∀ W', P W' → C W') : C W := h W hP
/-- On the way through add: the sum's cells, and the box. -/
structure AddMid (w W : World) (g : Nat) (A : Array Value) (p m v : Nat) : Prop where
  row : W.heap[g]? = some (.cells A 57 (0, 0))
  box : W.heap[w.heap.size]? = some (.cells #[.int .i64 (p : Int), .int .i64 (m : Int), .int .i64 (v : Int)] 52 (0, 0))
  turn : TurnO (· = g) w W
  lt : g < w.heap.size
theorem AddMid.start {w : World} {g : Nat} {s : Sm} (h : SmAt w g s) (p m v k k' : Nat) : AddMid w (((w.alloc (Obj.cells #[.int .i64 (p : Int), .int .i64 (m : Int), .int .i64 (v : Int)] 52)).drewN k).drewN k') g (smA s) p m v :=
  ⟨(((Below.refl _ w).alloc (Nat.le_refl _) _).block g h.lt).trans h, heap_alloc_new w _, TurnO.of_below (below_drewN (below_drewN ((Below.refl _ w).alloc (Nat.le_refl _) _) k) k'), h.lt⟩
theorem AddMid.set {w W : World} {g : Nat} {A : Array Value} {p m v : Nat} (h : AddMid w W g A p m v) (k o : Nat) (x : Value) : AddMid w ((W.drewN k).setCell ⟨g, o, none⟩ x) g (A.setIfInBounds o x) p m v := by
  refine ⟨heap_setCell_same _ _ _ _ _ _ h.row, ?_, ?_, h.lt⟩
  · rw [heap_setCell_other _ _ _ _ (show ¬ w.heap.size = g by have := h.lt; omega)]
    exact h.box
  · exact (h.turn.trans (TurnO.of_below (below_drewN (Below.refl _ _) k) : TurnO (· = g) W (W.drewN k)) (fun b hb => .inl hb)).trans ⟨rfl, rfl, rfl, by simp [World.setCell], fun k hk hn => heap_setCell_other _ _ _ _ hn⟩ (fun b hb => .inl hb)
section
variable {w W : World} {g : Nat} {A : Array Value} {p m v : Nat} (h : AddMid w W g A p m v)
include h
theorem AddMid.b0 : W.cell? ⟨w.heap.size, 0, none⟩ = some (.int .i64 (p : Int)) := by rw [cell_of_row _ _ _ _ _ _ h.box]; rfl
theorem AddMid.b1 : W.cell? ⟨w.heap.size, 1, none⟩ = some (.int .i64 (m : Int)) := by rw [cell_of_row _ _ _ _ _ _ h.box]; rfl
theorem AddMid.b2 : W.cell? ⟨w.heap.size, 2, none⟩ = some (.int .i64 (v : Int)) := by rw [cell_of_row _ _ _ _ _ _ h.box]; rfl
theorem AddMid.at {o : Nat} {x : Value} (hx : A[o]? = some x) : W.cell? ⟨g, o, none⟩ = some x := by rw [cell_of_row _ _ _ _ _ _ h.row]; exact hx
theorem AddMid.fz (o : Nat) : W.frozen? ⟨g, o, none⟩ = false := frozen_of_row _ _ o _ _ h.row
theorem AddMid.l1 : g < W.heap.size := (Array.getElem?_eq_some_iff.1 h.row).1
theorem AddMid.l2 : w.heap.size < W.heap.size := (Array.getElem?_eq_some_iff.1 h.box).1
end
set_option maxHeartbeats 4000000 in
set_option maxRecDepth 100000 in
theorem add_any {w : World} {g : Nat} {s : Sm} (h : SmAt w g s) (hs : SmOk s) (p m v : Nat) (ho : (⟨p, m, v⟩ : Tn).Ok) :
    Calls Try.prog 38 #[.pointer (some ⟨g, 0, none⟩), .agg #[.int .i64 (p : Int), .int .i64 (m : Int), .int .i64 (v : Int)]] w fun e w' => e = .returned (.bool (s.can ⟨p, m, v⟩)) ∧ SmAt w' g (s.add ⟨p, m, v⟩) ∧ TurnO (· = g) w w' := by
  obtain ⟨hp, hm, hv⟩ := ho
  simp only at hp hm hv
  have hM := hs.m p
  have hV := hs.v p
  have hn := hs.n
  have c0 := h.c0
  have cM := h.cM hp
  have cV := h.cV hp
  have fz := h.fz
  have hlt := h.lt
  have AM0 := Lib.hid (fun k k' => AddMid.start h p m v k k')
  have X0 := Lib.hid (smA_at s (k := 0) (by omega))
  have X1 : Hid ((smA s)[1 + p]? = some (.int .u8 (s.M p : Int))) := Lib.hid (by rw [smA_at s (by omega)]; unfold smV; rw [if_neg (by omega), if_pos (by omega), show 1 + p - 1 = p by omega])
  have X2 : Hid ((smA s)[65 + p]? = some (.int .u8 (s.V p : Int))) := Lib.hid (by rw [smA_at s (by omega)]; unfold smV; rw [if_neg (by omega), if_neg (by omega), show 65 + p - 65 = p by omega])
  clear h hs
  have e1 := u8_xor_nat v (s.V p) hv hV
  have e2 := u8_and_nat (v ^^^ s.V p) m (Nat.xor_lt_two_pow (n := 8) hv hV) hm
  have e3 := u8_and_nat ((v ^^^ s.V p) &&& m) (s.M p) (Nat.lt_of_le_of_lt Nat.and_le_right hm) hM
  have e4 := u8_or_nat (s.M p) m hM hm
  have e5 := u8_or_nat (s.V p) v hV hv
  have e6 := u8_andNot_nat v m hv hm
  have EA := Lib.hid (smA_add s ⟨p, m, v⟩ hp)
  have EC := Lib.hid (show s.can ⟨p, m, v⟩ = ((v &&& (255 - m)) == 0 && (((v ^^^ s.V p) &&& m) &&& s.M p) == 0) from rfl)
  simp only at EA
  generalize v &&& (255 - m) = y at e6 EC
  generalize ((v ^^^ s.V p) &&& m) &&& s.M p = x at e3 EC
  generalize (v ^^^ s.V p) &&& m = x2 at e2 e3
  generalize v ^^^ s.V p = x1 at e1 e2
  generalize s.M p ||| m = om at e4 EA
  generalize s.V p ||| v = ov at e5 EA
  generalize s.V p = vp at cV hV e1 e5 X2
  generalize s.M p = mp at cM hM e3 e4 X1
  go_enter Try.func38, Try.ntmps38
  go_wp2
  go_quiet (fail)
  go_wp2
  go_quiet (fail)
  clear c0 cM cV fz
  refine gen_world (C := fun W => Exit.then _ _ _ _ W) _ (fun W => AddMid w W g (smA s) p m v) (AM0.out _ _) (fun W1 h1 => ?_)
  have c0 : W1.cell? ⟨g, 0, none⟩ = some (.int .i64 (s.size : Int)) := h1.at X0.out
  have b0 := h1.b0
  have fz := h1.fz 0
  have l1 := h1.l1
  have l2 := h1.l2
  have H1 := Lib.hid h1
  clear h1
  go_wp2_with fail
  go_region
  obtain ⟨z, hz⟩ : ∃ z : Int, (if (s.size : Int) < (p : Int) + 1 then (p : Int) + 1 else s.size) = z := ⟨_, rfl⟩
  rw [hz]
  have HZ := Lib.hid (show z = ((max s.size (p + 1) : Nat) : Int) by rw [← hz]; split <;> omega)
  clear hz
  refine gen_world (C := fun W => Exit.then _ _ _ _ W) _ (fun W => AddMid w W g ((smA s).setIfInBounds 0 (.int .i64 z)) p m v) (H1.out.set _ 0 _) (fun W2 h2 => ?_)
  clear c0 b0 fz l1 l2
  have c1 : W2.cell? ⟨g, 1 + p, none⟩ = some (.int .u8 (mp : Int)) := h2.at (by rw [Array.getElem?_setIfInBounds, if_neg (by omega)]; exact X1.out)
  have b0 := h2.b0
  have fz := h2.fz (1 + p)
  have l1 := h2.l1
  have l2 := h2.l2
  have H2 := Lib.hid h2
  clear h2
  go_wp2_with fail
  go_region
  refine gen_world (C := fun W => Exit.then _ _ _ _ W) _ (fun W => AddMid w W g (((smA s).setIfInBounds 0 (.int .i64 z)).setIfInBounds (1 + p) (.int .u8 (om : Int))) p m v) (H2.out.set _ (1 + p) _) (fun W3 h3 => ?_)
  clear c1 b0 fz l1 l2
  have c2 : W3.cell? ⟨g, 65 + p, none⟩ = some (.int .u8 (vp : Int)) := h3.at (by rw [Array.getElem?_setIfInBounds, if_neg (by omega), Array.getElem?_setIfInBounds, if_neg (by omega)]; exact X2.out)
  have b0 := h3.b0
  have fz := h3.fz (65 + p)
  have l1 := h3.l1
  have l2 := h3.l2
  have H3 := Lib.hid h3
  clear h3
  go_wp2_with fail
  go_region
  refine gen_world (C := fun W => Exit.then _ _ _ _ W) _ (fun W => AddMid w W g ((((smA s).setIfInBounds 0 (.int .i64 z)).setIfInBounds (1 + p) (.int .u8 (om : Int))).setIfInBounds (65 + p) (.int .u8 (ov : Int))) p m v) (H3.out.set _ (65 + p) _) (fun W4 h4 => ?_)
  clear c2 b0 fz l1 l2
  have FIN : Hid (SmAt W4 g (s.add ⟨p, m, v⟩) ∧ TurnO (· = g) w W4) := Lib.hid (by
    refine ⟨?_, h4.turn⟩
    have := h4.row
    rw [HZ.out, EA.out] at this
    exact this)
  clear h4
  by_cases hy : y = 0
  · have hy1 : ((y : Int) == 0) = true := by simpa using hy
    by_cases hx : x = 0
    · have hx1 : ((x : Int) == 0) = true := by simpa using hx
      have EC2 := Lib.hid (show s.can ⟨p, m, v⟩ = true by rw [EC.out, hy, hx]; rfl)
      clear hy hx
      go_wp2_with fail
      all_goals
        go_ret
        exact ⟨ret_bool EC2.out.symm, FIN.out⟩
    · have hx1 : ((x : Int) == 0) = false := by simpa using hx
      have EC2 := Lib.hid (show s.can ⟨p, m, v⟩ = false by rw [EC.out]; simp [hx])
      clear hy hx
      go_wp2_with fail
      all_goals
        go_ret
        exact ⟨ret_bool EC2.out.symm, FIN.out⟩
  · have hy1 : ((y : Int) == 0) = false := by simpa using hy
    have EC2 := Lib.hid (show s.can ⟨p, m, v⟩ = false by rw [EC.out]; simp [hy])
    clear hy
    go_wp2_with fail
    all_goals
      go_ret
      exact ⟨ret_bool EC2.out.symm, FIN.out⟩
end Go.Proofs.Yteibholghonajaa
