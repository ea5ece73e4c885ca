/- Frames change: a hold more, a hold less, let go of; what the state is behind each. -/
import Derived.Test.YtjbamldhoeblbaaFrmC
import Derived.Lib.FrozenHead
import Derived.Deep.WholeRow
import Derived.Laws.CopyOwn
import Derived.Great.BuildSlice
namespace Go.Proofs.Ytjbamldhoeblbaa
open Go.RowKit Go.Shelf

def St.withHold (s : St) (f : Nat) (h : Int) : St := { s with fr := s.fr.set f (s.own f, h) }
def St.granted (s : St) (f : Nat) (a : Int) : St := { s with fr := s.fr.set f (a, 1) }
def St.freed (s : St) (f : Nat) : St := { s with fr := s.fr.set f (0, 0), byt := fun i j => if i = f then 0 else s.byt i j }
def St.putAt (s : St) (f o : Nat) (b : List Int) : St := { s with byt := fun i j => if i = f ∧ o ≤ j ∧ j < o + b.length then b.getD (j - o) 0 else s.byt i j }

theorem getD_set_f (l : List (Int × Int)) (f : Nat) (x : Int × Int) (i : Nat) (hf : f < l.length) : (l.set f x).getD i (0, 0) = if i = f then x else l.getD i (0, 0) := by
  simp only [List.getD_eq_getElem?_getD, List.getElem?_set]
  by_cases h : i = f
  · subst h; simp [hf]
  · rw [if_neg h, if_neg (fun e => h e.symm)]
theorem own_withHold (s : St) (f : Nat) (h : Int) (hf : f < s.n) (i : Nat) : (s.withHold f h).own i = s.own i := by
  unfold St.own St.withHold; dsimp only; rw [getD_set_f _ _ _ _ hf]; split
  · rename_i e; subst e; rfl
  · rfl
theorem hold_withHold (s : St) (f : Nat) (h : Int) (hf : f < s.n) (i : Nat) : (s.withHold f h).hold i = if i = f then h else s.hold i := by
  unfold St.hold St.withHold; dsimp only; rw [getD_set_f _ _ _ _ hf]; split <;> rfl
theorem own_granted (s : St) (f : Nat) (a : Int) (hf : f < s.n) (i : Nat) : (s.granted f a).own i = if i = f then a else s.own i := by
  unfold St.own St.granted; dsimp only; rw [getD_set_f _ _ _ _ hf]; split <;> rfl
theorem hold_granted (s : St) (f : Nat) (a : Int) (hf : f < s.n) (i : Nat) : (s.granted f a).hold i = if i = f then 1 else s.hold i := by
  unfold St.hold St.granted; dsimp only; rw [getD_set_f _ _ _ _ hf]; split <;> rfl
theorem own_freed (s : St) (f : Nat) (hf : f < s.n) (i : Nat) : (s.freed f).own i = if i = f then 0 else s.own i := by
  unfold St.own St.freed; dsimp only; rw [getD_set_f _ _ _ _ hf]; split <;> rfl
theorem hold_freed (s : St) (f : Nat) (hf : f < s.n) (i : Nat) : (s.freed f).hold i = if i = f then 0 else s.hold i := by
  unfold St.hold St.freed; dsimp only; rw [getD_set_f _ _ _ _ hf]; split <;> rfl
theorem n_withHold (s : St) (f : Nat) (h : Int) : (s.withHold f h).n = s.n := by simp [St.n, St.withHold]
theorem n_granted (s : St) (f : Nat) (a : Int) : (s.granted f a).n = s.n := by simp [St.n, St.granted]
theorem n_freed (s : St) (f : Nat) : (s.freed f).n = s.n := by simp [St.n, St.freed]
theorem ok_withHold {s : St} (h : StOk s) (f : Nat) (x : Int) (hf : f < s.n) (h0 : 0 ≤ x) (h1 : x ≤ 65535) : StOk (s.withHold f x) :=
  ⟨by rw [n_withHold]; exact h.n1, by rw [n_withHold]; exact h.n2, h.k2, fun i => by rw [hold_withHold _ _ _ hf]; split; exact h0; exact h.h0 i, fun i => by rw [hold_withHold _ _ _ hf]; split; exact h1; exact h.h1 i, h.b0, h.b1⟩
theorem ok_granted {s : St} (h : StOk s) (f : Nat) (a : Int) (hf : f < s.n) : StOk (s.granted f a) :=
  ⟨by rw [n_granted]; exact h.n1, by rw [n_granted]; exact h.n2, h.k2, fun i => by rw [hold_granted _ _ _ hf]; split; decide; exact h.h0 i, fun i => by rw [hold_granted _ _ _ hf]; split; decide; exact h.h1 i, h.b0, h.b1⟩
theorem ok_freed {s : St} (h : StOk s) (f : Nat) (hf : f < s.n) : StOk (s.freed f) :=
  ⟨by rw [n_freed]; exact h.n1, by rw [n_freed]; exact h.n2, h.k2, fun i => by rw [hold_freed _ _ hf]; split; decide; exact h.h0 i, fun i => by rw [hold_freed _ _ hf]; split; decide; exact h.h1 i,
    fun i j => by show 0 ≤ (if i = f then 0 else s.byt i j); split; decide; exact h.b0 i j, fun i j => by show (if i = f then 0 else s.byt i j) < 256; split; decide; exact h.b1 i j⟩
theorem ok_putAt {s : St} (h : StOk s) (f o : Nat) (b : List Int) (h0 : ∀ x ∈ b, 0 ≤ x ∧ x < 256) : StOk (s.putAt f o b) := by
  have hb : ∀ j, 0 ≤ b.getD j 0 ∧ b.getD j 0 < 256 := fun j => by
    rw [List.getD_eq_getElem?_getD]
    cases e : b[j]? with
    | none => decide
    | some x => exact h0 x (List.mem_of_getElem? e)
  refine ⟨h.n1, h.n2, h.k2, h.h0, h.h1, fun i j => ?_, fun i j => ?_⟩
  · show 0 ≤ (if i = f ∧ o ≤ j ∧ j < o + b.length then b.getD (j - o) 0 else s.byt i j); split; exact (hb _).1; exact h.b0 i j
  · show (if i = f ∧ o ≤ j ∧ j < o + b.length then b.getD (j - o) 0 else s.byt i j) < 256; split; exact (hb _).2; exact h.b1 i j

/-- A frame's holds were written. -/
theorem pool_withHold {w : World} {p F Q c : Nat} {s : St} (h : PoolAt w p F Q c s) (f : Nat) (hf : f < s.n) (x : Int) (h0 : 0 ≤ x) (h1 : x ≤ 65535) : PoolAt (w.setCell ⟨F, f * 258 + 1, none⟩ (.int .i64 x)) p F Q c (s.withHold f x) := by
  refine pool_set h f 1 (by omega) (ok_withHold h.ok f x hf h0 h1) (n_withHold _ _ _) rfl _ (fun _ => ?_) (fun i j hi hj hne => ?_)
  · unfold St.cv; rw [hold_withHold _ _ _ hf]; simp
  · unfold St.cv; rw [own_withHold _ _ _ hf, hold_withHold _ _ _ hf]
    split
    · rfl
    · split
      · rename_i e; rw [if_neg (by omega)]
      · rfl

set_option maxRecDepth 100000 in
theorem hold_yes {w : World} {p F Q c : Nat} {s : St} (h : PoolAt w p F Q c s) (f : Nat) (hf : f < s.n) (hh : 0 < s.hold f) (hm : s.hold f < 65535) :
    Calls Try.prog 18 #[.pointer (some ⟨p, 0, none⟩), .int .i64 f] w fun e w' => e = .returned (.int .i64 0) ∧ PoolAt w' p F Q c (s.withHold f (s.hold f + 1)) ∧ w.grownBy w' (some F) := by
  have HP := Lib.hid h
  have HW := Lib.hid (pool_withHold h f hf (s.hold f + 1) (by omega) (by omega))
  have hc := h.hold f hf
  have hz := h.fz (f * 258 + 1)
  have hb : (s.hold f == 65535) = false := by simp; omega
  clear h
  go_enter Try.func18, Try.ntmps18
  go_wp2_with (go_at_call 51; refine (owned_yes HP.out f hf hh).mono ?_; rintro e w' ⟨rfl, rfl⟩)
  go_ret
  exact ⟨rfl, HW.out, pool_set_grown _ _ _⟩
theorem hold_full {w : World} {p F Q c : Nat} {s : St} (h : PoolAt w p F Q c s) (f : Nat) (hf : f < s.n) (hm : s.hold f = 65535) :
    Calls Try.prog 18 #[.pointer (some ⟨p, 0, none⟩), .int .i64 f] w fun e w' => e = .returned (.int .i64 5) ∧ w = w' := by
  have HP := Lib.hid h
  have hh : 0 < s.hold f := by omega
  have hc := h.hold f hf
  rw [hm] at hc
  clear h
  go_enter Try.func18, Try.ntmps18
  go_wp2_with (go_at_call 51; refine (owned_yes HP.out f hf hh).mono ?_; rintro e w' ⟨rfl, rfl⟩)
  go_ret
  exact ⟨rfl, rfl⟩
/-- Not a frame that is owned. -/
def St.gone (s : St) (f : Int) : Prop := f < 0 ∨ (s.n : Int) ≤ f ∨ ∃ k : Nat, f = k ∧ k < s.n ∧ s.hold k = 0
theorem owned_gone {w : World} {p F Q c : Nat} {s : St} (h : PoolAt w p F Q c s) (f : Int) (hg : s.gone f) :
    Calls Try.prog 51 #[.pointer (some ⟨p, 0, none⟩), .int .i64 f] w fun e w' => e = .returned (.tuple #[.pointer none, .int .i64 6]) ∧ w = w' := by
  rcases hg with hg | hg | ⟨k, rfl, hk, hz⟩
  · exact owned_out h f (.inl hg)
  · exact owned_out h f (.inr hg)
  · exact owned_free h k hk hz
theorem hold_gone {w : World} {p F Q c : Nat} {s : St} (h : PoolAt w p F Q c s) (f : Int) (hg : s.gone f) :
    Calls Try.prog 18 #[.pointer (some ⟨p, 0, none⟩), .int .i64 f] w fun e w' => e = .returned (.int .i64 6) ∧ w = w' := by
  go_enter Try.func18, Try.ntmps18
  go_wp2_with (go_at_call 51; refine (owned_gone h f hg).mono ?_; rintro e w' ⟨rfl, rfl⟩)
  go_ret
  exact ⟨rfl, rfl⟩

theorem getElem_splice {α : Type} (L cs : List α) (off : Nat) (hf : off + cs.length ≤ L.length) (k : Nat) : (splice L off cs)[k]? = if off ≤ k ∧ k < off + cs.length then cs[k - off]? else L[k]? := by
  have e : (L.take off).length = off := by rw [List.length_take]; omega
  unfold splice
  by_cases h1 : k < off
  · rw [List.getElem?_append_left (by omega), List.getElem?_take_of_lt h1, if_neg (by omega)]
  · rw [List.getElem?_append_right (by omega), e]
    by_cases h2 : k < off + cs.length
    · rw [List.getElem?_append_left (by omega), if_pos (by omega)]
    · rw [List.getElem?_append_right (by omega), List.getElem?_drop, if_neg (by omega), show off + cs.length + (k - off - cs.length) = k by omega]

set_option maxRecDepth 100000 in
/-- A piece of one frame's cells was written. -/
theorem pool_span {w : World} {p F Q c : Nat} {s s' : St} (h : PoolAt w p F Q c s) {cur : Array Value} {t : TypeId} (hr : w.heap[F]? = some (.cells cur t (0, 0))) (f m : Nat) (cs : List Value) (hf : f < s.n) (hm : m + cs.length ≤ 258)
    (ok : StOk s') (hn : s'.n = s.n) (hq : s'.quo = s.quo) (hv : ∀ j, j < cs.length → cs[j]? = some (s'.cv f (m + j)))
    (ho : ∀ i j, i < s.n → j < 258 → (i ≠ f ∨ j < m ∨ m + cs.length ≤ j) → s'.cv i j = s.cv i j) : PoolAt (w.setRow F (splice cur.toList (f * 258 + m) cs).toArray) p F Q c s' := by
  obtain ⟨cur', t', h1, h2, h3⟩ := h.row
  rw [hr] at h1
  cases h1
  have hfn : f * 258 + 258 ≤ s.n * 258 := by omega
  have hcl : cur.toList.length = s.n * 258 := Array.length_toList.trans h2
  have hfit : f * 258 + m + cs.length ≤ cur.toList.length := by omega
  refine pool_row h ⟨rfl, rfl, rfl, by simp, fun k _ hk => setRow_other w F k _ (fun e => hk (by simp [e]))⟩ ok hn hq ⟨_, t, setRow_heap w F _ _ _ _ hr, ?_, fun i j hi hj => ?_⟩
  · rw [List.size_toArray, length_splice _ _ _ hfit, Array.length_toList, h2]
  · rw [List.getElem?_toArray, getElem_splice _ _ _ hfit]
    split
    · rename_i he
      have e1 : i = f := by omega
      subst e1
      rw [hv _ (by omega), show m + (i * 258 + j - (i * 258 + m)) = j by omega]
    · rename_i he
      rw [Array.getElem?_toList, h3 i j hi hj, ho i j hi hj (by omega)]
theorem pool_span_grown {w : World} (F : Nat) (cs : Array Value) : w.grownBy (w.setRow F cs) (some F) := ⟨rfl, rfl, rfl, by simp, fun k _ hk => setRow_other w F k _ (fun e => hk (by simp [e]))⟩

/-- A whole value of many cells is stored amid a row. -/
theorem wpList_store_amid {P : Program} {ops : Array Oper} {rest : List Oper} {o : Oper} {a : Act} {w : World} {Q : Exit → Act → World → Prop} (hgd : o.guard = none) (ty : TypeId) (x y : Operand) (ho : o.op = .store ty x y)
    (g off : Nat) (cells : Array Value) (hx : a.eval x = .pointer (some ⟨g, off, none⟩)) (hy : a.eval y = .agg cells)
    (t : TypeId) (old : Array Value) (hg : w.heap[g]? = some (.cells old t (0, 0))) (hi : (P.info? ty).map (·.size) = some cells.size)
    (hold : off + cells.size ≤ old.size) (h1 : cells.all (·.oneCell') = true)
    (h : wpList P ops Q rest (a.put o.dst undef) (w.setRow g (splice old.toList off cells.toList).toArray)) : wpList P ops Q (o :: rest) a w := by
  refine wpList_plain hgd fun K hK => ?_
  have hst : (storeVar ty ⟨g, off, none⟩ (.agg cells)).run P w = .ok () (w.setRow g (splice old.toList off cells.toList).toArray) := by
    have := run_storeCells_atF P g off t (0, 0) cells.toList 0 old w hg (by simp) (by simpa using hold) (fun v hv => (Array.all_eq_true_iff_forall_mem.1 h1) v (by simpa using hv))
    rw [Nat.add_zero, List.append_assoc] at this
    cases hq : P.info? ty with
    | none => simp [hq] at hi
    | some i =>
      have hs : cells.size = i.size := by simp [hq] at hi; omega
      simp [storeVar, sizeOf, typeInfo, hq, Value.cells, hs, this, splice]
  unfold Oper.wp execOp
  simp only [ho, hx, hy, Instr.storeAt, Instr.sureAddr, Sem.run_bind, Sem.run_pure, Result.andThen_ok, hst]
  exact hK _ _ h

theorem two_then_get (u v x : Value) (n j : Nat) (hj : j < n + 2) : (#[u, v] ++ Array.replicate n x)[j]? = some (if j = 0 then u else if j = 1 then v else x) := by
  have e2 : (#[u, v] : Array Value).size = 2 := rfl
  by_cases h0 : j = 0
  · subst h0; rw [Array.getElem?_append_left (by rw [e2]; omega)]; rfl
  · by_cases h1 : j = 1
    · subst h1; rw [Array.getElem?_append_left (by rw [e2]; omega)]; rfl
    · rw [Array.getElem?_append_right (by rw [e2]; omega), e2, if_neg h0, if_neg h1, Array.getElem?_replicate, if_pos (by omega)]
def memZero : Array Value := #[.int .i64 0, .int .i64 0] ++ Array.replicate 256 (.int .u8 0)
theorem memZero_size : memZero.size = 258 := by unfold memZero; rw [Array.size_append, Array.size_replicate]; rfl
theorem memZero_get (j : Nat) (hj : j < 258) : memZero.toList[j]? = some (if j = 0 then .int .i64 0 else if j = 1 then .int .i64 0 else .int .u8 0) :=
  (Array.getElem?_toList ..).trans (two_then_get _ _ _ 256 j hj)
theorem memZero_len : memZero.toList.length = 258 := Array.length_toList.trans memZero_size
set_option maxRecDepth 100000 in
theorem pool_freed {w : World} {p F Q c : Nat} {s : St} (h : PoolAt w p F Q c s) {cur : Array Value} {t : TypeId} (hr : w.heap[F]? = some (.cells cur t (0, 0))) (f : Nat) (hf : f < s.n) :
    PoolAt (w.setRow F (splice cur.toList (f * 258) memZero.toList).toArray) p F Q c (s.freed f) := by
  refine pool_span h hr f 0 memZero.toList hf (by rw [memZero_len]; omega) (ok_freed h.ok f hf) (n_freed _ _) rfl (fun j hj => ?_) (fun i j hi hj hne => ?_)
  · rw [memZero_len] at hj
    rw [memZero_get j hj, Nat.zero_add]
    unfold St.cv
    rw [own_freed _ _ hf, hold_freed _ _ hf]
    simp [St.freed]
  · have hne : i ≠ f := by rw [memZero_len] at hne; omega
    unfold St.cv
    rw [own_freed _ _ hf, hold_freed _ _ hf]
    simp [St.freed, hne]

set_option maxRecDepth 100000 in
theorem mfree {w : World} {p F Q c : Nat} {s : St} (h : PoolAt w p F Q c s) (f : Nat) (hf : f < s.n) :
    Calls Try.prog 52 #[.pointer (some ⟨F, f * 258, none⟩)] w fun e w' => e = .returned (.tuple #[]) ∧ PoolAt w' p F Q c (s.freed f) ∧ w.grownBy w' (some F) := by
  obtain ⟨cur, t, hr, hs, -⟩ := h.row
  have HF := Lib.hid (pool_freed h hr f hf)
  clear h
  go_enter Try.func52, Try.ntmps52
  go_wp2_with (first
    | (refine wpList_buildTo rfl 76 _ rfl (some 3) rfl memZero (by kernel_rfl) ?_)
    | (refine wpList_store_amid rfl 76 _ _ rfl F (f * 258) memZero rfl rfl t cur hr (by kernel_rfl) (by rw [memZero_size, hs]; omega) (by kernel_rfl) ?_))
  go_end0
  exact ⟨rfl, HF.out, pool_span_grown _ _⟩

theorem grown_trans {a b c : World} {r : Option Nat} (h1 : a.grownBy b r) (h2 : b.grownBy c r) : a.grownBy c r :=
  ⟨h2.os.trans h1.os, h2.tape.trans h1.tape, h2.output.trans h1.output, Nat.le_trans h1.size h2.size, fun k hk hr => (h2.block k (Nat.lt_of_lt_of_le hk h1.size) hr).trans (h1.block k hk hr)⟩
theorem grown_below {a b : World} {F B : Nat} (h : a.grownBy b (some F)) (hB : B ≤ a.heap.size) (hF : B ≤ F) : Below B a b :=
  ⟨h.os, h.tape, h.output, h.size, fun k hk => h.block k (by omega) (fun e => by cases e; omega)⟩

set_option maxRecDepth 100000 in
/-- A hold less: it is still held. -/
theorem drop_more {w : World} {p F Q c : Nat} {s : St} (h : PoolAt w p F Q c s) (f : Nat) (hf : f < s.n) (hh : 1 < s.hold f) :
    Calls Try.prog 19 #[.pointer (some ⟨p, 0, none⟩), .int .i64 f] w fun e w' => e = .returned (.tuple #[.bool false, .int .i64 0]) ∧ PoolAt w' p F Q c (s.withHold f (s.hold f - 1)) ∧ w.grownBy w' (some F) := by
  have HP := Lib.hid h
  have hm := h.ok.h1 f
  have HW := Lib.hid (pool_withHold h f hf (s.hold f - 1) (by omega) (by omega))
  have hc := h.hold f hf
  have hz := h.fz (f * 258 + 1)
  have hp : 0 < s.hold f - 1 := by omega
  clear h
  go_enter Try.func19, Try.ntmps19
  go_wp2_with (go_at_call 51; refine (owned_yes HP.out f hf (by omega)).mono ?_; rintro e w' ⟨rfl, rfl⟩)
  go_ret2
  exact ⟨rfl, HW.out, pool_set_grown _ _ _⟩
set_option maxRecDepth 100000 in
/-- The last hold: it is free. -/
theorem drop_last {w : World} {p F Q c : Nat} {s : St} (h : PoolAt w p F Q c s) (f : Nat) (hf : f < s.n) (hh : s.hold f = 1) :
    Calls Try.prog 19 #[.pointer (some ⟨p, 0, none⟩), .int .i64 f] w fun e w' => e = .returned (.tuple #[.bool true, .int .i64 0]) ∧ PoolAt w' p F Q c (s.freed f) ∧ w.grownBy w' (some F) := by
  have HP := Lib.hid h
  have HW := Lib.hid (pool_withHold h f hf 0 (by omega) (by omega))
  have hc := h.hold f hf
  rw [hh] at hc
  have hz := h.fz (f * 258 + 1)
  have hf' : f < (s.withHold f 0).n := by rw [n_withHold]; exact hf
  have he : (s.withHold f 0).freed f = s.freed f := by unfold St.withHold St.freed; simp
  have HE := Lib.hid he
  clear h he
  go_enter Try.func19, Try.ntmps19
  go_wp2_with (first
    | (go_at_call 51; refine (owned_yes HP.out f hf (by omega)).mono ?_; rintro e w' ⟨rfl, rfl⟩)
    | (go_at_call 52; refine (mfree HW.out f hf').mono ?_; rintro e w1 ⟨rfl, hp1, hg1⟩; rw [HE.out] at hp1; have HP1 := Lib.hid hp1; have HG1 := Lib.hid hg1; clear hp1 hg1))
  go_ret2
  exact ⟨rfl, HP1.out, grown_trans (pool_set_grown _ _ _) HG1.out⟩
theorem drop_gone {w : World} {p F Q c : Nat} {s : St} (h : PoolAt w p F Q c s) (f : Int) (hg : s.gone f) :
    Calls Try.prog 19 #[.pointer (some ⟨p, 0, none⟩), .int .i64 f] w fun e w' => e = .returned (.tuple #[.bool false, .int .i64 6]) ∧ w = w' := by
  go_enter Try.func19, Try.ntmps19
  go_wp2_with (go_at_call 51; refine (owned_gone h f hg).mono ?_; rintro e w' ⟨rfl, rfl⟩)
  go_ret2
  exact ⟨rfl, rfl⟩

end Go.Proofs.Ytjbamldhoeblbaa
