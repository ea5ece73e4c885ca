/- Disks as the chapter says them: what is flushed of each sector, what is pending; such a disk's cells in memory. -/
import Derived.Test.YtakpankipagndaaRows
import Derived.WalkKit
import Derived.OpenShut
import Derived.StillTailTactics
import Derived.BigRegion
import Derived.BigQuiet
import Derived.Deep.QuietTactic
import Derived.Deep.MidRow
import Derived.Deep.WholeRow
import Derived.Lib.Hide
import Derived.Below
import Derived.Carry
import Derived.Laws.AppendOwn
import Derived.Laws.CopyOwn
import Derived.Maps.OwnIn
import Derived.Maps.OwnOps
import Derived.Maps.OwnSet
import Derived.Maps.Views
import Derived.Maps.RangeWalk
import Derived.Great.BuildSlice
namespace Go.Proofs.Ytakpankipagndaa
open Go.RowKit
open Go.Maps (Keyed)

/-- A sector's bytes. -/
abbrev Sec := List Int
structure SecOk (c : Sec) : Prop where
  len : c.length = 128
  b0 : ∀ x ∈ c, 0 ≤ x ∧ x < 256
def secL (c : Sec) : List Value := c.map (Value.int .u8)
def secA (c : Sec) : Array Value := (secL c).toArray
def zeroS : Sec := List.replicate 128 0
theorem zeroS_ok : SecOk zeroS := ⟨by simp [zeroS], fun x hx => by rw [(List.mem_replicate.1 hx).2]; omega⟩
theorem secL_len {c : Sec} (h : SecOk c) : (secL c).length = 128 := by unfold secL; rw [List.length_map, h.len]
theorem secA_size {c : Sec} (h : SecOk c) : (secA c).size = 128 := by unfold secA; rw [List.size_toArray, secL_len h]
theorem secA_one (c : Sec) : (secA c).all (·.oneCell') = true := by
  rw [Array.all_eq_true_iff_forall_mem]
  intro v hv
  unfold secA secL at hv
  obtain ⟨x, -, rfl⟩ := List.mem_map.1 (by simpa using hv : v ∈ c.map (Value.int .u8))
  rfl
theorem secL_one {c : Sec} : ∀ v ∈ secL c, v.oneCell' = true := fun v hv => by
  obtain ⟨x, -, rfl⟩ := List.mem_map.1 hv
  rfl
theorem secL_inj {c d : Sec} (h : secL c = secL d) : c = d := by
  unfold secL at h
  induction c generalizing d with
  | nil => cases d with
    | nil => rfl
    | cons => simp at h
  | cons x c ih => cases d with
    | nil => simp at h
    | cons y d =>
      simp only [List.map_cons, List.cons.injEq, Value.int.injEq, true_and] at h
      rw [h.1, ih h.2]

/-- Sectors, one behind the other. -/
def rowV (L : List Sec) : List Value := L.flatMap secL
theorem rowV_nil : rowV [] = [] := rfl
theorem rowV_cons (c : Sec) (L : List Sec) : rowV (c :: L) = secL c ++ rowV L := by simp [rowV]
theorem rowV_append (A B : List Sec) : rowV (A ++ B) = rowV A ++ rowV B := by simp [rowV]
theorem rowV_one (c : Sec) : rowV [c] = secL c := by simp [rowV]
theorem rowV_len {L : List Sec} (h : ∀ c ∈ L, SecOk c) : (rowV L).length = L.length * 128 := by
  induction L with
  | nil => rfl
  | cons c L ih =>
    rw [rowV_cons, List.length_append, secL_len (h c (List.mem_cons_self ..)), ih (fun d hd => h d (List.mem_cons_of_mem _ hd)), List.length_cons]
    omega
theorem rowV_get {L : List Sec} (h : ∀ c ∈ L, SecOk c) {i : Nat} {c : Sec} (hi : L[i]? = some c) (j : Nat) (hj : j < 128) : (rowV L)[i * 128 + j]? = (secL c)[j]? := by
  induction L generalizing i with
  | nil => simp at hi
  | cons d L ih =>
    have hd := secL_len (h d (List.mem_cons_self ..))
    rw [rowV_cons]
    cases i with
    | zero =>
      simp at hi
      subst hi
      rw [Nat.zero_mul, Nat.zero_add, List.getElem?_append_left (by omega)]
    | succ i =>
      rw [List.getElem?_append_right (by omega), hd, show (i + 1) * 128 + j - 128 = i * 128 + j by omega]
      exact ih (fun d hd => h d (List.mem_cons_of_mem _ hd)) (by simpa using hi)
theorem rowV_one' {L : List Sec} : ∀ v ∈ rowV L, v.oneCell' = true := fun v hv => by
  obtain ⟨c, -, h⟩ := List.mem_flatMap.1 hv
  exact secL_one v h
/-- What a disk is. -/
structure Dk where
  fl : List Sec
  pd : Int → List Sec
  wr : Nat
structure DkOk (s : Dk) : Prop where
  n1 : 1 ≤ s.fl.length
  n2 : s.fl.length ≤ 4096
  f : ∀ c ∈ s.fl, SecOk c
  p : ∀ i, ∀ c ∈ s.pd i, SecOk c
  out : ∀ i, i < 0 ∨ (s.fl.length : Int) ≤ i → s.pd i = []
  pl : ∀ i, (s.pd i).length ≤ s.wr
  w1 : s.wr ≤ 1000000
/-- What is seen of a sector. -/
def Dk.seen (s : Dk) (i : Nat) : Sec := ((s.pd i).getLast?).getD (s.fl.getD i [])

/-- A slice's value, as a map's element. -/
def slE : Value → Option (DataW Unit × List MemPlace)
  | .slice none 0 0 => some (.nil, [])
  | .slice (some ⟨g, 0, none⟩) n c => some (.agg [.lit (.int .i64 g), .lit (.int .i64 n), .lit (.int .i64 c)], [])
  | _ => none
def slD (v : Value) : DataW Unit := match slE v with
  | some (d, _) => d
  | none => .nil
/-- A slice from a block's head, or none. -/
def IsSl (v : Value) : Prop := v = .slice none 0 0 ∨ ∃ g n c, v = .slice (some ⟨g, 0, none⟩) n c
theorem slE_mk {v : Value} (h : IsSl v) : slE v = some (slD v, []) := by
  rcases h with rfl | ⟨g, n, c, rfl⟩ <;> rfl
theorem slE_inv {v : Value} {y : DataW Unit × List MemPlace} (h : slE v = some y) : IsSl v ∧ y.1 = slD v := by
  unfold slE at h
  split at h
  · exact ⟨.inl rfl, by have := Option.some.inj h; rw [← this]; rfl⟩
  · exact ⟨.inr ⟨_, _, _, rfl⟩, by have := Option.some.inj h; rw [← this]; rfl⟩
  · cases h
theorem slD_inj {u v : Value} (hu : IsSl u) (hv : IsSl v) (h : slD u = slD v) : u = v := by
  rcases hu with rfl | ⟨g, n, c, rfl⟩ <;> rcases hv with rfl | ⟨g', n', c', rfl⟩
  · rfl
  · simp [slD, slE] at h
  · simp [slD, slE] at h
  · simp only [slD, slE, DataW.agg.injEq, List.cons.injEq, DataW.lit.injEq, Lit.int.injEq, true_and, and_true] at h
    obtain ⟨h1, h2, h3⟩ := h
    rw [show g = g' by omega, show n = n' by omega, show c = c' by omega]
theorem slE_is {v u : Value} {ps : List MemPlace} (h : slE v = some (slD u, ps)) (hu : IsSl u) : v = u := by
  obtain ⟨h1, h2⟩ := slE_inv h
  exact slD_inj h1 hu h2.symm
theorem owns_sl {w : World} {B : Nat} {e : TypeId} {k : Nat} {v : Value} {n : Nat} {xs : List Value} (h : w.ownsRow B e k v n xs) : IsSl v := by
  obtain ⟨-, h2 | ⟨g, cap, cur, h3, -⟩⟩ := h
  · exact .inl h2.1
  · exact .inr ⟨_, _, _, h3⟩

theorem Try.kint : Keyed Try.prog 3 := Maps.int_keyed Try.underlying3
/-- Where a disk's parts lie: the sectors that are flushed, their slice's room; the map, the slice of each sector's writes. -/
structure Lay9 where
  F : Nat
  cap : Nat
  b : Nat
  V : Int → Value
/-- What the map of writes that are pending reads as. -/
structure PendIs (w : World) (L : Lay9) (s : Dk) (D : DataW Unit) (m : Nat) : Prop where
  mm : m ≤ s.wr
  own : w.ownsMap Try.prog 3 slE L.b m D
  tidy : Maps.Tidy D
  ints : ∀ k, Maps.has D k = true → ∃ i, k = .int .i64 i
  has : ∀ i, Maps.has D (.int .i64 i) = !(s.pd i).isEmpty
  at_ : ∀ i, D.atKey (.int .i64 i) .nil = slD (L.V i)
/-- All but these blocks is as it was. -/
structure TurnO (O : Nat → Prop) (w w' : World) : Prop where
  os : w'.os = w.os
  tape : w'.tape = w.tape
  output : w'.output = w.output
  size : w.heap.size ≤ w'.heap.size
  block : ∀ k, k < w.heap.size → ¬ O k → w'.heap[k]? = w.heap[k]?
theorem TurnO.refl (O : Nat → Prop) (w : World) : TurnO O w w := ⟨rfl, rfl, rfl, Nat.le_refl _, fun _ _ _ => rfl⟩
theorem TurnO.of_below {O : Nat → Prop} {w w' : World} (h : Below w.heap.size w w') : TurnO O w w' := ⟨h.os, h.tape, h.output, h.size, fun k hk _ => h.block k hk⟩
theorem TurnO.trans {O O' : Nat → Prop} {w w1 w2 : World} (h : TurnO O w w1) (k : TurnO O' w1 w2) (ho : ∀ b, O' b → O b ∨ w.heap.size ≤ b) : TurnO O w w2 :=
  ⟨k.os.trans h.os, k.tape.trans h.tape, k.output.trans h.output, Nat.le_trans h.size k.size, fun i hi hn => (k.block i (Nat.lt_of_lt_of_le hi h.size) (fun e => (ho i e).elim hn (fun hh => by omega))).trans (h.block i hi hn)⟩
theorem TurnO.below {O : Nat → Prop} {B : Nat} {w w' : World} (h : TurnO O w w') (hB : B ≤ w.heap.size) (ho : ∀ k, O k → B ≤ k) : Below B w w' :=
  ⟨h.os, h.tape, h.output, h.size, fun k hk => h.block k (by omega) (fun e => by have := ho k e; omega)⟩
theorem TurnO.of_grown {O : Nat → Prop} {w w' : World} {row : Option Nat} (h : w.grownBy w' row) (ho : ∀ k, row = some k → O k) : TurnO O w w' :=
  ⟨h.os, h.tape, h.output, h.size, fun k hk hn => h.block k hk (fun e => hn (ho k e.symm))⟩

theorem owns_eq {w w' : World} {B : Nat} {e : TypeId} {k : Nat} {v : Value} {n : Nat} {xs : List Value} (h : w.ownsRow B e k v n xs) (he : ∀ g, v.ownBlock = some g → w'.heap[g]? = w.heap[g]?) : w'.ownsRow B e k v n xs := by
  refine ⟨h.1, ?_⟩
  rcases h.2 with h2 | ⟨g, cap, cur, rfl, h1, h2, h3⟩
  · exact .inl h2
  · exact .inr ⟨g, cap, cur, rfl, h1, (he g rfl).trans h2, h3⟩
theorem ownsMap_eq9 {w w' : World} {b n : Nat} {D : DataW Unit} (h : w.ownsMap Try.prog 3 slE b n D) (e : w'.heap[b]? = w.heap[b]?) : w'.ownsMap Try.prog 3 slE b n D := by
  obtain ⟨es, clock, h1, F, hs, hD⟩ := h
  exact ⟨es, clock, e.trans h1, F, hs, hD⟩
section
variable {w : World} {O : Nat → Prop} {d : Nat} {L : Lay9} {s : Dk}
end
end Go.Proofs.Ytakpankipagndaa
