/- What a processor does, as plain Lean: states, memories, stops; they in memory. -/
import Derived.Test.YtknepljmbpdpkaaIsaMath
import Derived.Test.YtknepljmbpdpkaaRows
import Derived.WalkKit
import Derived.OpenShut
import Derived.StillTailTactics
import Derived.BigRegion
import Derived.BigQuiet
import Derived.Deep.QuietTactic
import Derived.Deep.MidRow
import Derived.Lib.Hide
import Derived.Below
import Derived.Carry
namespace Go.Proofs.Ytknepljmbpdpkaa
open Go.RowKit

abbrev m32 (x : Int) : Int := x % 4294967296
theorem m32_0 (x : Int) : 0 ≤ m32 x := by show 0 ≤ x % 4294967296; omega
theorem m32_1 (x : Int) : m32 x < 4294967296 := by show x % 4294967296 < 4294967296; omega
theorem m32_add (x y : Int) : m32 (m32 x + y) = m32 (x + y) := by show (x % 4294967296 + y) % 4294967296 = (x + y) % 4294967296; omega
theorem m32_id {x : Int} (h0 : 0 ≤ x) (h1 : x < 4294967296) : m32 x = x := by show x % 4294967296 = x; omega
/-- A memory: how many pages, each page's rights, each byte. -/
structure Mem8 where
  np : Nat
  ri : Nat → Int
  bt : Nat → Int
structure Mem8Ok (m : Mem8) : Prop where
  np : m.np ≤ 32
  r0 : ∀ i, 0 ≤ m.ri i
  r1 : ∀ i, m.ri i ≤ 7
  b0 : ∀ k, 0 ≤ m.bt k
  b1 : ∀ k, m.bt k < 256
/-- May that address be used so? -/
def Mem8.has (m : Mem8) (x : Int) : Bool := decide (x < (m.np : Int) * 256)
def Mem8.may (m : Mem8) (x r : Int) : Bool := m.has x && (decide (0 < r) && (decide (r ≤ 7) && (bits .and .i64 (m.ri (x / 256).toNat) r == r)))
def Mem8.set (m : Mem8) (x v : Int) : Mem8 := { m with bt := fun k => if k = x.toNat then v else m.bt k }
def mayT (m : Mem8) (r : Int) : Nat → Int → Int × Bool
  | 0, _ => (0, true)
  | n + 1, x => if m.may x r then mayT m r n (m32 (x + 1)) else (x, false)
def loadL (m : Mem8) (x : Int) (n : Nat) : List Int := (List.range n).map fun (i : Nat) => m.bt (m32 (x + (i : Int))).toNat
def storeM (m : Mem8) (x : Int) : List Int → Mem8
  | [] => m
  | v :: l => storeM (m.set x v) (m32 (x + 1)) l
theorem storeM_snoc (v : Int) : ∀ (l : List Int) (m : Mem8) (x : Int), 0 ≤ x → x < 4294967296 → storeM m x (l ++ [v]) = (storeM m x l).set (m32 (x + l.length)) v
  | [], m, x, h0, h1 => by show m.set x v = m.set (m32 (x + 0)) v; rw [Int.add_zero, m32_id h0 h1]
  | u :: l, m, x, _, _ => by
    show storeM (m.set x u) (m32 (x + 1)) (l ++ [v]) = (storeM (m.set x u) (m32 (x + 1)) l).set (m32 (x + ((l.length + 1 : Nat) : Int))) v
    rw [storeM_snoc v l _ _ (m32_0 _) (m32_1 _), m32_add]
    congr 2
    omega
theorem storeM_np (l : List Int) : ∀ (m : Mem8) (x : Int), (storeM m x l).np = m.np ∧ (storeM m x l).ri = m.ri := by
  induction l with
  | nil => exact fun m x => ⟨rfl, rfl⟩
  | cons u l ih => exact fun m x => ih (m.set x u) (m32 (x + 1))
theorem mayT_all {m : Mem8} {r : Int} : ∀ {n : Nat} {x : Int}, 0 ≤ x → x < 4294967296 → (mayT m r n x).2 = true → ∀ i, i < n → m.may (m32 (x + (i : Int))) r = true
  | 0, _, _, _, _, i, hi => absurd hi (by omega)
  | n + 1, x, h0, h1, h, i, hi => by
    unfold mayT at h
    by_cases hm : m.may x r = true
    · rw [if_pos hm] at h
      cases i with
      | zero => rw [Int.natCast_zero, Int.add_zero, m32_id h0 h1]; exact hm
      | succ i =>
        have := mayT_all (m32_0 _) (m32_1 _) h i (by omega)
        rw [m32_add] at this
        rw [show x + ((i + 1 : Nat) : Int) = x + 1 + (i : Int) by omega]
        exact this
    · rw [if_neg hm] at h; cases h
theorem may_has {m : Mem8} {x r : Int} (h : m.may x r = true) : m.has x = true := by
  unfold Mem8.may at h
  simp only [Bool.and_eq_true] at h
  exact h.1
theorem loadL_len (m : Mem8) (x : Int) (n : Nat) : (loadL m x n).length = n := by simp [loadL]
theorem loadL_succ (m : Mem8) (x : Int) (n : Nat) : loadL m x (n + 1) = loadL m x n ++ [m.bt (m32 (x + (n : Int))).toNat] := by
  unfold loadL; rw [List.range_succ, List.map_append]; rfl
theorem loadL_set (m : Mem8) (x : Int) (n k : Nat) (hk : k < n) : (loadL m x k ++ List.replicate (n - k) 0).set k (m.bt (m32 (x + (k : Int))).toNat) = loadL m x (k + 1) ++ List.replicate (n - (k + 1)) 0 := by
  obtain ⟨q, hq⟩ : ∃ q, n - k = q + 1 := ⟨n - k - 1, by omega⟩
  rw [hq, show n - (k + 1) = q by omega, loadL_succ, List.set_append, if_neg (by rw [loadL_len]; omega), loadL_len, Nat.sub_self, List.replicate_succ, List.set_cons_zero, List.append_assoc]
  rfl
structure St8 where
  R : Nat → Int
  pc : Int
structure St8Ok (s : St8) : Prop where
  r0 : ∀ i, 0 ≤ s.R i
  r1 : ∀ i, s.R i < 4294967296
  p0 : 0 ≤ s.pc
  p1 : s.pc < 4294967296
def St8.put (s : St8) (d : Nat) (v : Int) : St8 := { s with R := fun i => if i = d then v else s.R i }
structure Stop8 where
  kind : Int := 0
  call : Int := 0
  at' : Int := 0
  need : Int := 0
  used : Int := 0
def goOn : Stop8 := {}
def fault8 (x r : Int) : Stop8 := { kind := 5, at' := x, need := r }
/-- What an op of two registers answers. -/
def ansV (op a b : Int) : Int :=
  if op = 8 then m32 (a + b) else if op = 9 then m32 (a - b) else if op = 10 then m32 (a * b) else if op = 11 then a / b else if op = 12 then a % b
  else if op = 13 then bits .and .u32 a b else if op = 14 then bits .or .u32 a b else if op = 15 then bits .xor .u32 a b
  else if op = 16 then m32 (a * 2 ^ (b % 32).toNat) else a / 2 ^ (b % 32).toNat
def ansB (op b : Int) : Bool := !(decide (op = 11 ∨ op = 12) && b == 0)
def isAns (op : Int) : Bool := decide (8 ≤ op ∧ op ≤ 17)
def sum8 : List Int → Int
  | [] => 0
  | x :: l => x + 256 * sum8 l
/-- The lowest n bytes of a number. -/
def low8 : Nat → Int → List Int
  | 0, _ => []
  | n + 1, x => x % 256 :: low8 n (x / 256)
def fillT (s : St8) (m : Mem8) (d : Nat) (x : Int) (n : Nat) : St8 × Mem8 × Stop8 :=
  if (mayT m 1 n x).2 then (s.put d (sum8 (loadL m x n)), m, goOn) else (s, m, fault8 (mayT m 1 n x).1 1)
def putT (s : St8) (m : Mem8) (v x : Int) (n : Nat) : St8 × Mem8 × Stop8 :=
  if (mayT m 2 n x).2 then (s, storeM m x (low8 n v), goOn) else (s, m, fault8 (mayT m 2 n x).1 2)
def combT (s : St8) (m : Mem8) (op : Int) (d a b : Nat) : St8 × Mem8 × Stop8 :=
  if isAns op then (if ansB op (s.R b) then (s.put d (ansV op (s.R a) (s.R b)), m, goOn) else (s, m, { kind := 7 })) else (s, m, goOn)
def doT (s : St8) (m : Mem8) (op : Int) (d a b : Nat) (imm : Int) : St8 × Mem8 × Stop8 :=
  if op = 3 then (s, m, { kind := 2, call := imm })
  else if op = 4 then (s, m, { kind := 3 })
  else if op = 2 then (s, m, { kind := 4 })
  else if op = 5 then (s.put d (m32 imm), m, goOn)
  else if op = 6 then (s.put d (s.R d % 65536 + imm * 65536), m, goOn)
  else if op = 7 then (s.put d (s.R a), m, goOn)
  else if op = 18 then (s.put d (m32 (s.R a + imm)), m, goOn)
  else if op = 25 then (s.put d (m32 (s.pc + 4)), m, goOn)
  else if op = 19 then fillT s m d (m32 (s.R a + imm)) 4
  else if op = 21 then fillT s m d (m32 (s.R a + imm)) 1
  else if op = 20 then putT s m (s.R d) (m32 (s.R a + imm)) 4
  else if op = 22 then putT s m (s.R d) (m32 (s.R a + imm)) 1
  else combT s m op d a b
def nextT (s : St8) (op : Int) (d a : Nat) (imm : Int) : Int :=
  if op = 24 then s.R a
  else if op = 23 ∨ op = 25 ∨ (op = 26 ∧ s.R d = s.R a) ∨ (op = 27 ∧ s.R d ≠ s.R a) ∨ (op = 28 ∧ s.R d < s.R a) then m32 (s.pc + 4 * imm)
  else m32 (s.pc + 4)
def wordT (s : St8) (m : Mem8) : Int := sum8 (loadL m s.pc 4)
/-- One instruction. -/
def stepT (s : St8) (m : Mem8) : St8 × Mem8 × Stop8 :=
  if s.pc % 4 ≠ 0 then (s, m, { kind := 6 })
  else if (mayT m 4 4 s.pc).2 = false then (s, m, fault8 (mayT m 4 4 s.pc).1 4)
  else if isWord (wordT s m) = false then (s, m, { kind := 6 })
  else
    let v := wordT s m
    let r := doT s m (v % 256) (cD v).toNat (cA v).toNat (cB v).toNat (cM v)
    if r.2.2.kind = 0 then ({ r.1 with pc := nextT r.1 (v % 256) (cD v).toNat (cA v).toNat (cM v) }, r.2.1, r.2.2) else r
def runT : Nat → Int → St8 → Mem8 → St8 × Mem8 × Stop8
  | 0, u, s, m => (s, m, { kind := 1, used := u })
  | n + 1, u, s, m => if (stepT s m).2.2.kind = 0 then runT n (u + 1) (stepT s m).1 (stepT s m).2.1 else ((stepT s m).1, (stepT s m).2.1, { (stepT s m).2.2 with used := u })

/-! ### In memory -/
def stopV (t : Stop8) : Value := .agg #[.int .i64 t.kind, .int .i64 t.call, .int .u32 t.at', .int .i64 t.need, .int .i64 t.used]
def stopL (t : Stop8) : List Value := [.int .i64 t.kind, .int .i64 t.call, .int .u32 t.at', .int .i64 t.need, .int .i64 t.used]
def stL (s : St8) : List Value := [.int .u32 (s.R 0), .int .u32 (s.R 1), .int .u32 (s.R 2), .int .u32 (s.R 3), .int .u32 (s.R 4), .int .u32 (s.R 5), .int .u32 (s.R 6), .int .u32 (s.R 7), .int .u32 (s.R 8), .int .u32 (s.R 9), .int .u32 (s.R 10), .int .u32 (s.R 11), .int .u32 (s.R 12), .int .u32 (s.R 13), .int .u32 (s.R 14), .int .u32 (s.R 15), .int .u32 s.pc]
def stV (s : St8) : Value := .agg (stL s).toArray
def ifV (F : Nat) : Value := .iface 32 (.pointer (some ⟨F, 0, none⟩))
/-- A memory that the program made. -/
structure FlatAt (w : World) (F B : Nat) (ra : Option Addr) (rc bc : Nat) (m : Mem8) : Prop where
  ok : Mem8Ok m
  c0 : w.cell? ⟨F, 0, none⟩ = some (.slice ra m.np rc)
  c1 : w.cell? ⟨F, 1, none⟩ = some (.slice (some ⟨B, 0, none⟩) (m.np * 256) bc)
  rr : 0 < m.np → ∃ Rb ro, ra = some ⟨Rb, ro, none⟩ ∧ Rb ≠ B ∧ Rb < w.heap.size ∧ ∀ i, i < m.np → w.cell? ⟨Rb, ro + i, none⟩ = some (.int .i64 (m.ri i))
  bs : ∀ k, k < m.np * 256 → w.cell? ⟨B, k, none⟩ = some (.int .u8 (m.bt k))
  fz : ∀ k, w.frozen? ⟨B, k, none⟩ = false
  ne : F ≠ B
  fl : F < w.heap.size
  bl : B < w.heap.size
theorem FlatAt.keep {w w' : World} {F B : Nat} {ra : Option Addr} {rc bc : Nat} {m : Mem8} (h : FlatAt w F B ra rc bc m) (hs : w.heap.size ≤ w'.heap.size) (hk : ∀ k, k < w.heap.size → w'.heap[k]? = w.heap[k]?) : FlatAt w' F B ra rc bc m := by
  have hc : ∀ b o, b < w.heap.size → w'.cell? ⟨b, o, none⟩ = w.cell? ⟨b, o, none⟩ := fun b o hb => World.cell?_of_block (w := w) (hk b hb)
  refine ⟨h.ok, (hc _ _ h.fl).trans h.c0, (hc _ _ h.fl).trans h.c1, fun hp => ?_, fun k hkk => (hc _ _ h.bl).trans (h.bs k hkk), fun k => (World.frozen?_of_block (w := w) (hk B h.bl)).trans (h.fz k), h.ne, Nat.lt_of_lt_of_le h.fl hs, Nat.lt_of_lt_of_le h.bl hs⟩
  obtain ⟨Rb, ro, e, n, l, c⟩ := h.rr hp
  exact ⟨Rb, ro, e, n, Nat.lt_of_lt_of_le l hs, fun i hi => (hc _ _ l).trans (c i hi)⟩
theorem FlatAt.below {w w' : World} {F B : Nat} {ra : Option Addr} {rc bc : Nat} {m : Mem8} (h : FlatAt w F B ra rc bc m) (hb : Below w.heap.size w w') : FlatAt w' F B ra rc bc m := h.keep hb.size hb.block
theorem mem_set_ok {m : Mem8} (h : Mem8Ok m) (x v : Int) (h0 : 0 ≤ v) (h1 : v < 256) : Mem8Ok (m.set x v) :=
  ⟨h.np, h.r0, h.r1, fun k => by unfold Mem8.set; simp only; split; exact h0; exact h.b0 k, fun k => by unfold Mem8.set; simp only; split; exact h1; exact h.b1 k⟩
theorem FlatAt.set {w : World} {F B : Nat} {ra : Option Addr} {rc bc : Nat} {m : Mem8} (h : FlatAt w F B ra rc bc m) (x : Nat) (hx : x < m.np * 256) (v : Int) (h0 : 0 ≤ v) (h1 : v < 256) :
    FlatAt (w.setCell ⟨B, x, none⟩ (.int .u8 v)) F B ra rc bc (m.set x v) := by
  have hc : ∀ b o, b ≠ B → (w.setCell ⟨B, x, none⟩ (.int .u8 v)).cell? ⟨b, o, none⟩ = w.cell? ⟨b, o, none⟩ := fun b o hb => World.cell?_of_block (w := w) (a := ⟨b, o, none⟩) (Below.heap_setCell _ ⟨B, x, none⟩ _ b hb)
  have hz : (w.setCell ⟨B, x, none⟩ (.int .u8 v)).heap.size = w.heap.size := by simp [World.setCell]
  refine ⟨mem_set_ok h.ok _ _ h0 h1, (hc _ _ h.ne).trans h.c0, (hc _ _ h.ne).trans h.c1, fun hp => ?_, fun k hk => ?_, fun k => ?_, h.ne, by rw [hz]; exact h.fl, by rw [hz]; exact h.bl⟩
  · obtain ⟨Rb, ro, e, n, l, c⟩ := h.rr hp
    exact ⟨Rb, ro, e, n, by rw [hz]; exact l, fun i hi => (hc _ _ n).trans (c i hi)⟩
  · show _ = some (Value.int .u8 (if k = ((x : Int)).toNat then v else m.bt k))
    by_cases e : k = x
    · subst e
      rw [if_pos (by simp), World.cell?_setCell_same' _ _ _ (by rw [h.bs k hk]; rfl)]
    · rw [if_neg (by simpa using e), show (w.setCell ⟨B, x, none⟩ (.int .u8 v)).cell? ⟨B, k, none⟩ = w.cell? ⟨B, k, none⟩ from World.cell?_setCell_other _ _ _ _ (by intro q; injection q with _ q; exact e q.symm)]
      exact h.bs k hk
  · rw [← h.fz k]; simp [go_sem]
/-- A block of bytes. -/
def RowU8 (w : World) (g : Nat) (l : List Int) : Prop := w.heap[g]? = some (.cells (l.map (Value.int .u8)).toArray 5 (0, 0))
theorem RowU8.cell {w : World} {g : Nat} {l : List Int} (h : RowU8 w g l) (j : Nat) (hj : j < l.length) : w.cell? ⟨g, j, none⟩ = some (.int .u8 l[j]) := by
  rw [cell_of_row _ _ _ _ _ _ h]
  simp [hj]
theorem RowU8.fz {w : World} {g : Nat} {l : List Int} (h : RowU8 w g l) (o : Nat) : w.frozen? ⟨g, o, none⟩ = false := frozen_of_row _ _ _ _ _ h
theorem RowU8.lt {w : World} {g : Nat} {l : List Int} (h : RowU8 w g l) : g < w.heap.size := (Array.getElem?_eq_some_iff.1 h).1
theorem RowU8.set {w : World} {g : Nat} {l : List Int} (h : RowU8 w g l) (j : Nat) (v : Int) : RowU8 (w.setCell ⟨g, j, none⟩ (.int .u8 v)) g (l.set j v) := by
  unfold RowU8
  rw [heap_setCell_same _ _ _ _ _ _ h]
  refine congrArg (fun c => some (Obj.cells c 5 (0, 0))) ?_
  simp [List.map_set]
theorem RowU8.keep {w w' : World} {g : Nat} {l : List Int} (h : RowU8 w g l) (e : w'.heap[g]? = w.heap[g]?) : RowU8 w' g l := e.trans h
theorem RowU8.made (w : World) (n : Nat) : RowU8 (w.alloc (.cells (madeCells #[.int .u8 0] n) 5)) w.heap.size (List.replicate n 0) := by
  unfold RowU8
  rw [heap_alloc_new]
  refine congrArg (fun c => some (Obj.cells c 5 (0, 0))) ?_
  apply Array.ext'
  rw [toList_madeCells_one]
  simp
end Go.Proofs.Ytknepljmbpdpkaa
