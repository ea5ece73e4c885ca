/- The document's disk of bytes: Of. -/
import Derived.Test.YtbnfjceoogehmaaDkXb
namespace Go.Proofs.Ytbnfjceoogehmaa
open Go.RowKit
open Go.Maps (Keyed)
attribute [local go_sem] Oper.semAt_some

/-- A copy into a block of a sector's bytes, at the step of a region that draws its order. -/
theorem step_copySec8 {ops : Array Oper} {o : Oper} {a : Act} {w : World} {K : Act → World → Prop} {Q : Exit → Act → World → Prop} {E : Prop}
    (hg : o.guard = none) (x y : Operand) (hop : o.op = .call { callee := .builtin .copy, args := #[x, y], argTypes := #[35, 35] }) (g : Nat) (c : Sec) (hc : SecOk c) {dc sl sc : Nat} (hx : a.eval x = .slice (some ⟨g, 0, none⟩) 128 dc) (ad : Addr) (hy : a.eval y = .slice (some ad) sl sc)
    (hsrc : ∀ j v, (secL c)[j]? = some v → w.cell? (ad.add j) = some v) (hsl : 128 ≤ sl) (old : Sec) (ho : SecOk old) (hgh : w.heap[g]? = some (.cells (secL old).toArray 5 (0, 0)))
    (hK : K (a.put o.dst (goInt 128)) (w.setRow g (secL c).toArray)) : if Region.wanted o (yielded ops a.tmps) = true then Oper.wp Try.prog o a w K Q else E := by
  have hw : Region.wanted o (yielded ops a.tmps) = true := by simp [Region.wanted, hg]
  rw [if_pos hw]
  have hrun := run_copy_row (P := Try.prog) w 35 35 o.type 5 g 0 128 dc ad sl sc (secL old).toArray 5 (secL c) Try.underlying35 (by kernel_rfl) hgh (by rw [secL_len hc]; exact (Nat.min_eq_right hsl).symm) hsrc (by rw [secL_len hc, List.size_toArray, secL_len ho]; exact Nat.le_refl _) secL_one
  rw [secL_len hc] at hrun
  have hd : ((secL old).drop 128) = [] := List.drop_eq_nil_of_le (by rw [secL_len ho]; exact Nat.le_refl _)
  unfold Oper.wp
  simp [execOp, hop, resolve, invoke, builtin, hx, hy, hrun, hd, secL_len hc, Result.andThen]
  exact hK
def chK (l : List Int) (k i : Nat) : Sec := if i < k then chunk l i else zeroS
theorem qof_set {B n k : Nat} {l : List Int} {v : Value} {b : Nat → Nat} {w : World} (h : QdIs B n n (chK l k) v b w) (hk : k < n) : QdIs B n n (chK l (k + 1)) v b (w.setRow (b k) (secL (chunk l k)).toArray) := by
  obtain ⟨k1, k2, k3, k4⟩ := h.sec k hk
  refine ⟨(setRow_other _ _ _ _ (by omega)).trans h.pend, (setRow_other _ _ _ _ (by omega)).trans h.disk, h.own.kept (row := some (b k)) ⟨rfl, rfl, rfl, by rw [setRow_size]; exact Nat.le_refl _, fun j hj hne => setRow_other _ _ _ _ (fun e => hne (by rw [e]))⟩ (.inr k3), fun i hi => ?_, h.apart⟩
  obtain ⟨s1, s2, s3, s4⟩ := h.sec i hi
  refine ⟨s1, by rw [setRow_size]; exact s2, s3, ?_⟩
  by_cases e : i = k
  · subst e
    rw [setRow_heap _ _ _ _ _ _ s4]
    unfold chK
    rw [if_pos (by omega)]
  · rw [setRow_other _ _ _ _ (fun e1 => e (h.apart _ _ hi hk e1)), s4]
    unfold chK
    by_cases e2 : i < k
    · rw [if_pos e2, if_pos (by omega)]
    · rw [if_neg e2, if_neg (by omega)]
set_option maxHeartbeats 4000000 in
set_option maxRecDepth 100000 in
theorem qof_yes9 {w : World} {A : Option Addr} {l : List Int} (hb : ByteIn w A l) (h01 : ∀ x ∈ l, 0 ≤ x ∧ x < 256) (n : Nat) (hl : l.length = n * 128) (h1 : 1 ≤ n) (h2 : n ≤ 4096) (c : Nat) (hc : l.length ≤ c) :
    Calls Try.prog 16 #[.slice A l.length c] w fun e w' => e = .returned (.pointer (some ⟨w.heap.size + 1, 0, none⟩)) ∧ QdAt w.heap.size n n (chK l n) w' ∧ Below w.heap.size w w' := by
  obtain ⟨bg, bo, rfl, hb0⟩ := hb 0 _ (List.getElem?_eq_getElem (by omega))
  have HB := Lib.hid hb
  have H01 := Lib.hid h01
  have HL := Lib.hid hl
  obtain ⟨m, hm⟩ : ∃ m, l.length = m := ⟨_, rfl⟩
  rw [hm] at hc ⊢
  have hm' : m = n * 128 := by omega
  have hrem : Int.tmod (m : Int) 128 = 0 := by
    have : Int.tmod (m : Int) 128 = ((m % 128 : Nat) : Int) := rfl
    rw [this, hm']; omega
  have hquo : Int.tdiv (m : Int) 128 = (n : Int) := by
    have : Int.tdiv (m : Int) 128 = ((m / 128 : Nat) : Int) := rfl
    rw [this, hm']; omega
  have HN := Lib.hid (qnew_yes9 n h1 h2 w)
  have HM' := Lib.hid hm'
  clear hb h01 hb0 hl hm hm'
  go_enter Try.func16, Try.ntmps16
  go_wp2_with (go_at_call 9; refine HN.out.mono ?_; rintro e w1 ⟨rfl, hd1, hb1⟩; have HD1 := Lib.hid hd1; have HB1 := Lib.hid hb1; clear hd1 hb1)
  go_loopw [4] (fun i wr => ∃ k : Nat, k ≤ n ∧ i = .int .i64 (k : Int) ∧ QdAt w.heap.size n n (chK l k) wr ∧ Below w.heap.size w wr) (fun i _ => n - (intOf i).toNat)
  case atStart => exact ⟨0, Nat.zero_le _, rfl, HD1.out, HB1.out⟩
  case round =>
    obtain ⟨k, hk, rfl, ⟨v, b, hd⟩, hbr⟩ := hrel
    obtain ⟨g, c', rfl⟩ := hd.row h1
    have HD := Lib.hid hd
    have HBR := Lib.hid hbr
    have c0 := hd.c0
    by_cases hlt : k < n
    · have hlt' : (k : Int) < n := by omega
      have HOK := Lib.hid (chunk_ok HL.out hlt H01.out)
      obtain ⟨km, hkm2⟩ : ∃ km, k * 128 = km := ⟨_, rfl⟩
      have hw : IntKind.i64.wrap ((k : Int) * 128) = (km : Int) := by rw [IntWalk.i64_in _ (by omega)]; omega
      have hkm : km + 128 ≤ m := by have := HM'.out; omega
      have hkm1 : (km : Int) ≤ m := by omega
      have hkc : ¬ (c = km) := by omega
      have s0 := hd.s0 hlt
      have HCUR := Lib.hid (show wr.drew.heap[b k]? = some (.cells (secL zeroS).toArray 5 (0, 0)) from by
        have := (hd.sec k hlt).2.2.2
        unfold chK at this
        rwa [if_neg (by omega)] at this)
      have HSET := Lib.hid (show QdIs w.heap.size n n (chK l (k + 1)) (.slice (some ⟨g, 0, none⟩) n c') b (wr.drew.setRow (b k) (secL (chunk l k)).toArray) from qof_set (hd.keep ⟨rfl, rfl, rfl, Nat.le_refl _, fun _ _ => rfl⟩) hlt)
      have HSRC := Lib.hid (show ∀ j v, (secL (chunk l k))[j]? = some v → wr.drew.cell? ((⟨bg, bo + km, none⟩ : Addr).add j) = some v from fun j v hj => by
        unfold secL chunk at hj
        rw [List.getElem?_map] at hj
        obtain ⟨x, hx, rfl⟩ := Option.map_eq_some_iff.1 hj
        have hj2 : j < 128 := by
          have := (List.getElem?_eq_some_iff.1 hx).1
          rw [List.length_take] at this; omega
        rw [List.getElem?_take_of_lt hj2, List.getElem?_drop] at hx
        obtain ⟨b', o', e', h1⟩ := (HB.out.below HBR.out.drew) _ _ hx
        cases e'
        rw [Addr.add_lit, show bo + km + j = bo + (k * 128 + j) by omega]
        exact h1)
      have hbk := (hd.sec k hlt).1
      have HBS := Lib.hid (show Below w.heap.size w (wr.drew.setRow (b k) (secL (chunk l k)).toArray) from below_setRow HBR.out.drew (by omega) _)
      clear hd hbr hkm2
      go_wp2
      go_region_law (refine step_copySec8 rfl _ _ rfl (b k) (chunk l k) HOK.out rfl ⟨bg, bo + km, none⟩ rfl HSRC.out (by omega) zeroS zeroS_ok HCUR.out ?_)
      all_goals go_wp2
      all_goals go_roundw
      all_goals first
        | exact ⟨k + 1, hlt, by go_num, ⟨_, b, HSET.out⟩, HBS.out⟩
        | (simp [intOf]; omega)
    · have hlt' : ¬ (k : Int) < n := by omega
      obtain rfl : k = n := by omega
      clear hd hbr
      go_wp2
      go_ret
      exact ⟨rfl, ⟨_, b, HD.out⟩, HBR.out⟩
theorem qof_odd9 {w : World} (A : Option Addr) (m c : Nat) (h : m % 128 ≠ 0) : Calls Try.prog 16 #[.slice A m c] w fun e w' => e = .returned (.pointer none) ∧ w = w' := by
  obtain ⟨q, hq⟩ : ∃ q, m % 128 = q := ⟨_, rfl⟩
  have hrem : Int.tmod (m : Int) 128 = (q : Int) := by
    have : Int.tmod (m : Int) 128 = ((m % 128 : Nat) : Int) := rfl
    rw [this, hq]
  have hq0 : ¬ ((q : Int) = 0) := by omega
  have hqb : ((q : Int) == 0) = false := by simpa using hq0
  clear hq h
  go_enter Try.func16, Try.ntmps16
  go_wp2
  go_ret
  exact ⟨rfl, rfl⟩
theorem qof_big9 {w : World} (A : Option Addr) (n c : Nat) (h : n < 1 ∨ 4096 < n) (hn : (n : Int) * 128 ≤ 9223372036854775807) : Calls Try.prog 16 #[.slice A (n * 128) c] w fun e w' => e = .returned (.pointer none) ∧ w = w' := by
  obtain ⟨m, hm⟩ : ∃ m, n * 128 = m := ⟨_, rfl⟩
  have hrem : Int.tmod (m : Int) 128 = 0 := by
    have : Int.tmod (m : Int) 128 = ((m % 128 : Nat) : Int) := rfl
    rw [this]; omega
  have hquo : Int.tdiv (m : Int) 128 = (n : Int) := by
    have : Int.tdiv (m : Int) 128 = ((m / 128 : Nat) : Int) := rfl
    rw [this]; omega
  rw [hm]
  have HN := Lib.hid (qnew_no9 (n : Int) (by omega) w)
  clear hm
  go_enter Try.func16, Try.ntmps16
  go_wp2_with (go_at_call 9; refine HN.out.mono ?_; rintro e w1 ⟨rfl, rfl⟩)
  go_ret
  exact ⟨rfl, rfl⟩
end Go.Proofs.Ytbnfjceoogehmaa
