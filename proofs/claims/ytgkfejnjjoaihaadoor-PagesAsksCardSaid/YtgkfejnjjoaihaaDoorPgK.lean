/- Slices of ints held against each other; num; a table among other blocks. -/
import Derived.Test.YtgkfejnjjoaihaaDoorPgSm
namespace Go.Proofs.YtgkfejnjjoaihaaDoor
open Go.RowKit
attribute [local go_sem] Oper.semAt_some

/-- A slice of ints in memory. -/
def IntsAt (w : World) (v : Value) (xs : List Int) : Prop := ∃ a c, v = .slice a xs.length c ∧ (xs ≠ [] → ∃ g, a = some ⟨g, 0, none⟩ ∧ g < w.heap.size ∧ ∀ i x, xs[i]? = some x → w.cell? ⟨g, i, none⟩ = some (.int .i64 x))
theorem ints_of_owns {w : World} {base : Nat} {v : Value} {xs : List Int} (h : w.ownsRow base 3 1 v xs.length (xs.map intV)) : IntsAt w v xs := by
  obtain ⟨-, h2 | ⟨g, cap, cur, rfl, -, h4, -, -, -, h5⟩⟩ := h
  · have : xs = [] := List.length_eq_zero_iff.1 h2.2
    subst this
    exact ⟨none, 0, h2.1, fun hn => absurd rfl hn⟩
  · refine ⟨_, _, rfl, fun _ => ⟨g, rfl, (Array.getElem?_eq_some_iff.1 h4).1, fun i x hi => ?_⟩⟩
    rw [cell_of_row _ _ _ _ _ _ h4]
    have h6 : (cur.toList.take (xs.length * 1))[i]? = some (intV x) := by rw [h5, List.getElem?_map, hi]; rfl
    rw [List.getElem?_take] at h6
    split at h6
    · simpa [intV] using h6
    · cases h6
theorem IntsAt.below {w w' : World} {v : Value} {xs : List Int} {B : Nat} (h : IntsAt w v xs) (hb : Below B w w') (hB : w.heap.size ≤ B) : IntsAt w' v xs := by
  obtain ⟨a, c, rfl, h2⟩ := h
  refine ⟨a, c, rfl, fun hn => ?_⟩
  obtain ⟨g, e, hg, hc⟩ := h2 hn
  exact ⟨g, e, Nat.lt_of_lt_of_le hg hb.size, fun i x hi => (hb.cell (p := ⟨g, i, none⟩) (Nat.lt_of_lt_of_le hg hB)).trans (hc i x hi)⟩
set_option maxRecDepth 100000 in
set_option maxHeartbeats 1000000 in
theorem sameInts_any {w : World} {v v' : Value} {xs ys : List Int} (h : IntsAt w v xs) (h' : IntsAt w v' ys) (hl : xs.length ≤ 1000) (hl' : ys.length ≤ 1000) :
    Calls Tryd.prog 29 #[v, v'] w fun e w' => e = .returned (.bool (decide (xs = ys))) ∧ Below w.heap.size w w' := by
  obtain ⟨a, c, rfl, hx⟩ := h
  obtain ⟨a', c', rfl, hy⟩ := h'
  by_cases hlen : xs.length = ys.length
  · have hlb : (((xs.length : Nat) : Int) != ((ys.length : Nat) : Int)) = false := by simp; omega
    have HX := Lib.hid hx
    have HY := Lib.hid hy
    have HLEN := Lib.hid hlen
    have hl1 : (xs.length : Int) ≤ 1000 := by omega
    obtain ⟨n, hn⟩ : ∃ n, xs.length = n := ⟨_, rfl⟩
    obtain ⟨n', hn'⟩ : ∃ n', ys.length = n' := ⟨_, rfl⟩
    rw [hn] at hlb hl1 ⊢
    rw [hn'] at hlb ⊢
    have HN := Lib.hid hn
    have HN' := Lib.hid hn'
    clear hx hy hlen hn hn' hl hl'
    go_enter Tryd.func29, Tryd.ntmps29
    go_wp2_with fail
    go_loopw [5] (fun x wr => ∃ k : Nat, k ≤ n ∧ x = .int .i64 k ∧ xs.take k = ys.take k ∧ Below w.heap.size w wr) (fun x _ => n - (intOf x).toNat)
    case atStart => exact ⟨0, Nat.zero_le _, rfl, by simp, Below.refl _ _⟩
    case round =>
      obtain ⟨k, hk, rfl, htk, hbl⟩ := hrel
      have HB := Lib.hid hbl
      have HTK := Lib.hid htk
      clear htk hbl
      by_cases hlt : k < n
      · have hlt' : (k : Int) < n := by omega
        have hne : xs ≠ [] := by rintro rfl; have := HN.out; simp at this; omega
        have hne' : ys ≠ [] := by rintro rfl; have h2 := HN.out; have h3 := HLEN.out; rw [List.length_nil] at h3; omega
        obtain ⟨g, rfl, hg, hc⟩ := HX.out hne
        obtain ⟨g', rfl, hg', hc'⟩ := HY.out hne'
        have hlt2 : (k : Int) < n' := by have h1 := HN.out; have h2 := HN'.out; have h3 := HLEN.out; omega
        have hkx : xs[k]? = some (xs.getD k 0) := by
          rw [List.getD_eq_getElem?_getD, List.getElem?_eq_getElem (by have := HN.out; omega)]; rfl
        have hky : ys[k]? = some (ys.getD k 0) := by
          rw [List.getD_eq_getElem?_getD, List.getElem?_eq_getElem (by have := HN'.out; omega)]; rfl
        have c0 := (HB.out.cell (p := ⟨g, k, none⟩) hg).trans (hc k _ hkx)
        have c1 := (HB.out.cell (p := ⟨g', k, none⟩) hg').trans (hc' k _ hky)
        have HKX := Lib.hid hkx
        have HKY := Lib.hid hky
        obtain ⟨x, hx⟩ : ∃ x, xs.getD k 0 = x := ⟨_, rfl⟩
        obtain ⟨y, hy⟩ : ∃ y, ys.getD k 0 = y := ⟨_, rfl⟩
        rw [hx] at c0 HKX
        rw [hy] at c1 HKY
        have hgs : g < wr.heap.size := Nat.lt_of_lt_of_le hg HB.out.size
        have hgs' : g' < wr.heap.size := Nat.lt_of_lt_of_le hg' HB.out.size
        clear hc hc' hkx hky hx hy hne hne' hg hg'
        by_cases hxy : x = y
        · have hb : (x != y) = false := by simpa using hxy
          have HXY := Lib.hid hxy
          clear hxy
          go_wp2_with (go_region)
          go_roundw
          case rel =>
            refine ⟨k + 1, hlt, by go_num, ?_, HB.out.drew⟩
            rw [List.take_add_one, List.take_add_one, HTK.out, HKX.out, HKY.out, HXY.out]
          case measure => simp [intOf]; omega
        · have hb : (x != y) = true := by simpa using hxy
          have HXY := Lib.hid hxy
          clear hxy
          go_wp2_with (go_region)
          go_ret
          refine ⟨?_, HB.out.drew⟩
          have : ¬ xs = ys := fun e => HXY.out (by
            have h1 := HKX.out
            rw [e, HKY.out] at h1
            exact (Option.some.inj h1).symm)
          simp [this]
      · obtain rfl : k = n := by omega
        go_wp2_with (go_region)
        go_ret
        refine ⟨?_, HB.out⟩
        have h1 := HTK.out
        rw [List.take_of_length_le (by have := HN.out; omega), List.take_of_length_le (by have := HN.out; have h2 := HLEN.out; omega)] at h1
        simp [h1]
  · have hlb : (((xs.length : Nat) : Int) != ((ys.length : Nat) : Int)) = true := by simp; omega
    have HLEN := Lib.hid hlen
    clear hx hy hlen
    go_enter Tryd.func29, Tryd.ntmps29
    go_wp2_with fail
    go_ret
    refine ⟨?_, Below.refl _ _⟩
    have : ¬ xs = ys := fun e => HLEN.out (by rw [e])
    simp [this]
theorem num_any (x : Int) (w : World) : Calls Tryd.prog 20 #[.int .i64 x] w fun e w' => e = .returned (.int .i64 x) ∧ w = w' := by
  go_enter Tryd.func20, Tryd.ntmps20
  go_wp2_with fail
  go_ret
  exact ⟨rfl, rfl⟩

/-- A table that a call has made, and blocks beside it that keep. -/
structure Kn (w0 w : World) (t b N : Nat) (T : Tb) (L : List (Nat × Obj)) : Prop where
  pt : PT w t b N T
  ht : w0.heap.size ≤ t
  hb : w0.heap.size ≤ b
  tr : Below w0.heap.size w0 w
  box : ∀ x ∈ L, w.heap[x.1]? = some x.2 ∧ x.1 ≠ t ∧ x.1 ≠ b
section
variable {w0 w w' : World} {t b N N' : Nat} {T T' : Tb} {L : List (Nat × Obj)}
theorem Kn.step (h : Kn w0 w t b N T L) (hp : PT w' t b N' T') (ht : Turned w w' [t, b]) : Kn w0 w' t b N' T' L :=
  ⟨hp, h.ht, h.hb, h.tr.trans (ht.below h.tr.size (fun g hg => by
    simp at hg
    rcases hg with rfl | rfl
    · exact h.ht
    · exact h.hb)), fun x hx => ⟨(ht.block _ (Array.getElem?_eq_some_iff.1 (h.box x hx).1).1 (by have := (h.box x hx).2; simp; omega)).trans (h.box x hx).1, (h.box x hx).2⟩⟩
theorem Kn.same (h : Kn w0 w t b N T L) (hb : Below w.heap.size w w') : Kn w0 w' t b N T L := h.step (h.pt.step hb) (Turned.of_below _ hb)
theorem Kn.alloc (h : Kn w0 w t b N T L) (c : Array Value) (ty : TypeId) : Kn w0 (w.alloc (.cells c ty)) t b N T ((w.heap.size, .cells c ty (0, 0)) :: L) := by
  have h1 := h.same (w' := w.alloc (.cells c ty)) ((Below.refl _ w).alloc (Nat.le_refl _) _)
  refine ⟨h1.pt, h1.ht, h1.hb, h1.tr, fun x hx => ?_⟩
  rcases List.mem_cons.1 hx with rfl | hx
  · exact ⟨heap_alloc_new w _, by have := h.pt.ht; show w.heap.size ≠ t; omega, by have := h.pt.hb; show w.heap.size ≠ b; omega⟩
  · exact h1.box x hx
theorem Kn.to (h : Kn w0 w t b N T L) (e : T = T') (hN : N ≤ N') : Kn w0 w t b N' T' L := ⟨(e ▸ h.pt).mono hN, h.ht, h.hb, h.tr, h.box⟩
end
end Go.Proofs.YtgkfejnjjoaihaaDoor
