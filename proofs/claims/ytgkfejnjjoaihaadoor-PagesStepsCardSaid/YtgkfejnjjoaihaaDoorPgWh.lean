/- Where. -/
import Derived.Test.YtgkfejnjjoaihaaDoorPgZ
namespace Go.Proofs.YtgkfejnjjoaihaaDoor
open Go.RowKit
attribute [local go_sem] Oper.semAt_some

/-- An append of a slice that the call itself has made, at the step of a region that draws its order. -/
theorem step_append_own {P : Program} {ops : Array Oper} {o : Oper} {a : Act} {w : World} {K : Act → World → Prop} {Q : Exit → Act → World → Prop} {E : Prop}
    (hg : o.guard = none) (s x : Operand) (t : TypeId) (hop : o.op = Op.call { callee := Callee.builtin Builtin.append, args := #[s, x], argTypes := #[t, t] })
    (base : Nat) (e : TypeId) (i : TypeInfo) (z : Value) (size bytes : Nat) (h1 : P.underlying t = some (.slice e)) (h2 : P.info? e = some i) (h3 : i.zero = some z) (h4 : i.size = size) (h5 : i.bytes = bytes) (h6 : z.cells.size = size) (h7 : 0 < size)
    (v : Value) (n : Nat) (xs : List Value) (hs : a.eval s = v) (hown : w.ownsRow base e size v n xs)
    (ad : Addr) (m c : Nat) (news : List Value) (hx : a.eval x = .slice (some ad) m c) (hn : news.length = m * size) (hc : ∀ j u, news[j]? = some u → w.cell? (ad.add j) = some u) (h1c : ∀ u ∈ news, u.oneCell' = true)
    (b1 : n + m ≤ maxLen) (b2 : (n + m) * bytes ≤ 140737488355328) (hbase : base ≤ w.heap.size)
    (hK : ∀ v' w', w'.ownsRow base e size v' (n + m) (xs ++ news) → w.grownBy w' v.ownBlock → K (a.put o.dst v') w') :
    if Region.wanted o (yielded ops a.tmps) = true then Oper.wp P o a w K Q else E := by
  have hw : Region.wanted o (yielded ops a.tmps) = true := by simp [Region.wanted, hg]
  rw [if_pos hw]
  obtain ⟨v', w', hrun, r1, r2, _⟩ := run_append_own (P := P) w base t o.type e i z size bytes h1 h2 h3 h4 h5 h6 h7 v n xs hown ad m c news hn hc h1c b1 b2 hbase
  unfold Oper.wp
  simp [execOp, hop, resolve, invoke, builtin, hs, hx, hrun, Result.andThen]
  exact hK v' w' r1 r2

theorem Tryd.infoSpot : (Tryd.prog.info? 52).map (fun i => (i.zero, i.size, i.bytes)) = some (some (.agg #[.int .i64 0, .int .i64 0]), 2, 16) := by kernel_rfl
theorem own_sl {w : World} {base : Nat} {e : TypeId} {size : Nat} {v : Value} {n : Nat} {xs : List Value} (h : w.ownsRow base e size v n xs) : ∃ a l c, v = .slice a l c := by
  obtain ⟨-, h2 | ⟨g, cap, cur, h3, -⟩⟩ := h
  · exact ⟨_, _, _, h2.1⟩
  · exact ⟨_, _, _, h3⟩
/-- The spots told so far, in a variable of the call's own. -/
def SpotsIn (base m : Nat) (L : List (Nat × Nat)) (W : World) : Prop := ∃ v, W.heap[m]? = some (.cells #[v] 48 (0, 0)) ∧ W.ownsRow base 52 2 v L.length (L.flatMap spotC)
def WhereI (w0 : World) (T : Tb) (f : Int) (m k : Nat) (W : World) : Prop := Turned w0 W [m] ∧ SpotsIn w0.heap.size m (spotsTo T f k) W
theorem spots_own {β : Type} (base m B : Nat) (hm : m < B) (L : β → List (Nat × Nat)) : OwnFrom B (fun s W => SpotsIn base m (L s) W) := fun s X Y row hs hg hr => by
  obtain ⟨v, h1, h2⟩ := hs
  refine ⟨v, (hg.block m (Array.getElem?_eq_some_iff.1 h1).1 (fun e => by have := (hr m e.symm).1; omega)).trans h1, h2.kept hg ?_⟩
  obtain ⟨-, h3 | ⟨g, cap, cur, rfl, -, h4, -⟩⟩ := h2
  · rw [h3.1]; exact Or.inl rfl
  · refine Or.inr (fun e => ?_)
    obtain ⟨o, ho, hc⟩ := (hr g e.symm).2
    rw [h4] at ho
    cases ho
    cases hc
theorem spots_below {base m B : Nat} {L : List (Nat × Nat)} {W W' : World} (h : SpotsIn base m L W) (hb : Below B W W') (hB : W.heap.size ≤ B) : SpotsIn base m L W' := by
  obtain ⟨v, h1, h2⟩ := h
  exact ⟨v, (hb.block m (Nat.lt_of_lt_of_le (Array.getElem?_eq_some_iff.1 h1).1 hB)).trans h1, owns_below h2 hb hB⟩

theorem cell_two_new (w : World) (a b : Value) (t : TypeId) : ∀ j u, [a, b][j]? = some u → ((w.alloc (.cells #[a, b] t)).drew).cell? ((⟨w.heap.size, 0, none⟩ : Addr).add j) = some u := fun j u hj => by
  have hg : (w.alloc (.cells #[a, b] t)).heap[w.heap.size]? = some (.cells #[a, b] t (0, 0)) := heap_alloc_new w _
  rw [Addr.add_mid, Nat.zero_add, World.cell?_drew, cell_of_row _ _ _ _ _ _ hg]
  simpa using hj
section
variable {w0 W wr w3 : World} {base m k p n : Nat} {xs ys : List Value} {v v' : Value} {o : Obj}
theorem where_cell (hm : m < base) (hv : wr.heap[m]? = some (.cells #[v] 48 (0, 0))) (hown : wr.ownsRow base 52 2 v n xs) (hg3 : ((wr.alloc o).drew).grownBy w3 v.ownBlock) : w3.heap[m]? = some (.cells #[v] 48 (0, 0)) := by
  have hl := (Array.getElem?_eq_some_iff.1 hv).1
  refine (hg3.block m (by show m < (wr.alloc o).heap.size; simp; omega) (fun e => ?_)).trans ((Below.heap_alloc _ _ _ hl).trans hv)
  have := (hown.lt m e.symm).1
  omega
theorem where_step {L : List (Nat × Nat)} (hK : KeepsFrom base W wr) (hT : Turned w0 wr [m]) (hb : base = w0.heap.size) (hm : m < base) (hv : wr.heap[m]? = some (.cells #[v] 48 (0, 0))) (hown : wr.ownsRow base 52 2 v L.length (L.flatMap spotC))
    (hg3 : ((wr.alloc o).drew).grownBy w3 v.ownBlock) (hown' : w3.ownsRow base 52 2 v' (L.length + 1) (L.flatMap spotC ++ [.int .i64 k, .int .i64 p])) :
    KeepsFrom base W (w3.setCell ⟨m, 0, none⟩ v') ∧ Turned w0 (w3.setCell ⟨m, 0, none⟩ v') [m] ∧ SpotsIn base m (L ++ [(k, p)]) (w3.setCell ⟨m, 0, none⟩ v') := by
  have q3 := where_cell hm hv hown hg3
  have hl := hown.lt
  have hs : wr.heap.size ≤ w3.heap.size := by have := hg3.size; simp at this; omega
  refine ⟨⟨?_, fun j ob hj ho hc => ?_⟩, hT.trans2 ⟨hg3.os, hg3.tape, hg3.output, by simpa [World.setCell] using hs, fun j hj hn => ?_⟩, v', ?_, ?_⟩
  · have := hK.size
    simpa [World.setCell] using Nat.le_trans this hs
  · have h1 := hK.same j ob hj ho hc
    have h2 := (Array.getElem?_eq_some_iff.1 h1).1
    refine (heap_setCell_other _ _ _ _ (show j ≠ m by omega)).trans ((hg3.block j (by show j < (wr.alloc o).heap.size; simp; omega) (fun e => ?_)).trans ((Below.heap_alloc _ _ _ h2).trans h1))
    obtain ⟨-, h3 | ⟨g, cap, cur, rfl, -, h4, -⟩⟩ := hown
    · rw [h3.1] at e; cases e
    · cases e
      rw [h4] at h1
      cases h1
      cases hc
  · have hsz := hT.size
    refine (heap_setCell_other _ _ _ _ (show j ≠ m by simpa using hn)).trans ((hg3.block j (by show j < (wr.alloc o).heap.size; simp; omega) (fun e => ?_)).trans (Below.heap_alloc _ _ _ (by omega)))
    have := (hl j e.symm).1
    omega
  · have := heap_setCell_same w3 m 0 _ _ v' q3
    rw [this]; rfl
  · rw [List.length_append, List.flatMap_append]
    exact owns_turned hown' (Turned.of_set (gs := [m]) (by simp) _) (fun g hg => by simp at hg; omega)
end

set_option maxRecDepth 100000 in
set_option maxHeartbeats 2000000 in
theorem where_in {w : World} {t b N : Nat} {T : Tb} (h : PT w t b N T) (f : Int) (hf : (Lit.int .i64 f).wf = true) (hz : TzTab w) :
    CallsIn Fence.wide 5 Tryd.prog 21 #[.pointer (some ⟨t, 0, none⟩), .int .i64 f] w fun e w' => ∃ v, e = .returned v ∧ w'.ownsRow w.heap.size 52 2 v (spotsTo T f 16).length ((spotsTo T f 16).flatMap spotC) ∧ Below w.heap.size w w' := by
  obtain ⟨i0, hi, hz0, hz1, hz2⟩ := info_parts Tryd.infoSpot
  obtain ⟨r0, r1, r2, hsz, hB0⟩ := three_boxes w (.slice none 0 0) (.pointer (some ⟨t, 0, none⟩)) (.int .i64 f) 48 23 3
  have hP := h.step hB0
  have tlt := h.ht
  have blt := h.hb
  have HP := Lib.hid hP
  have hTz := hz.below hB0 hz.lt
  have zlt := hz.lt
  have HTZ := Lib.hid hTz
  clear h hP hz hTz
  refine callsIn_of_wp_marks Tryd.func21 rfl trivial ?_ rfl
  simp only [Tryd.ntmps21, List.size_toArray, List.length_cons, List.length_nil, Nat.reduceAdd, Nat.reduceSub, Array.replicate_succ, Array.replicate_zero, List.push_toArray, List.append_toArray, List.nil_append, List.cons_append]
  gi_wp2_with fail
  refine ⟨trivial, ?_⟩
  gi_at_call 47
  refine (callsIn_wide.2 (each_any _ _)).mono ?_
  rintro e w' ⟨rfl, rfl⟩
  rw [show (w.alloc (.cells #[.slice none 0 0] 48)).heap.size = w.heap.size + 1 by simp]
  gi_wp2_with fail
  generalize hW0 : ((w.alloc (.cells #[.slice none 0 0] 48)).alloc (.cells #[.pointer (some ⟨t, 0, none⟩)] 23)).alloc (.cells #[.int .i64 f] 3) = w0 at r0 r1 r2 hsz hB0 HP HTZ ⊢
  clear hW0
  have hn : w.heap.size ≤ w0.heap.size := hB0.size
  have HB0 := Lib.hid hB0
  have R0 := Lib.hid r0
  have HS := Lib.hid hsz
  have hbox : ∀ W : World, Turned w0 W [w.heap.size] → BoxesAt W (w.heap.size + 1) (w.heap.size + 1 + 1) t f ∧ PT W t b N T := fun W hb =>
    ⟨boxes_of ((hb.block _ (by omega) (by simp)).trans r1) ((hb.block _ (by omega) (by simp; omega)).trans r2), HP.out.other hb (by simp; omega) (by simp; omega)⟩
  have HBX := Lib.hid hbox
  clear r0 r1 r2 hsz hbox hB0
  refine range_b (encs := encE T f) (N := 16) (hit := hitE T f) (I := WhereI w0 T f w.heap.size) (Ix := fun _ _ => False) rfl (by omega) (gf := 60) (lb := #[.pointer (some ⟨w.heap.size + 1, 0, none⟩), .pointer (some ⟨w.heap.size + 1 + 1, 0, none⟩)]) rfl trivial (enters_of Tryd.func60 (by kernel_rfl) rfl)
    (each_steps 4 (by omega) _ _ t b N T f hf _ (fun k W hI => HBX.out W hI.1)) (fun _ => rfl)
    (OwnFrom.and (turned_own w0 _ _ (Nat.le_refl _)) (spots_own _ _ _ (by have := HS.out; omega) _)) (fun k W h => ⟨h.1.trans (Turned.of_below _ ((Below.refl _ W).drew)), spots_below h.2 ((Below.refl _ W).drew) (Nat.le_refl _)⟩) (fun c => fun _ _ _ _ h _ _ => h.elim)
    ⟨Turned.refl _ _, _, R0.out, rfl, .inl ⟨rfl, rfl⟩⟩
    (fun k W _ hh h => ⟨h.1, by rw [spotsTo_succ, hitsL_none hh]; simpa using h.2⟩) (fun _ => none)
    (fun k B => { tmps := #[.pointer (some ⟨t, 0, none⟩), .int .i64 f, undef, undef, .slice none 0 0, .pointer (some ⟨w.heap.size, 0, none⟩), .int .i64 k, .int .u32 (mask T f k : Nat), .pointer (some ⟨t, 0, none⟩), .int .i64 f, .func (.func 60) #[] #[.pointer (some ⟨w.heap.size + 1, 0, none⟩), .pointer (some ⟨w.heap.size + 1 + 1, 0, none⟩)], .int .i64 k, .int .u32 (mask T f k : Nat), undef, undef, undef, undef, undef, undef, undef, undef, undef, undef, undef, undef, undef, undef], defers := [] }) ?assign ?body ?done ?stop
  case assign =>
    intro l k W K hK
    unfold encE
    gi_wp2
    exact hK
  case body =>
    rintro l k B W hk hh hB - ⟨htu, hsp⟩
    have HT := Lib.hid htu
    have hml : w.heap.size < w0.heap.size := by have := HS.out; omega
    have hspl := spotsTo_len T f k
    have hmx := mask_lt T f k
    rw [hitsL_mask] at hmx ⊢
    have HSP := Lib.hid hsp
    clear htu hsp hh
    gi_wp2
    gi_loopw [7] (fun x wr => ∃ D R, hitsL T f k = D ++ R ∧ x = .int .u32 (ofBits R : Nat) ∧ KeepsFrom w0.heap.size W wr ∧ Turned w0 wr [w.heap.size] ∧ SpotsIn w0.heap.size w.heap.size (spotsTo T f k ++ D.map (fun p => (k, p))) wr) (fun x _ => (intOf x).toNat)
    case atStart => exact ⟨[], _, rfl, rfl, KeepsFrom.refl _ _, HT.out, by simpa using HSP.out⟩
    case round =>
      obtain ⟨D, R, hD, rfl, hkf, htu, v, hv, hown⟩ := hrel
      have HD := Lib.hid hD
      have HKF := Lib.hid hkf
      have HT := Lib.hid htu
      have HV := Lib.hid hv
      have HOWN := Lib.hid hown
      cases R with
      | nil =>
        have hx0 : ((((ofBits [] : Nat) : Int) != 0)) = false := by simp [ofBits]
        obtain ⟨nz, hnz⟩ : ∃ nz, ofBits [] = nz := ⟨_, rfl⟩
        rw [hnz] at hx0 ⊢
        clear hD hkf htu hv hown hnz
        gi_wp2
        refine ⟨HKF.out, HT.out, ?_⟩
        rw [spotsTo_succ]
        have := HD.out
        rw [List.append_nil] at this
        rw [this]
        exact ⟨v, HV.out, HOWN.out⟩
      | cons p R' =>
        have hsrt : (p :: R').Pairwise (· < ·) := (List.pairwise_append.1 (hD ▸ hitsL_sorted T f k)).2.1
        have hpl : p < 32 := hitsL_lt (T := T) (f := f) (s := k) (by rw [hD]; simp)
        have hgt : ∀ q ∈ R', p < q := (List.pairwise_cons.1 hsrt).1
        have hlen : (D ++ p :: R').length ≤ 32 := hD ▸ hitsL_len T f k
        have hlt : ofBits (p :: R') < 4294967296 := by
          apply Nat.lt_pow_two_of_testBit (n := 32)
          intro i hi'
          rw [ofBits_bit _ hsrt]
          simp only [decide_eq_false_iff_not]
          intro hm
          have := hitsL_lt (T := T) (f := f) (s := k) (p := i) (by rw [hD]; exact List.mem_append_right _ hm)
          omega
        have hctz := ofBits_ctz p R' hgt hlt
        have hclr := ofBits_clear p R' hgt
        have hne0 : ofBits (p :: R') ≠ 0 := by have : 0 < 2 ^ p := Nat.pow_pos (by decide); show 2 ^ p + ofBits R' ≠ 0; omega
        have hle : ofBits R' < ofBits (p :: R') := by have : 0 < 2 ^ p := Nat.pow_pos (by decide); show ofBits R' < 2 ^ p + ofBits R'; omega
        have htz := tz_any _ hlt hne0 wr.drew ((HTZ.out.turned htu (by simp; omega)).below ((Below.refl _ wr).drew) (by show _ < wr.heap.size; have := (HTZ.out.turned htu (by simp; omega)).lt; exact this))
        rw [hctz] at htz
        have hbits := bits_and_u32_nat (ofBits (p :: R')) (ofBits (p :: R') - 1) hlt (by omega)
        rw [hclr] at hbits
        obtain ⟨y, hy⟩ : ∃ y, ofBits R' = y := ⟨_, rfl⟩
        have HY := Lib.hid hy
        rw [hy] at hbits hle
        obtain ⟨x, hx⟩ : ∃ x, ofBits (p :: R') = x := ⟨_, rfl⟩
        rw [hx] at htz hbits hlt hne0 hle ⊢
        have hx1 : ((x : Int) != 0) = true := by simp; omega
        have hb2 : bits .and .u32 (x : Int) ((x : Int) - 1) = (y : Int) := by
          have e : ((x - 1 : Nat) : Int) = (x : Int) - 1 := by omega
          rw [e] at hbits; exact hbits
        have hgx : (1 : Int) ≤ x := by omega
        have hlx : (x : Int) < 4294967296 := by omega
        have HTZC := Lib.hid htz
        simp only [List.length_append, List.length_cons] at hlen
        have hmap : (D.map (fun p => (k, p))).length = D.length := List.length_map ..
        have hll : (spotsTo T f k ++ D.map (fun p => (k, p))).length < 2000 := by rw [List.length_append, hmap]; omega
        obtain ⟨L, hL⟩ : ∃ L, spotsTo T f k ++ D.map (fun p => (k, p)) = L := ⟨_, rfl⟩
        rw [hL] at HOWN hll
        have HLL := Lib.hid hL
        obtain ⟨d0, df, dl⟩ := one_of hv
        have HWL := Lib.hid (show w0.heap.size ≤ wr.heap.size from htu.size)
        have HL2 := Lib.hid hll
        have HLE := Lib.hid hle
        have HLX := Lib.hid (⟨hlx, hgx⟩ : (x : Int) < 4294967296 ∧ (1 : Int) ≤ x)
        clear hD hkf htu hv hown hsrt hpl hgt hlen hctz hclr hne0 hy hx hbits htz hmap hspl hmx hL hll hlx hgx hlt hle
        gi_wp2
        refine region_held_round (S := fun _ => True) mixed_p (by kernel_rfl) (by rintro ⟨a, w, h⟩; exact h) trivial (fun _ => ?_)
        refine wpAnyH_take (i := 1) (v := ?_) rfl (by kernel_rfl) (by kernel_rfl) (by kernel_rfl) (fun _ _ _ h => h) (Or.inl ⟨by rfl, ?_⟩) trivial ?_
        rotate_left
        · (intro w hSw; (try simp only [List.getElem_toArray, List.getElem_cons_zero, List.getElem_cons_succ]); go_simp; try (with_reducible rfl))
        try simp only [Act.put, List.getElem_toArray, List.getElem_cons_zero, List.getElem_cons_succ, List.setIfInBounds_toArray, List.set_cons_zero, List.set_cons_succ]
        refine wpAnyH_take (i := 2) (v := ?_) rfl (by kernel_rfl) (by kernel_rfl) (by kernel_rfl) (fun _ _ _ h => h) (Or.inl ⟨by rfl, ?_⟩) trivial ?_
        rotate_left
        · (intro w hSw; (try simp only [List.getElem_toArray, List.getElem_cons_zero, List.getElem_cons_succ]); go_simp; try (with_reducible rfl))
        try simp only [Act.put, List.getElem_toArray, List.getElem_cons_zero, List.getElem_cons_succ, List.setIfInBounds_toArray, List.set_cons_zero, List.set_cons_succ]
        refine wpAnyH_ready (rs := [0, 3]) (by kernel_rfl) (by simp) ?_
        refine (AllReadyH.cons rfl (fun K hK => ?_) (AllReadyH.cons rfl (fun K hK => ?_) AllReadyH.nil))
        · (try simp only [List.getElem_toArray, List.getElem_cons_zero]); go_simp
          try (go_wp2_with fail)
          refine hK.out _ _ trivial (fun _ => ?_)
          clear hK K
          try simp only [Act.put, List.getElem_toArray, List.getElem_cons_zero, List.setIfInBounds_toArray, List.set_cons_zero, List.set_cons_succ]
          refine wpAnyH_ready (rs := [3]) (by kernel_rfl) (by simp) ?_
          refine AllReadyH.cons rfl (fun K hK => ?_) AllReadyH.nil
          (try simp only [List.getElem_toArray, List.getElem_cons_zero, List.getElem_cons_succ]); go_simp
          go_at_call 48; refine HTZC.out.mono ?_; rintro e w2 ⟨rfl, rfl⟩
          try (go_wp2_with fail)
          refine hK.out _ _ trivial (fun _ => ?_)
          clear hK K
          try simp only [Act.put, List.getElem_toArray, List.getElem_cons_zero, List.getElem_cons_succ, List.setIfInBounds_toArray, List.set_cons_zero, List.set_cons_succ]
          refine wpAnyH_take (i := 4) (v := ?_) rfl (by kernel_rfl) (by kernel_rfl) (by kernel_rfl) (fun _ _ _ h => h) (Or.inl ⟨by rfl, ?_⟩) trivial ?_
          rotate_left
          · (intro w hSw; (try simp only [List.getElem_toArray, List.getElem_cons_zero, List.getElem_cons_succ]); go_simp; try (with_reducible rfl))
          try simp only [Act.put, List.getElem_toArray, List.getElem_cons_zero, List.getElem_cons_succ, List.setIfInBounds_toArray, List.set_cons_zero, List.set_cons_succ]
          refine wpAnyH_ready (rs := [5]) (by kernel_rfl) (by simp) ?_
          refine AllReadyH.cons rfl (fun K hK => ?_) AllReadyH.nil
          (try simp only [List.getElem_toArray, List.getElem_cons_zero, List.getElem_cons_succ]); go_simp
          try (go_wp2_with fail)
          refine hK.out _ _ trivial (fun _ => ?_)
          clear hK K
          try simp only [Act.put, List.getElem_toArray, List.getElem_cons_zero, List.getElem_cons_succ, List.setIfInBounds_toArray, List.set_cons_zero, List.set_cons_succ]
          refine wpAnyH_ready (rs := [6]) (by kernel_rfl) (by simp) ?_
          refine AllReadyH.cons rfl (fun K hK => ?_) AllReadyH.nil
          refine step_append_own rfl _ _ 48 rfl w0.heap.size 52 i0 (.agg #[.int .i64 0, .int .i64 0]) 2 16 Tryd.underlying48 hi hz0 hz1 hz2 rfl (by decide) _ _ _ rfl (HOWN.out.alloc (.cells #[.int .i64 k, .int .i64 p] 52)) ⟨wr.heap.size, 0, none⟩ 1 1 [.int .i64 k, .int .i64 p] rfl rfl (cell_two_new wr _ _ _) (by simp [Value.oneCell']) (by have := HL2.out; unfold maxLen; omega) (by have := HL2.out; omega) (by have := HWL.out; simp; omega) ?_
          intro v' w3 hown' hg3
          obtain ⟨va, vl, vc, rfl⟩ := own_sl hown'
          have HST := Lib.hid (where_step HKF.out HT.out rfl (by omega) HV.out HOWN.out hg3 hown')
          have q3 := where_cell (by omega) HV.out HOWN.out hg3
          obtain ⟨d3, df3, dl3⟩ := one_of q3
          clear hown' hg3 q3
          refine hK.out _ _ trivial (fun _ => ?_)
          clear hK K
          try simp only [Act.put, List.getElem_toArray, List.getElem_cons_zero, List.getElem_cons_succ, List.setIfInBounds_toArray, List.set_cons_zero, List.set_cons_succ]
          refine wpAnyH_ready (rs := [7]) (by kernel_rfl) (by simp) ?_
          refine AllReadyH.cons rfl (fun K hK => ?_) AllReadyH.nil
          (try simp only [List.getElem_toArray, List.getElem_cons_zero, List.getElem_cons_succ]); go_simp
          try (go_wp2_with fail)
          refine hK.out _ _ trivial (fun _ => ?_)
          clear hK K
          try simp only [Act.put, List.getElem_toArray, List.getElem_cons_zero, List.getElem_cons_succ, List.setIfInBounds_toArray, List.set_cons_zero, List.set_cons_succ]
          refine wpAnyH_done (by kernel_rfl) ?_ _
          clear d3 df3 dl3
          have hlx := HLX.out.1
          have hgx := HLX.out.2
          gi_wp2
          go_roundw
          case rel => exact ⟨D ++ [p], R', by rw [HD.out]; simp, by rw [HY.out], HST.out.1, HST.out.2.1, by rw [List.map_append, ← List.append_assoc, HLL.out]; exact HST.out.2.2⟩
          case measure => have := HLE.out; simp [intOf]; omega
        · (try simp only [List.getElem_toArray, List.getElem_cons_zero, List.getElem_cons_succ]); go_simp
          go_at_call 48; refine HTZC.out.mono ?_; rintro e w2 ⟨rfl, rfl⟩
          try (go_wp2_with fail)
          refine hK.out _ _ trivial (fun _ => ?_)
          clear hK K
          try simp only [Act.put, List.getElem_toArray, List.getElem_cons_zero, List.getElem_cons_succ, List.setIfInBounds_toArray, List.set_cons_zero, List.set_cons_succ]
          refine wpAnyH_take (i := 4) (v := ?_) rfl (by kernel_rfl) (by kernel_rfl) (by kernel_rfl) (fun _ _ _ h => h) (Or.inl ⟨by rfl, ?_⟩) trivial ?_
          rotate_left
          · (intro w hSw; (try simp only [List.getElem_toArray, List.getElem_cons_zero, List.getElem_cons_succ]); go_simp; try (with_reducible rfl))
          try simp only [Act.put, List.getElem_toArray, List.getElem_cons_zero, List.getElem_cons_succ, List.setIfInBounds_toArray, List.set_cons_zero, List.set_cons_succ]
          refine wpAnyH_ready (rs := [0, 5]) (by kernel_rfl) (by simp) ?_
          refine (AllReadyH.cons rfl (fun K hK => ?_) (AllReadyH.cons rfl (fun K hK => ?_) AllReadyH.nil))
          · (try simp only [List.getElem_toArray, List.getElem_cons_zero]); go_simp
            try (go_wp2_with fail)
            refine hK.out _ _ trivial (fun _ => ?_)
            clear hK K
            try simp only [Act.put, List.getElem_toArray, List.getElem_cons_zero, List.setIfInBounds_toArray, List.set_cons_zero, List.set_cons_succ]
            refine wpAnyH_ready (rs := [5]) (by kernel_rfl) (by simp) ?_
            refine AllReadyH.cons rfl (fun K hK => ?_) AllReadyH.nil
            (try simp only [List.getElem_toArray, List.getElem_cons_zero, List.getElem_cons_succ]); go_simp
            try (go_wp2_with fail)
            refine hK.out _ _ trivial (fun _ => ?_)
            clear hK K
            try simp only [Act.put, List.getElem_toArray, List.getElem_cons_zero, List.getElem_cons_succ, List.setIfInBounds_toArray, List.set_cons_zero, List.set_cons_succ]
            refine wpAnyH_ready (rs := [6]) (by kernel_rfl) (by simp) ?_
            refine AllReadyH.cons rfl (fun K hK => ?_) AllReadyH.nil
            refine step_append_own rfl _ _ 48 rfl w0.heap.size 52 i0 (.agg #[.int .i64 0, .int .i64 0]) 2 16 Tryd.underlying48 hi hz0 hz1 hz2 rfl (by decide) _ _ _ rfl (HOWN.out.alloc (.cells #[.int .i64 k, .int .i64 p] 52)) ⟨wr.heap.size, 0, none⟩ 1 1 [.int .i64 k, .int .i64 p] rfl rfl (cell_two_new wr _ _ _) (by simp [Value.oneCell']) (by have := HL2.out; unfold maxLen; omega) (by have := HL2.out; omega) (by have := HWL.out; simp; omega) ?_
            intro v' w3 hown' hg3
            obtain ⟨va, vl, vc, rfl⟩ := own_sl hown'
            have HST := Lib.hid (where_step HKF.out HT.out rfl (by omega) HV.out HOWN.out hg3 hown')
            have q3 := where_cell (by omega) HV.out HOWN.out hg3
            obtain ⟨d3, df3, dl3⟩ := one_of q3
            clear hown' hg3 q3
            refine hK.out _ _ trivial (fun _ => ?_)
            clear hK K
            try simp only [Act.put, List.getElem_toArray, List.getElem_cons_zero, List.getElem_cons_succ, List.setIfInBounds_toArray, List.set_cons_zero, List.set_cons_succ]
            refine wpAnyH_ready (rs := [7]) (by kernel_rfl) (by simp) ?_
            refine AllReadyH.cons rfl (fun K hK => ?_) AllReadyH.nil
            (try simp only [List.getElem_toArray, List.getElem_cons_zero, List.getElem_cons_succ]); go_simp
            try (go_wp2_with fail)
            refine hK.out _ _ trivial (fun _ => ?_)
            clear hK K
            try simp only [Act.put, List.getElem_toArray, List.getElem_cons_zero, List.getElem_cons_succ, List.setIfInBounds_toArray, List.set_cons_zero, List.set_cons_succ]
            refine wpAnyH_done (by kernel_rfl) ?_ _
            clear d3 df3 dl3
            have hlx := HLX.out.1
            have hgx := HLX.out.2
            gi_wp2
            go_roundw
            case rel => exact ⟨D ++ [p], R', by rw [HD.out]; simp, by rw [HY.out], HST.out.1, HST.out.2.1, by rw [List.map_append, ← List.append_assoc, HLL.out]; exact HST.out.2.2⟩
            case measure => have := HLE.out; simp [intOf]; omega
          · (try simp only [List.getElem_toArray, List.getElem_cons_zero, List.getElem_cons_succ]); go_simp
            try (go_wp2_with fail)
            refine hK.out _ _ trivial (fun _ => ?_)
            clear hK K
            try simp only [Act.put, List.getElem_toArray, List.getElem_cons_zero, List.getElem_cons_succ, List.setIfInBounds_toArray, List.set_cons_zero, List.set_cons_succ]
            refine wpAnyH_ready (rs := [0]) (by kernel_rfl) (by simp) ?_
            refine AllReadyH.cons rfl (fun K hK => ?_) AllReadyH.nil
            (try simp only [List.getElem_toArray, List.getElem_cons_zero]); go_simp
            try (go_wp2_with fail)
            refine hK.out _ _ trivial (fun _ => ?_)
            clear hK K
            try simp only [Act.put, List.getElem_toArray, List.getElem_cons_zero, List.setIfInBounds_toArray, List.set_cons_zero, List.set_cons_succ]
            refine wpAnyH_ready (rs := [6]) (by kernel_rfl) (by simp) ?_
            refine AllReadyH.cons rfl (fun K hK => ?_) AllReadyH.nil
            refine step_append_own rfl _ _ 48 rfl w0.heap.size 52 i0 (.agg #[.int .i64 0, .int .i64 0]) 2 16 Tryd.underlying48 hi hz0 hz1 hz2 rfl (by decide) _ _ _ rfl (HOWN.out.alloc (.cells #[.int .i64 k, .int .i64 p] 52)) ⟨wr.heap.size, 0, none⟩ 1 1 [.int .i64 k, .int .i64 p] rfl rfl (cell_two_new wr _ _ _) (by simp [Value.oneCell']) (by have := HL2.out; unfold maxLen; omega) (by have := HL2.out; omega) (by have := HWL.out; simp; omega) ?_
            intro v' w3 hown' hg3
            obtain ⟨va, vl, vc, rfl⟩ := own_sl hown'
            have HST := Lib.hid (where_step HKF.out HT.out rfl (by omega) HV.out HOWN.out hg3 hown')
            have q3 := where_cell (by omega) HV.out HOWN.out hg3
            obtain ⟨d3, df3, dl3⟩ := one_of q3
            clear hown' hg3 q3
            refine hK.out _ _ trivial (fun _ => ?_)
            clear hK K
            try simp only [Act.put, List.getElem_toArray, List.getElem_cons_zero, List.getElem_cons_succ, List.setIfInBounds_toArray, List.set_cons_zero, List.set_cons_succ]
            refine wpAnyH_ready (rs := [7]) (by kernel_rfl) (by simp) ?_
            refine AllReadyH.cons rfl (fun K hK => ?_) AllReadyH.nil
            (try simp only [List.getElem_toArray, List.getElem_cons_zero, List.getElem_cons_succ]); go_simp
            try (go_wp2_with fail)
            refine hK.out _ _ trivial (fun _ => ?_)
            clear hK K
            try simp only [Act.put, List.getElem_toArray, List.getElem_cons_zero, List.getElem_cons_succ, List.setIfInBounds_toArray, List.set_cons_zero, List.set_cons_succ]
            refine wpAnyH_done (by kernel_rfl) ?_ _
            clear d3 df3 dl3
            have hlx := HLX.out.1
            have hgx := HLX.out.2
            gi_wp2
            go_roundw
            case rel => exact ⟨D ++ [p], R', by rw [HD.out]; simp, by rw [HY.out], HST.out.1, HST.out.2.1, by rw [List.map_append, ← List.append_assoc, HLL.out]; exact HST.out.2.2⟩
            case measure => have := HLE.out; simp [intOf]; omega
  case done =>
    rintro D W hD ⟨htu, v, hcnt, hown⟩ hK
    obtain ⟨d0, df, dl⟩ := one_of hcnt
    have hm := HS.out
    have hx0 := HB0.out
    have hb : Below w.heap.size w W := ⟨htu.os.trans hx0.os, htu.tape.trans hx0.tape, htu.output.trans hx0.output, Nat.le_trans hx0.size htu.size, fun j hj => (htu.block j (by omega) (by simp; omega)).trans (hx0.block j hj)⟩
    have HB := Lib.hid hb
    have HO := Lib.hid (owns_base hown hx0.size)
    clear htu hb hx0 hown
    gi_wp2
    refine ⟨by simp, .inl ⟨_, _, rfl, run_takeDeferred hK, ?_⟩⟩
    refine ⟨v, by simp [results, Tryd.f21, go_sem], v, rfl, ?_, below_putC HB.out _ _ (by omega)⟩
    refine HO.out.kept (grownBy_putObj' W D _) ?_
    obtain ⟨-, h3 | ⟨g, cap, cur, rfl, -, h4, -⟩⟩ := HO.out
    · rw [h3.1]; exact Or.inl rfl
    · refine Or.inr (fun e => ?_)
      cases e
      rw [h4] at hK
      cases hK
  case stop => rintro D c W hD h; exact h.elim
theorem where_any {w : World} {t b N : Nat} {T : Tb} (h : PT w t b N T) (f : Int) (hf : (Lit.int .i64 f).wf = true) (hz : TzTab w) :
    Calls Tryd.prog 21 #[.pointer (some ⟨t, 0, none⟩), .int .i64 f] w fun e w' => ∃ v, e = .returned v ∧ w'.ownsRow w.heap.size 52 2 v (spotsTo T f 16).length ((spotsTo T f 16).flatMap spotC) ∧ Below w.heap.size w w' := callsIn_wide.1 (where_in h f hf hz)
end Go.Proofs.YtgkfejnjjoaihaaDoor
