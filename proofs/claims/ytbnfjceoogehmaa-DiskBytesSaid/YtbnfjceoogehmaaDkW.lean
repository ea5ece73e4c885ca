/- Of: a disk of bytes. -/
import Derived.Test.YtbnfjceoogehmaaDkOpen
import Derived.Test.YtbnfjceoogehmaaDkK
namespace Go.Proofs.Ytbnfjceoogehmaa
open Go.RowKit
open Go.Maps (Keyed)
attribute [local go_sem] Oper.semAt_some

/-- A piece of bytes, as long as a sector. -/
def chunk (l : List Int) (i : Nat) : Sec := (l.drop (i * 128)).take 128
theorem chunk_ok {l : List Int} {n i : Nat} (hl : l.length = n * 128) (hi : i < n) (h01 : ∀ x ∈ l, 0 ≤ x ∧ x < 256) : SecOk (chunk l i) :=
  ⟨by unfold chunk; rw [List.length_take, List.length_drop, hl]; omega, fun x hx => h01 x (List.mem_of_mem_drop (List.mem_of_mem_take hx))⟩
def flK (l : List Int) (n k : Nat) : List Sec := (List.range n).map (fun i => if i < k then chunk l i else zeroS)
theorem flK_len (l : List Int) (n k : Nat) : (flK l n k).length = n := by simp [flK]
theorem flK_zero (l : List Int) (n : Nat) : flK l n 0 = List.replicate n zeroS := by
  apply List.ext_getElem?
  intro i
  unfold flK
  rw [List.getElem?_map, List.getElem?_replicate]
  by_cases h : i < n
  · rw [List.getElem?_range h, if_pos h]; rfl
  · rw [List.getElem?_eq_none (by simp; omega), if_neg h]; rfl
theorem flK_succ (l : List Int) (n k : Nat) (hk : k < n) : (flK l n k).set k (chunk l k) = flK l n (k + 1) := by
  apply List.ext_getElem?
  intro i
  unfold flK
  rw [List.getElem?_set, List.length_map, List.length_range, List.getElem?_map, List.getElem?_map]
  by_cases h : i < n
  · rw [List.getElem?_range h]
    by_cases e : k = i
    · subst e; rw [if_pos rfl, if_pos hk]; simp
    · rw [if_neg e]
      simp only [Option.map_some]
      by_cases h2 : i < k
      · rw [if_pos h2, if_pos (by omega)]
      · rw [if_neg h2, if_neg (by omega)]
  · rw [if_neg (by omega), List.getElem?_eq_none (by simp; omega)]; rfl
/-- A copy into a sector, at the step of a region that draws its order. -/
theorem step_copySec {ops : Array Oper} {o : Oper} {a : Act} {w : World} {K : Act → World → Prop} {Q : Exit → Act → World → Prop} {E : Prop}
    (hg : o.guard = none) (x y : Operand) (hop : o.op = .call { callee := .builtin .copy, args := #[x, y], argTypes := #[35, 35] }) (g off : Nat) (c : Sec) (hc : SecOk c) {dc sl sc : Nat} (hx : a.eval x = .slice (some ⟨g, off, none⟩) 128 dc) (ad : Addr) (hy : a.eval y = .slice (some ad) sl sc)
    (hsrc : ∀ j v, (secL c)[j]? = some v → w.cell? (ad.add j) = some v) (hsl : 128 ≤ sl) (old : Array Value) (hgh : w.heap[g]? = some (.cells old 85 (0, 0))) (hold : off + 128 ≤ old.size)
    (hK : K (a.put o.dst (goInt 128)) (w.setRow g (splice old.toList off (secL c)).toArray)) : if Region.wanted o (yielded ops a.tmps) = true then Oper.wp Try.prog o a w K Q else E := by
  have hw : Region.wanted o (yielded ops a.tmps) = true := by simp [Region.wanted, hg]
  rw [if_pos hw]
  have hrun := run_copy_row (P := Try.prog) w 35 35 o.type 5 g off 128 dc ad sl sc old 85 (secL c) Try.underlying35 (by kernel_rfl) hgh (by rw [secL_len hc]; exact (Nat.min_eq_right hsl).symm) hsrc (by rw [secL_len hc]; exact hold) secL_one
  rw [secL_len hc] at hrun
  unfold splice at hK
  rw [secL_len hc] at hK
  unfold Oper.wp
  simp [execOp, hop, resolve, invoke, builtin, hx, hy, hrun, splice, secL_len hc, Result.andThen]
  exact hK
set_option maxHeartbeats 4000000 in
set_option maxRecDepth 100000 in
theorem of_yes9 {w : World} {A : Option Addr} {l : List Int} (hb : ByteIn w A l) (h01 : ∀ x ∈ l, 0 ≤ x ∧ x < 256) (n : Nat) (hl : l.length = n * 128) (h1 : 1 ≤ n) (h2 : n ≤ 4096) (c : Nat) (hc : l.length ≤ c) :
    Calls Try.prog 15 #[.slice A l.length c] w (NewOut9 w (newD (flK l n n) 0)) := by
  obtain ⟨bg, bo, rfl, hb0⟩ := hb 0 _ (List.getElem?_eq_getElem (by omega))
  have HB := Lib.hid hb
  have H01 := Lib.hid h01
  have HL := Lib.hid hl
  obtain ⟨m, hm⟩ : ∃ m, l.length = m := ⟨_, rfl⟩
  rw [hm] at hc ⊢
  have hm' : m = n * 128 := by omega
  have hrem : Int.tmod (m : Int) 128 = 0 := by
    have : Int.tmod (m : Int) 128 = ((m % 128 : Nat) : Int) := rfl
    rw [this, hm']; omega
  have hquo : Int.tdiv (m : Int) 128 = (n : Int) := by
    have : Int.tdiv (m : Int) 128 = ((m / 128 : Nat) : Int) := rfl
    rw [this, hm']; omega
  have HN := Lib.hid (new_yes9 n h1 h2 w)
  have HM' := Lib.hid hm'
  clear hb h01 hb0 hl hm hm'
  go_enter Try.func15, Try.ntmps15
  go_wp2_with (go_at_call 8; refine HN.out.mono ?_; rintro e w1 ⟨d, O, L, rfl, hd1, hO1, hb1⟩; have HD1 := Lib.hid hd1; have HO1 := Lib.hid hO1; have HB1 := Lib.hid hb1; have c0 := hd1.c0; rw [show (newD (List.replicate n zeroS) 0).fl.length = n from List.length_replicate] at c0; clear hd1 hO1 hb1)
  go_loopw [26] (fun i wr => ∃ k : Nat, k ≤ n ∧ i = .int .i64 (k : Int) ∧ DkAt wr O d L (newD (flK l n k) 0) ∧ Below w.heap.size w wr) (fun i _ => n - (intOf i).toNat)
  case atStart => exact ⟨0, Nat.zero_le _, rfl, by rw [flK_zero]; exact HD1.out, HB1.out⟩
  case round =>
    obtain ⟨k, hk, rfl, hd, hbr⟩ := hrel
    have HD := Lib.hid hd
    have HBR := Lib.hid hbr
    have hlen : (newD (flK l n k) 0).fl.length = n := flK_len l n k
    have hc0 := hd.c0
    rw [hlen] at hc0
    have HC0 := Lib.hid (show wr.drew.cell? ⟨d, 0, none⟩ = some (.slice (some ⟨L.F, 0, none⟩) n L.cap) from hc0)
    have HLEN := Lib.hid hlen
    clear hd hbr hc0 hlen c0
    by_cases hlt : k < n
    · have hlt' : (k : Int) < n := by omega
      have HOK := Lib.hid (chunk_ok HL.out hlt H01.out)
      obtain ⟨km, hkm2⟩ : ∃ km, k * 128 = km := ⟨_, rfl⟩
      have hw : IntKind.i64.wrap ((k : Int) * 128) = (km : Int) := by rw [IntWalk.i64_in _ (by omega)]; omega
      have hkm : km + 128 ≤ m := by have := HM'.out; omega
      have hkm1 : (km : Int) ≤ m := by omega
      have hkc : ¬ (c = km) := by omega
      have hdd : DkAt wr.drew O d L (newD (flK l n k) 0) := HD.out.keep (Nat.le_refl _) (fun _ _ => rfl)
      obtain ⟨cur, hcur, hcs, hrow⟩ := own_amid hdd.row hdd.ok.f (i := k) (by rw [HLEN.out]; exact hlt) HOK.out
      have HCUR := Lib.hid hcur
      have HCS := Lib.hid hcs
      have HSET := Lib.hid (set_at hdd k (by rw [HLEN.out]; exact hlt) (chunk l k) HOK.out hrow)
      have HSRC := Lib.hid (show ∀ j v, (secL (chunk l k))[j]? = some v → wr.drew.cell? ((⟨bg, bo + km, none⟩ : Addr).add j) = some v from fun j v hj => by
        unfold secL chunk at hj
        rw [List.getElem?_map] at hj
        obtain ⟨x, hx, rfl⟩ := Option.map_eq_some_iff.1 hj
        have hj2 : j < 128 := by
          have := (List.getElem?_eq_some_iff.1 hx).1
          rw [List.length_take] at this; omega
        rw [List.getElem?_take_of_lt hj2, List.getElem?_drop] at hx
        obtain ⟨b', o', e', h1⟩ := (HB.out.below HBR.out.drew) _ _ hx
        cases e'
        rw [Addr.add_lit, show bo + km + j = bo + (k * 128 + j) by omega]
        exact h1)
      have HS1 := Lib.hid (show (wr.drew.setRow L.F (splice cur.toList (k * 128) (secL (chunk l k))).toArray).cell? ⟨d, 0, none⟩ = some (.slice (some ⟨L.F, 0, none⟩) n L.cap) from (World.cell?_of_block (a := ⟨d, 0, none⟩) (setRow_other _ L.F d _ (fun e => hdd.Fd.1 e.symm))).trans HC0.out)
      clear hcur hcs hrow hdd hkm2
      go_wp2
      refine wp_region_noPanic ?_
      refine wp_region_held_drew (S := fun W => W.cell? ⟨d, 0, none⟩ = some (.slice (some ⟨L.F, 0, none⟩) n L.cap)) (by kernel_rfl) ?_ (fun hHeld => ?_)
      · exact HC0.out
      refine wpAnyH_take (i := 0) (v := ?_) rfl (by kernel_rfl) (by kernel_rfl) (by kernel_rfl) (fun _ _ _ h => h) (Or.inl ⟨by rfl, ?_⟩) (by assumption) ?_
      rotate_left
      · (intro w hSw; have hSc := hSw; (try simp only [List.getElem_toArray, List.getElem_cons_zero]); go_simp; try (with_reducible rfl))
      try simp only [Act.put, List.getElem_toArray, List.getElem_cons_zero, List.setIfInBounds_toArray, List.set_cons_zero, List.set_cons_succ]
      refine wpAnyH_take (i := 1) (v := ?_) rfl (by kernel_rfl) (by kernel_rfl) (by kernel_rfl) (fun _ _ _ h => h) (Or.inl ⟨by rfl, ?_⟩) (by assumption) ?_
      rotate_left
      · (intro w hSw; have hSc := hSw; (try simp only [List.getElem_toArray, List.getElem_cons_zero, List.getElem_cons_succ]); go_simp; try (with_reducible rfl))
      try simp only [Act.put, List.getElem_toArray, List.getElem_cons_zero, List.getElem_cons_succ, List.setIfInBounds_toArray, List.set_cons_zero, List.set_cons_succ]
      refine wpAnyH_take (i := 2) (v := ?_) rfl (by kernel_rfl) (by kernel_rfl) (by kernel_rfl) (fun _ _ _ h => h) (Or.inl ⟨by rfl, ?_⟩) (by assumption) ?_
      rotate_left
      · (intro w hSw; have hSc := hSw; (try simp only [List.getElem_toArray, List.getElem_cons_zero, List.getElem_cons_succ]); go_simp; try (with_reducible rfl))
      try simp only [Act.put, List.getElem_toArray, List.getElem_cons_zero, List.getElem_cons_succ, List.setIfInBounds_toArray, List.set_cons_zero, List.set_cons_succ]
      refine wpAnyH_take (i := 3) (v := ?_) rfl (by kernel_rfl) (by kernel_rfl) (by kernel_rfl) (fun _ _ _ h => h) (Or.inl ⟨by rfl, ?_⟩) (by assumption) ?_
      rotate_left
      · (intro w hSw; have hSc := hSw; (try simp only [List.getElem_toArray, List.getElem_cons_zero, List.getElem_cons_succ]); go_simp; try (with_reducible rfl))
      try simp only [Act.put, List.getElem_toArray, List.getElem_cons_zero, List.getElem_cons_succ, List.setIfInBounds_toArray, List.set_cons_zero, List.set_cons_succ]
      refine wpAnyH_take (i := 4) (v := ?_) rfl (by kernel_rfl) (by kernel_rfl) (by kernel_rfl) (fun _ _ _ h => h) (Or.inl ⟨by rfl, ?_⟩) (by assumption) ?_
      rotate_left
      · (intro w hSw; have hSc := hSw; (try simp only [List.getElem_toArray, List.getElem_cons_zero, List.getElem_cons_succ]); go_simp; try (with_reducible rfl))
      try simp only [Act.put, List.getElem_toArray, List.getElem_cons_zero, List.getElem_cons_succ, List.setIfInBounds_toArray, List.set_cons_zero, List.set_cons_succ]
      refine wpAnyH_take (i := 5) (v := ?_) rfl (by kernel_rfl) (by kernel_rfl) (by kernel_rfl) (fun _ _ _ h => h) (Or.inl ⟨by rfl, ?_⟩) (by assumption) ?_
      rotate_left
      · (intro w hSw; have hSc := hSw; (try simp only [List.getElem_toArray, List.getElem_cons_zero, List.getElem_cons_succ]); go_simp; try (with_reducible rfl))
      try simp only [Act.put, List.getElem_toArray, List.getElem_cons_zero, List.getElem_cons_succ, List.setIfInBounds_toArray, List.set_cons_zero, List.set_cons_succ]
      refine wpAnyH_take (i := 6) (v := ?_) rfl (by kernel_rfl) (by kernel_rfl) (by kernel_rfl) (fun _ _ _ h => h) (Or.inl ⟨by rfl, ?_⟩) (by assumption) ?_
      rotate_left
      · (intro w hSw; have hSc := hSw; (try simp only [List.getElem_toArray, List.getElem_cons_zero, List.getElem_cons_succ]); go_simp; try (with_reducible rfl))
      try simp only [Act.put, List.getElem_toArray, List.getElem_cons_zero, List.getElem_cons_succ, List.setIfInBounds_toArray, List.set_cons_zero, List.set_cons_succ]
      refine wpAnyH_take (i := 7) (v := ?_) rfl (by kernel_rfl) (by kernel_rfl) (by kernel_rfl) (fun _ _ _ h => h) (Or.inl ⟨by rfl, ?_⟩) (by assumption) ?_
      rotate_left
      · (intro w hSw; have hSc := hSw; (try simp only [List.getElem_toArray, List.getElem_cons_zero, List.getElem_cons_succ]); go_simp; try (with_reducible rfl))
      try simp only [Act.put, List.getElem_toArray, List.getElem_cons_zero, List.getElem_cons_succ, List.setIfInBounds_toArray, List.set_cons_zero, List.set_cons_succ]
      refine wpAnyH_take (i := 8) (v := ?_) rfl (by kernel_rfl) (by kernel_rfl) (by kernel_rfl) (fun _ _ _ h => h) (Or.inl ⟨by rfl, ?_⟩) (by assumption) ?_
      rotate_left
      · (intro w hSw; have hSc := hSw; (try simp only [List.getElem_toArray, List.getElem_cons_zero, List.getElem_cons_succ]); go_simp; try (with_reducible rfl))
      try simp only [Act.put, List.getElem_toArray, List.getElem_cons_zero, List.getElem_cons_succ, List.setIfInBounds_toArray, List.set_cons_zero, List.set_cons_succ]
      refine wpAnyH_take (i := 9) (v := ?_) rfl (by kernel_rfl) (by kernel_rfl) (by kernel_rfl) (fun _ _ _ h => h) (Or.inl ⟨by rfl, ?_⟩) (by assumption) ?_
      rotate_left
      · (intro w hSw; have hSc := hSw; (try simp only [List.getElem_toArray, List.getElem_cons_zero, List.getElem_cons_succ]); go_simp; try (with_reducible rfl))
      try simp only [Act.put, List.getElem_toArray, List.getElem_cons_zero, List.getElem_cons_succ, List.setIfInBounds_toArray, List.set_cons_zero, List.set_cons_succ]
      refine wpAnyH_take (i := 10) (v := ?_) rfl (by kernel_rfl) (by kernel_rfl) (by kernel_rfl) (fun _ _ _ h => h) (Or.inl ⟨by rfl, ?_⟩) (by assumption) ?_
      rotate_left
      · (intro w hSw; have hSc := hSw; (try simp only [List.getElem_toArray, List.getElem_cons_zero, List.getElem_cons_succ]); go_simp; try (with_reducible rfl))
      try simp only [Act.put, List.getElem_toArray, List.getElem_cons_zero, List.getElem_cons_succ, List.setIfInBounds_toArray, List.set_cons_zero, List.set_cons_succ]
      refine wpAnyH_ready (rs := [11]) (by kernel_rfl) (by simp) ?_
      refine AllReadyH.cons rfl (fun K hK => ?_) AllReadyH.nil
      refine step_copySec rfl _ _ rfl L.F (k * 128) (chunk l k) HOK.out rfl ⟨bg, bo + km, none⟩ rfl HSRC.out (by omega) cur HCUR.out HCS.out ?_
      refine hK.out _ _ HS1.out (fun hHeld => ?_)
      clear hK K
      try simp only [Act.put, List.getElem_toArray, List.getElem_cons_zero, List.getElem_cons_succ, List.setIfInBounds_toArray, List.set_cons_zero, List.set_cons_succ]
      refine wpAnyH_done (by kernel_rfl) ?_ _
      refine NoPanic.normal ?_
      have HBS := Lib.hid (show Below w.heap.size w (wr.drew.setRow L.F (splice cur.toList (k * 128) (secL (chunk l k))).toArray) from below_setRow HBR.out.drew (HO1.out _ HD.out.oF) _)
      go_wp2
      go_roundw
      case rel => exact ⟨k + 1, hlt, by go_num, by rw [← flK_succ l n k hlt]; exact HSET.out, HBS.out⟩
      case measure => simp [intOf]; omega
    · have hlt' : ¬ (k : Int) < n := by omega
      obtain rfl : k = n := by omega
      go_wp2
      go_ret2
      exact ⟨d, O, L, rfl, HD.out, HO1.out, HBR.out⟩
theorem of_odd9 {w : World} (A : Option Addr) (m c : Nat) (h : m % 128 ≠ 0) : Calls Try.prog 15 #[.slice A m c] w fun e w' => e = .returned (.tuple #[.pointer none, .int .i64 2]) ∧ w = w' := by
  obtain ⟨q, hq⟩ : ∃ q, m % 128 = q := ⟨_, rfl⟩
  have hrem : Int.tmod (m : Int) 128 = (q : Int) := by
    have : Int.tmod (m : Int) 128 = ((m % 128 : Nat) : Int) := rfl
    rw [this, hq]
  have hq0 : ¬ ((q : Int) = 0) := by omega
  have hqb : ((q : Int) == 0) = false := by simpa using hq0
  clear hq h
  go_enter Try.func15, Try.ntmps15
  go_wp2
  go_ret2
  exact ⟨rfl, rfl⟩
theorem of_big9 {w : World} (A : Option Addr) (n c : Nat) (h : n < 1 ∨ 4096 < n) (hn : (n : Int) * 128 ≤ 9223372036854775807) : Calls Try.prog 15 #[.slice A (n * 128) c] w fun e w' => e = .returned (.tuple #[.pointer none, .int .i64 2]) ∧ w = w' := by
  obtain ⟨m, hm⟩ : ∃ m, n * 128 = m := ⟨_, rfl⟩
  have hrem : Int.tmod (m : Int) 128 = 0 := by
    have : Int.tmod (m : Int) 128 = ((m % 128 : Nat) : Int) := rfl
    rw [this]; omega
  have hquo : Int.tdiv (m : Int) 128 = (n : Int) := by
    have : Int.tdiv (m : Int) 128 = ((m / 128 : Nat) : Int) := rfl
    rw [this]; omega
  rw [hm]
  have HN := Lib.hid (new_no9 (n : Int) (by omega) w)
  clear h hm
  go_enter Try.func15, Try.ntmps15
  go_wp2_with (go_at_call 8; refine HN.out.mono ?_; rintro e w' ⟨rfl, rfl⟩)
  go_ret2
  exact ⟨rfl, rfl⟩
/-- A copy of a sector's bytes. -/
def CloneSec (w : World) (c : Sec) (e : Ending) (w' : World) : Prop := ∃ g k, e = .returned (.slice (some ⟨g, 0, none⟩) 128 k) ∧ w.heap.size ≤ g ∧ g < w'.heap.size ∧ w'.rangeAt g 0 (secL c) ∧ (∀ o, w'.frozen? ⟨g, o, none⟩ = false) ∧ Below w.heap.size w w'
set_option maxHeartbeats 1000000 in
set_option maxRecDepth 100000 in
theorem clone_sec9 {w : World} {b off : Nat} {c : Sec} (hc : w.rangeAt b off (secL c)) (hok : SecOk c) (k : Nat) : Calls Try.prog 46 #[.slice (some ⟨b, off, none⟩) 128 k] w (CloneSec w c) := by
  obtain ⟨i0, hi, hz0, hz1, hz2⟩ := info_parts Try.infoU8k
  have hz2 : i0.bytes = 1 := hz2
  have q22 : ∀ (w : World) (a : Option Addr) (n c n' c' : Nat), (binOp .eql 35 (.slice a n c) (.slice none n' c')).run Try.prog w = .ok (.bool a.isNone) w := fun w a n c n' c' => Lib.run_eql_slice_nil w _ _ a n c n' c' Try.underlying35
  have HC := Lib.hid hc
  have HOK := Lib.hid hok
  clear hc hok
  go_enter Try.func46, Try.ntmps46
  go_wp2_with (at_builtin; refine wpList_append_own _ rfl _ _ 35 rfl w.heap.size 5 i0 (.int .u8 0) 1 1 Try.underlying35 hi hz0 hz1 hz2 rfl (by decide) _ _ _ rfl (World.ownsRow_made w #[] 0 (Nat.le_refl _) (Nat.zero_le _) rfl) ⟨b, off, none⟩ 128 k (secL c) rfl ?qc1 ?qc2 ?qc3 ?qc4 ?qc5 ?qc6 ?_)
  case qc1 => rw [secL_len HOK.out]
  case qc2 =>
    intro j u hj
    rw [Addr.add_lit]
    exact Lib.cell?_alloc_some _ (HC.out j u hj)
  case qc3 => exact secL_one
  case qc4 => unfold maxLen; omega
  case qc5 => omega
  case qc6 => simp
  intro v' w1 hown hgrow hnil
  rcases hown.2 with ⟨e, -⟩ | ⟨g, cap, cur, rfl, hg, hcg, -, -, -, -⟩
  · exact absurd e hnil
  · have HRG := Lib.hid (show w1.rangeAt g 0 (secL c) from fun j v hj => by
      have := hown.cells (g := g) rfl j v (by simpa using hj)
      rwa [Addr.add_lit] at this)
    have HCG := Lib.hid hcg
    have HG := Lib.hid hg
    have HGR := Lib.hid hgrow
    clear hown hgrow hnil hcg
    go_wp2
    go_ret
    exact ⟨g, cap, rfl, HG.out, (Array.getElem?_eq_some_iff.1 HCG.out).1, HRG.out, fun o => frozen_of_row _ _ _ _ _ HCG.out, ((Below.refl _ w).alloc (Nat.le_refl _) _).grown HGR.out (by simp) (by intro k hk; simp [Value.ownBlock] at hk; omega)⟩
set_option maxHeartbeats 1000000 in
set_option maxRecDepth 100000 in
theorem flushed_yes9 {w : World} {O : Nat → Prop} {d : Nat} {L : Lay9} {s : Dk} (h : DkAt w O d L s) (i : Nat) {c : Sec} (hi : s.fl[i]? = some c) : Calls Try.prog 32 #[.pointer (some ⟨d, 0, none⟩), .int .i64 (i : Int)] w (SecOut w c) := by
  have hil : i < s.fl.length := (List.getElem?_eq_some_iff.1 hi).1
  have HA := Lib.hid (ask_any9 h i)
  rw [has_yes9 hil, if_pos rfl] at HA
  have HR := Lib.hid (row_range h.row h.ok.f hi)
  have HOK := Lib.hid (h.ok.f c (List.mem_of_getElem? hi))
  have hc0 := h.c0
  have hii : (i : Int) < s.fl.length := by omega
  clear h
  go_enter Try.func32, Try.ntmps32
  go_wp2_with (first
    | (go_at_call 42; refine HA.out.mono ?_; rintro e w' ⟨rfl, rfl⟩)
    | (go_at_call 46; refine (clone_sec9 HR.out HOK.out _).mono ?_; rintro e w1 ⟨g, k, rfl, hg, hg1, hr, hf, hb⟩; have HZ := Lib.hid (And.intro hg (And.intro hg1 (And.intro hr (And.intro hf hb)))); clear hg hg1 hr hf hb))
  go_ret2
  exact ⟨g, k, rfl, HZ.out⟩
end Go.Proofs.Ytbnfjceoogehmaa
