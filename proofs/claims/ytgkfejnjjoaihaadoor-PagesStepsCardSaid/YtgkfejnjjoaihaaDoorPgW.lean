/- Share. -/
import Derived.Test.YtgkfejnjjoaihaaDoorPgV
namespace Go.Proofs.YtgkfejnjjoaihaaDoor
open Go.RowKit
attribute [local go_sem] Oper.semAt_some

def copyK (T : Tb) (f g k : Nat) : Tb := fun i j => if i = g ∧ j < k ∧ (T f j).is then layE (T f j).fr (T f j).ri else T i j
def countK (T : Tb) (f k : Nat) : Nat := ((List.range k).filter (fun j => (T f j).is)).length
theorem countK_succ (T : Tb) (f k : Nat) : countK T f (k + 1) = countK T f k + (if (T f k).is then 1 else 0) := by
  unfold countK
  rw [List.range_succ, List.filter_append, List.length_append]
  congr 1
  by_cases h : (T f k).is = true
  · rw [if_pos h]; simp [h]
  · simp [h]
theorem countK_le (T : Tb) (f k : Nat) : countK T f k ≤ k := Nat.le_trans (List.length_filter_le _ _) (by simp)
theorem copyK_zero (T : Tb) (f g : Nat) : copyK T f g 0 = T := by funext i j; simp [copyK]
theorem copyK_skip (T : Tb) (f g k : Nat) (h : (T f k).is = false) : copyK T f g k = copyK T f g (k + 1) := by
  funext i j
  unfold copyK
  by_cases h2 : i = g ∧ j < k ∧ (T f j).is = true
  · rw [if_pos h2, if_pos ⟨h2.1, by omega, h2.2.2⟩]
  · rw [if_neg h2, if_neg]
    rintro ⟨h3, h4, h5⟩
    by_cases e : j = k
    · subst e; rw [h] at h5; cases h5
    · exact h2 ⟨h3, by omega, h5⟩
theorem copyK_take (T : Tb) (f g k : Nat) (h : (T f k).is = true) : setT (copyK T f g k) g k (layE (T f k).fr (T f k).ri) = copyK T f g (k + 1) := by
  funext i j
  unfold setT copyK
  by_cases e : i = g ∧ j = k
  · rw [if_pos e, if_pos ⟨e.1, by omega, by rw [e.2]; exact h⟩, e.2]
  · rw [if_neg e]
    by_cases h2 : i = g ∧ j < k ∧ (T f j).is = true
    · rw [if_pos h2, if_pos ⟨h2.1, by omega, h2.2.2⟩]
    · rw [if_neg h2, if_neg]
      rintro ⟨h3, h4, h5⟩
      by_cases e2 : j = k
      · exact e ⟨h3, e2⟩
      · exact h2 ⟨h3, by omega, h5⟩
theorem turned_own {β : Type} (w0 : World) (gs : List Nat) (B : Nat) (hB : w0.heap.size ≤ B) : OwnFrom B (fun (_ : β) W => Turned w0 W gs) := fun _ X Y row hs hg hr =>
  ⟨hg.os.trans hs.os, hg.tape.trans hs.tape, hg.output.trans hs.output, Nat.le_trans hs.size hg.size, fun k hk hn => (hg.block k (Nat.lt_of_lt_of_le hk hs.size) (fun e => by have := (hr k e.symm).1; omega)).trans (hs.block k hk hn)⟩
theorem block_own {β : Type} (m B : Nat) (hm : m < B) (f : β → Obj) : OwnFrom B (fun s W => W.heap[m]? = some (f s)) := fun s X Y row hs hg hr =>
  (hg.block m (Array.getElem?_eq_some_iff.1 hs).1 (fun e => by have := (hr m e.symm).1; omega)).trans hs
theorem pt_own {β : Type} (t b B : Nat) (ht : t < B) (hb : b < B) (N : β → Nat) (T : β → Tb) : OwnFrom B (fun s W => PT W t b (N s) (T s)) := fun s X Y row hs hg hr =>
  hs.keep (hg.block t hs.ht (fun e => by have := (hr t e.symm).1; omega)) (hg.block b hs.hb (fun e => by have := (hr b e.symm).1; omega))
theorem keeps_turned {B : Nat} {W W' : World} {gs : List Nat} (h : Turned W W' gs) (hg : ∀ g ∈ gs, g < B) : KeepsFrom B W W' := ⟨h.size, fun k o hk ho _ => (h.block k (Array.getElem?_eq_some_iff.1 ho).1 (fun hm => by have := hg k hm; omega)).trans ho⟩

/-- What Share's rounds keep. -/
def ShareI (w0 : World) (T : Tb) (f g t b m N : Nat) (k : Nat) (W : World) : Prop :=
  Turned w0 W [t, b, m] ∧ W.heap[m]? = some (.cells #[.int .i64 (countK T f k : Nat)] 3 (0, 0)) ∧ PT W t b (N + k) (copyK T f g k)

set_option maxRecDepth 100000 in
set_option maxHeartbeats 2000000 in
theorem share_in {w : World} {t b N : Nat} {T : Tb} (h : PT w t b N T) (hN : N + 32 < maxLen) (f g : Nat) (hf : f < 16) (hg : g < 16) (hfg : f ≠ g) (ha : anyT T g = false) :
    CallsIn Fence.wide 5 Tryd.prog 24 #[.pointer (some ⟨t, 0, none⟩), .int .i64 f, .int .i64 g] w fun e w' => e = .returned (.tuple #[.int .i64 (countK T f 32 : Nat), .int .i64 0]) ∧ PT w' t b (N + 32) (copyK T f g 32) ∧ Turned w w' [t, b] := by
  have hsf : spaceB f = true := (spaceB_iff _).2 ⟨by omega, by omega⟩
  have hsg : spaceB g = true := (spaceB_iff _).2 ⟨by omega, by omega⟩
  have hne : ((f : Int) == g) = false := by simp; omega
  have hbel : Below w.heap.size w ((w.alloc (.cells #[.pointer (some ⟨t, 0, none⟩)] 23)).alloc (.cells #[.int .i64 g] 3)) := ((Below.refl _ w).alloc (Nat.le_refl _) _).alloc (by simp) _
  have H := Lib.hid (h.step hbel)
  have HHI := Lib.hid (show ∀ k, k < 32 → (T g k).is = false from fun k hk => by
    cases hx : (T g k).is with
    | false => rfl
    | true =>
      rw [anyT_yes (s := (g : Int)) hk (by unfold hitS; rw [hsg]; exact hx)] at ha
      cases ha)
  have HA := Lib.hid ha
  have tlt := h.ht
  have blt := h.hb
  have HOK := Lib.hid h.ok
  clear hbel h ha
  refine callsIn_of_wp_marks Tryd.func24 rfl trivial ?_ rfl
  simp only [Tryd.ntmps24, List.size_toArray, List.length_cons, List.length_nil, Nat.reduceAdd, Nat.reduceSub, Array.replicate_succ, Array.replicate_zero, List.push_toArray, List.append_toArray, List.nil_append, List.cons_append]
  gi_wp2_with (first
    | (refine ⟨trivial, ?_⟩; gi_at_call 43; refine (callsIn_wide.2 (there_any H.out)).mono ?_; rintro e w' ⟨rfl, rfl⟩)
    | (refine ⟨trivial, ?_⟩; gi_at_call 46; refine (callsIn_wide.2 (isSpace_any _ _)).mono ?_; rintro e w' ⟨rfl, rfl⟩))
  refine ⟨trivial, ?_⟩
  gi_at_call 53
  refine (callsIn_wide.2 (any_any H.out g)).mono ?_
  rintro e w1 ⟨rfl, hb1⟩
  rw [HA.out]
  have q0 : w1.heap[w.heap.size]? = some (.cells #[.pointer (some ⟨t, 0, none⟩)] 23 (0, 0)) := (hb1.block _ (by simp; omega)).trans ((heap_alloc_old _ _ (by simp)).trans (heap_alloc_new w _))
  have q1 : w1.heap[w.heap.size + 1]? = some (.cells #[.int .i64 g] 3 (0, 0)) := (hb1.block _ (by simp)).trans (by
    have := heap_alloc_new (w.alloc (.cells #[.pointer (some ⟨t, 0, none⟩)] 23)) (.cells #[.int .i64 g] 3)
    rw [World.size_alloc] at this
    exact this)
  have hB1 : Below w.heap.size w w1 := (((Below.refl _ w).alloc (Nat.le_refl _) _).alloc (by simp) _).trans (hb1.mono (by simp; omega))
  have hP1 := H.out.step hb1
  clear hb1
  obtain ⟨c0, -, l0⟩ := one_of q0
  obtain ⟨c1, -, l1⟩ := one_of q1
  gi_wp2_with fail
  obtain ⟨r0, r1, r2, hsz, hB0⟩ := three_boxes w1 (.int .i64 0) (.pointer (some ⟨t, 0, none⟩)) (.int .i64 f) 3 23 3
  refine ⟨trivial, ?_⟩
  gi_at_call 54
  refine (callsIn_wide.2 (space_any _ _)).mono ?_
  rintro e w' ⟨rfl, rfl⟩
  rw [show (w1.alloc (.cells #[.int .i64 0] 3)).heap.size = w1.heap.size + 1 by simp]
  gi_wp2_with fail
  generalize hW0 : ((w1.alloc (.cells #[.int .i64 0] 3)).alloc (.cells #[.pointer (some ⟨t, 0, none⟩)] 23)).alloc (.cells #[.int .i64 f] 3) = w0 at r0 r1 r2 hsz hB0 ⊢
  clear hW0 c0 c1
  have hP0 := hP1.step hB0
  have q0 := (hB0.block _ l0).trans q0
  have q1 := (hB0.block _ l1).trans q1
  have hmt : ∀ x ∈ [t, b, w1.heap.size], x < w0.heap.size := fun x hx => by
    have h1 := hP0.ht; have h2 := hP0.hb
    simp at hx
    rcases hx with rfl | rfl | rfl
    · exact h1
    · exact h2
    · omega
  have htn : t ≠ w1.heap.size ∧ b ≠ w1.heap.size := ⟨by have := hP1.ht; omega, by have := hP1.hb; omega⟩
  have htn0 : w.heap.size ∉ [t, b, w1.heap.size] ∧ w.heap.size + 1 ∉ [t, b, w1.heap.size] := by
    have h1 := hB1.size
    simp
    omega
  have hbox : BoxesAt w0 (w1.heap.size + 1) (w1.heap.size + 1 + 1) t f ∧ PT w0 t b N T := ⟨boxes_of r1 r2, hP0⟩
  have HB0 := Lib.hid hB0
  have HB1 := Lib.hid hB1
  have HMT := Lib.hid hmt
  have HTN := Lib.hid htn
  have HTN0 := Lib.hid htn0
  have HP0 := Lib.hid hP0
  have HBX := Lib.hid hbox
  have R0 := Lib.hid r0
  have Q0 := Lib.hid q0
  have Q1 := Lib.hid q1
  have HSZ := Lib.hid hsz
  have L1 := Lib.hid l1
  have hown : OwnFrom w0.heap.size (ShareI w0 T f g t b w1.heap.size N) :=
    OwnFrom.and (turned_own w0 _ _ (Nat.le_refl _)) (OwnFrom.and (block_own _ _ (by omega) _) (pt_own _ _ _ hP0.ht hP0.hb _ _))
  clear hB0 hB1 hmt htn htn0 hP0 hP1 hbox r0 r1 r2 q0 q1 hsz l0 l1
  refine range_b (encs := encS T f) (N := 32) (hit := hitS T f) (I := ShareI w0 T f g t b w1.heap.size N) (Ix := fun _ _ => False) rfl (by omega) (gf := 61) (lb := #[.pointer (some ⟨w1.heap.size + 1, 0, none⟩), .pointer (some ⟨w1.heap.size + 1 + 1, 0, none⟩)]) rfl trivial (enters_of Tryd.func61 (by kernel_rfl) rfl)
    (space_steps 4 (by omega) _ _ t b N T f _ (fun W hI => ?first)) (fun _ => rfl) hown (fun k W h => ⟨h.1.trans (Turned.of_below _ ((Below.refl _ W).drew)), h.2.1, h.2.2.keep rfl rfl⟩) (fun c => fun _ _ _ _ h _ _ => h.elim) ⟨Turned.refl _ _, by simpa [countK] using R0.out, by rw [copyK_zero]; exact HP0.out⟩
    (fun k W _ hh h => ⟨h.1, ?skipc, ?skipp⟩) (fun k => some (.cells #[.int .i64 (T f k).fr, .int .i64 (T f k).ri, .bool (T f k).tc, .bool (T f k).wr] 38))
    (fun k B => { tmps := #[.pointer (some ⟨t, 0, none⟩), .int .i64 f, .int .i64 g, .pointer (some ⟨w.heap.size, 0, none⟩), undef, .pointer (some ⟨w.heap.size + 1, 0, none⟩), .int .i64 0, .int .i64 0, .pointer (some ⟨w1.heap.size, 0, none⟩), .int .i64 k, .pointer (some ⟨B, 0, none⟩), .bool false, .pointer (some ⟨t, 0, none⟩), .bool true, .bool false, .bool false, .int .i64 f, .bool true, .bool false, .bool false, .int .i64 g, .bool true, .bool false, .bool false, .bool false, .int .i64 f, .int .i64 g, .bool false, .bool false, .bool false, .pointer (some ⟨t, 0, none⟩), .int .i64 g, .bool false, .pointer (some ⟨t, 0, none⟩), .int .i64 f,
      .func (.func 61) #[] #[.pointer (some ⟨w1.heap.size + 1, 0, none⟩), .pointer (some ⟨w1.heap.size + 1 + 1, 0, none⟩)], .int .i64 k, entV (T f k), undef, undef, undef, undef, undef, undef, undef, undef, undef, undef, undef], defers := [] }) ?assign ?body ?done ?stop
  case first =>
    obtain ⟨htu, -, hpt⟩ := hI
    rw [copyK_zero] at hpt
    have h1 := HSZ.out
    have h2 := HTN.out
    have h3 := HB1.out.size
    exact ⟨⟨((World.cell?_of_block (a := ⟨w1.heap.size + 1, 0, none⟩) (htu.block (w1.heap.size + 1) (by omega) (by simp; omega)))).trans HBX.out.1.c1, ((World.cell?_of_block (a := ⟨w1.heap.size + 1 + 1, 0, none⟩) (htu.block (w1.heap.size + 1 + 1) (by omega) (by simp; omega)))).trans HBX.out.1.c2⟩, hpt⟩
  case skipc =>
    have hz : (T f k).is = false := by unfold hitS at hh; rw [hsf] at hh; exact hh
    rw [countK_succ, hz]; exact h.2.1
  case skipp =>
    have hz : (T f k).is = false := by unfold hitS at hh; rw [hsf] at hh; exact hh
    rw [← copyK_skip _ _ _ _ hz]; exact h.2.2.mono (by omega)
  case assign =>
    intro l k W K hK
    unfold encS
    unfold addO at hK
    dsimp only at hK
    have hat : atT T f k = T f k := rfl
    rw [hat]
    unfold entV at hK ⊢
    gi_wp2
    exact hK
  case body =>
    rintro l k B W hk hh hB hbx ⟨htu, hcnt, hpt⟩
    have q0 := (htu.block _ (by have := L1.out; have := HB0.out.size; omega) HTN0.out.1).trans Q0.out
    have q1 := (htu.block _ (by have := L1.out; have := HB0.out.size; omega) HTN0.out.2).trans Q1.out
    obtain ⟨c0, -, -⟩ := one_of q0
    obtain ⟨c1, -, -⟩ := one_of q1
    obtain ⟨⟨e0, e1, e2, e3⟩, -, -⟩ := four_of (hbx _ rfl)
    have HT := Lib.hid htu
    have HC := Lib.hid hcnt
    have HP := Lib.hid hpt
    clear htu hcnt hpt q0 q1 hbx
    have HIS := Lib.hid (show (T f k).is = true by unfold hitS at hh; rw [hsf] at hh; exact hh)
    have HE := Lib.hid (HOK.out.ok f k)
    have hlay := lay_walk HP.out (by omega) g k (T f k).fr (T f k).ri hg hk ⟨HE.out.f0, HE.out.f1⟩ ⟨HE.out.r0, HE.out.r1⟩ (by
      have := HHI.out k hk
      unfold copyK
      rw [if_neg (by omega)]; exact this)
    rw [show (⟨(T f k).fr, (T f k).ri, false, false, true⟩ : Ent) = layE (T f k).fr (T f k).ri from rfl, copyK_take T f g k HIS.out] at hlay
    have HL := Lib.hid hlay
    have HMN := Lib.hid (show w1.heap.size ∉ [t, b] by have := HTN.out; simp; omega)
    clear hlay hh
    have hcl := countK_le T f k
    have hcc := countK_succ T f k
    rw [HIS.out, if_pos rfl] at hcc
    obtain ⟨cn, hcn⟩ : ∃ cn, countK T f k = cn := ⟨_, rfl⟩
    rw [hcn] at HC hcl hcc
    have HCC := Lib.hid hcc
    clear hcn hcc
    obtain ⟨E, hE⟩ : ∃ E, T f k = E := ⟨_, rfl⟩
    rw [hE] at HL e0 e1 e2 e3 ⊢
    clear hE
    gi_wp2_with (refine ⟨trivial, ?_⟩; gi_at_call 52; refine (CallsIn.inRound l (callsIn_wide.2 HL.out)).mono ?_; rintro e w2 ⟨rfl, hp2, ht2⟩; have r2 := (ht2.block w1.heap.size (Array.getElem?_eq_some_iff.1 HC.out).1 HMN.out).trans HC.out; obtain ⟨d0, df, dl⟩ := one_of r2; have R2 := Lib.hid r2; have HP2 := Lib.hid hp2; have HT2 := Lib.hid ht2; clear hp2 ht2 r2)
    have hB0s := HB0.out.size
    have hht : Turned W (w2.setCell ⟨w1.heap.size, 0, none⟩ (.int .i64 (cn + 1))) [t, b, w1.heap.size] := (HT2.out.mono (by simp)).trans (Turned.of_set (by simp) _)
    have htn := HTN.out
    refine ⟨keeps_turned hht HMT.out, HT.out.trans hht, ?_, ?_⟩
    · have := heap_setCell_same w2 w1.heap.size 0 _ _ (.int .i64 ((cn : Int) + 1)) R2.out
      rw [this, HCC.out]
      simp
    · exact (HP2.out.fresh htn.1 htn.2 _).mono (by omega)
  case done =>
    rintro D W hD ⟨htu, hcnt, hpt⟩ hK
    obtain ⟨d0, df, dl⟩ := one_of hcnt
    have HP := Lib.hid hpt
    have htn := HTN.out
    have hm := HSZ.out
    have hx := HB1.out
    have hx0 := HB0.out
    have hT : Turned w W [t, b] := ⟨htu.os.trans (hx0.os.trans hx.os), htu.tape.trans (hx0.tape.trans hx.tape), htu.output.trans (hx0.output.trans hx.output), Nat.le_trans hx.size (Nat.le_trans hx0.size htu.size), fun j hj hn => by
      have h1 := hx.size
      have h2 := hx0.size
      simp at hn
      exact ((htu.block j (by omega) (by simp; omega)).trans (hx0.block j (by omega))).trans (hx.block j hj)⟩
    have HT := Lib.hid hT
    have h1 := hx.size
    clear hpt htu hT hx hx0
    gi_wp2
    refine ⟨by simp, .inl ⟨_, _, rfl, run_takeDeferred hK, ?_⟩⟩
    refine ⟨.tuple #[.int .i64 (countK T f 32 : Nat), .int .i64 0], by simp [results, Tryd.f24, go_sem], rfl, HP.out.keep (World.putObj_heap_other (by omega)) (World.putObj_heap_other (by omega)), ?_⟩
    exact HT.out.trans2 ⟨rfl, rfl, rfl, by simp, fun j hj _ => World.putObj_heap_other (by omega)⟩
  case stop => rintro D c W hD h; exact h.elim

def shareB (f g : Int) : Bool := spaceB f && (spaceB g && !(f == g))
def shareE (T : Tb) (f g : Int) : Int := if shareB f g then (if anyT T g then 7 else 0) else 2
def shareN (T : Tb) (f g : Int) : Int := if shareE T f g = 0 then (countK T f.toNat 32 : Nat) else 0
def shareT (T : Tb) (f g : Int) : Tb := if shareE T f g = 0 then copyK T f.toNat g.toNat 32 else T
set_option maxRecDepth 100000 in
set_option maxHeartbeats 1000000 in
theorem share_bad {w : World} {t b N : Nat} {T : Tb} (h : PT w t b N T) (f g : Int) (hb : shareB f g = false) :
    Calls Tryd.prog 24 #[.pointer (some ⟨t, 0, none⟩), .int .i64 f, .int .i64 g] w fun e w' => e = .returned (.tuple #[.int .i64 0, .int .i64 2]) ∧ Below w.heap.size w w' := by
  have hbel : Below w.heap.size w ((w.alloc (.cells #[.pointer (some ⟨t, 0, none⟩)] 23)).alloc (.cells #[.int .i64 g] 3)) := ((Below.refl _ w).alloc (Nat.le_refl _) _).alloc (by simp) _
  have H := Lib.hid (h.step hbel)
  have HB := Lib.hid hbel
  clear hbel h
  cases hf : spaceB f with
  | false =>
    clear hb
    go_enter Tryd.func24, Tryd.ntmps24
    go_wp2_with (first
      | (go_at_call 43; refine (there_any H.out).mono ?_; rintro e w' ⟨rfl, rfl⟩)
      | (go_at_call 46; refine (isSpace_any _ _).mono ?_; rintro e w' ⟨rfl, rfl⟩))
    go_ret2
    exact ⟨rfl, HB.out⟩
  | true =>
    cases hg : spaceB g with
    | false =>
      clear hb
      go_enter Tryd.func24, Tryd.ntmps24
      go_wp2_with (first
        | (go_at_call 43; refine (there_any H.out).mono ?_; rintro e w' ⟨rfl, rfl⟩)
        | (go_at_call 46; refine (isSpace_any _ _).mono ?_; rintro e w' ⟨rfl, rfl⟩))
      go_ret2
      exact ⟨rfl, HB.out⟩
    | true =>
      have he : (f == g) = true := by unfold shareB at hb; rw [hf, hg] at hb; simpa using hb
      clear hb
      go_enter Tryd.func24, Tryd.ntmps24
      go_wp2_with (first
        | (go_at_call 43; refine (there_any H.out).mono ?_; rintro e w' ⟨rfl, rfl⟩)
        | (go_at_call 46; refine (isSpace_any _ _).mono ?_; rintro e w' ⟨rfl, rfl⟩))
      go_ret2
      exact ⟨rfl, HB.out⟩
set_option maxRecDepth 100000 in
set_option maxHeartbeats 1000000 in
theorem share_there {w : World} {t b N : Nat} {T : Tb} (h : PT w t b N T) (f g : Int) (hb : shareB f g = true) (ha : anyT T g = true) :
    Calls Tryd.prog 24 #[.pointer (some ⟨t, 0, none⟩), .int .i64 f, .int .i64 g] w fun e w' => e = .returned (.tuple #[.int .i64 0, .int .i64 7]) ∧ Below w.heap.size w w' := by
  have hbel : Below w.heap.size w ((w.alloc (.cells #[.pointer (some ⟨t, 0, none⟩)] 23)).alloc (.cells #[.int .i64 g] 3)) := ((Below.refl _ w).alloc (Nat.le_refl _) _).alloc (by simp) _
  have H := Lib.hid (h.step hbel)
  have HB := Lib.hid hbel
  have hf : spaceB f = true := by unfold shareB at hb; cases hx : spaceB f <;> simp_all
  have hg : spaceB g = true := by unfold shareB at hb; cases hx : spaceB g <;> simp_all
  have he : (f == g) = false := by unfold shareB at hb; rw [hf, hg] at hb; simpa using hb
  have HC := Lib.hid (any_any H.out g)
  rw [ha] at HC
  clear hbel h hb ha
  go_enter Tryd.func24, Tryd.ntmps24
  go_wp2_with (first
    | (go_at_call 43; refine (there_any H.out).mono ?_; rintro e w' ⟨rfl, rfl⟩)
    | (go_at_call 46; refine (isSpace_any _ _).mono ?_; rintro e w' ⟨rfl, rfl⟩)
    | (go_at_call 53; refine HC.out.mono ?_; rintro e w1 ⟨rfl, hb1⟩; have HB1 := Lib.hid hb1; clear hb1))
  go_ret2
  exact ⟨rfl, HB.out.trans (HB1.out.mono (by simp; omega))⟩
/-- Share. -/
theorem share_any {w : World} {t b N : Nat} {T : Tb} (h : PT w t b N T) (hN : N + 32 < maxLen) (f g : Int) :
    Calls Tryd.prog 24 #[.pointer (some ⟨t, 0, none⟩), .int .i64 f, .int .i64 g] w fun e w' => e = .returned (.tuple #[.int .i64 (shareN T f g), .int .i64 (shareE T f g)]) ∧ PT w' t b (N + 32) (shareT T f g) ∧ Turned w w' [t, b] := by
  unfold shareN shareT
  cases hb : shareB f g with
  | false =>
    have e : shareE T f g = 2 := by unfold shareE; rw [hb]; rfl
    rw [e]
    refine (share_bad h f g hb).mono ?_
    rintro e w' ⟨rfl, hb1⟩
    exact ⟨rfl, (h.step hb1).mono (by omega), Turned.of_below _ hb1⟩
  | true =>
    cases ha : anyT T g with
    | true =>
      have e : shareE T f g = 7 := by unfold shareE; rw [hb, ha]; rfl
      rw [e]
      refine (share_there h f g hb ha).mono ?_
      rintro e w' ⟨rfl, hb1⟩
      exact ⟨rfl, (h.step hb1).mono (by omega), Turned.of_below _ hb1⟩
    | false =>
      have e : shareE T f g = 0 := by unfold shareE; rw [hb, ha]; rfl
      rw [e, if_pos rfl, if_pos rfl]
      have hf : spaceB f = true := by unfold shareB at hb; cases hx : spaceB f <;> simp_all
      have hg : spaceB g = true := by unfold shareB at hb; cases hx : spaceB g <;> simp_all
      have he : (f == g) = false := by unfold shareB at hb; rw [hf, hg] at hb; simpa using hb
      obtain ⟨h1, h2⟩ := (spaceB_iff f).1 hf
      obtain ⟨h3, h4⟩ := (spaceB_iff g).1 hg
      obtain ⟨i, rfl⟩ : ∃ i : Nat, f = i := ⟨f.toNat, by omega⟩
      obtain ⟨j, rfl⟩ : ∃ j : Nat, g = j := ⟨g.toNat, by omega⟩
      exact callsIn_wide.1 (share_in h hN i j (by omega) (by omega) (by rintro rfl; simp at he) ha)
theorem share_no {q : Option Addr} {w : World} (f g : Int) (hq : ∀ W : World, Below w.heap.size w W → Calls Tryd.prog 43 #[.pointer q] W fun e w' => e = .returned (.bool false) ∧ W = w') :
    Calls Tryd.prog 24 #[.pointer q, .int .i64 f, .int .i64 g] w fun e w' => e = .returned (.tuple #[.int .i64 0, .int .i64 1]) ∧ Below w.heap.size w w' := by
  have hbel : Below w.heap.size w ((w.alloc (.cells #[.pointer q] 23)).alloc (.cells #[.int .i64 g] 3)) := ((Below.refl _ w).alloc (Nat.le_refl _) _).alloc (by simp) _
  have HB := Lib.hid hbel
  have HQ := Lib.hid (hq _ hbel)
  clear hbel hq
  go_enter Tryd.func24, Tryd.ntmps24
  go_wp2_with (go_at_call 43; refine HQ.out.mono ?_; rintro e w' ⟨rfl, rfl⟩)
  go_ret2
  exact ⟨rfl, HB.out⟩
end Go.Proofs.YtgkfejnjjoaihaaDoor
