/- NewFlat. -/
import Derived.Test.YtknepljmbpdpkaaCpU
import Derived.Laws.CopyOwn
import Derived.IntWalk
namespace Go.Proofs.Ytknepljmbpdpkaa
open Go.RowKit

theorem own_sl8 {w : World} {B k : Nat} {e : TypeId} {v : Value} {n : Nat} {xs : List Value} (h : w.ownsRow B e k v n xs) : ∃ a c, v = .slice a n c := by
  rcases h.2 with ⟨hv, hn⟩ | ⟨g, cap, cur, rfl, _⟩
  · subst hn; exact ⟨_, _, hv⟩
  · exact ⟨_, _, rfl⟩
def SrcBytes (w : World) (A : Option Addr) (l : List Int) : Prop := 0 < l.length → ∃ b o, A = some ⟨b, o, none⟩ ∧ b < w.heap.size ∧ ∀ (j : Nat) (v : Int), l[j]? = some v → w.cell? ⟨b, o + j, none⟩ = some (.int .u8 v)
theorem SrcBytes.below {w w' : World} {A : Option Addr} {l : List Int} (h : SrcBytes w A l) (hb : Below w.heap.size w w') : SrcBytes w' A l := fun hp => by
  obtain ⟨b, o, e, hl, c⟩ := h hp
  exact ⟨b, o, e, Nat.lt_of_lt_of_le hl hb.size, fun j v hj => (hb.cell (p := ⟨b, o + j, none⟩) hl).trans (c j v hj)⟩
def mem0 (l : List Int) (n : Nat) (ri : Nat → Int) : Mem8 := ⟨n, fun i => if i < n then ri i else 0, fun k => l.getD k 0⟩
/-- Which memories may be: 0, or the error. -/
def newE (nb n : Nat) (ri : Nat → Int) : Int := if 8192 < nb then 3 else if 32 < n then 2 else if anyWrong ri n then 2 else if n * 256 < nb then 3 else 0
def NewOut (l : List Int) (n : Nat) (ri : Nat → Int) (w : World) (e : Ending) (w' : World) : Prop :=
  ∃ F B ra rc, e = .returned (.tuple #[.pointer (some ⟨F, 0, none⟩), .int .i64 0]) ∧ FlatAt w' F B ra rc (n * 256) (mem0 l n ri) ∧ w.heap.size ≤ F ∧ w.heap.size ≤ B ∧ (∀ b o, ra = some ⟨b, o, none⟩ → w.heap.size ≤ b ∧ b < w'.heap.size) ∧ Below w.heap.size w w'

set_option maxHeartbeats 1000000 in
set_option maxRecDepth 100000 in
theorem new_no8 {w : World} {Ab Ar : Option Addr} {nb n : Nat} {ri : Nat → Int} (h : IntsIn w Ar n ri) (cb cr : Nat) (x : Int) (hx : newE nb n ri = x) (h0 : x ≠ 0) :
    Calls Try.prog 17 #[.slice Ab nb cb, .slice Ar n cr] w fun e w' => e = .returned (.tuple #[.pointer none, .int .i64 x]) ∧ w = w' := by
  have H := Lib.hid h
  unfold newE at hx
  clear h
  by_cases c1 : 8192 < nb
  · rw [if_pos c1] at hx; subst hx; clear h0
    have c1' : (8192 : Int) < nb := by omega
    go_enter Try.func17, Try.ntmps17
    go_wp2
    go_ret2
    exact ⟨rfl, rfl⟩
  rw [if_neg c1] at hx
  have c1' : (nb : Int) ≤ 8192 := by omega
  by_cases c2 : 32 < n
  · rw [if_pos c2] at hx; subst hx; clear h0
    have c2' : (32 : Int) < n := by omega
    go_enter Try.func17, Try.ntmps17
    go_wp2
    go_ret2
    exact ⟨rfl, rfl⟩
  rw [if_neg c2] at hx
  have c2' : (n : Int) ≤ 32 := by omega
  have HC := Lib.hid (contains_any H.out cr (by omega))
  cases hw : anyWrong ri n with
  | true =>
    rw [hw, if_pos rfl] at hx; subst hx; clear h0
    rw [hw] at HC
    clear hw
    go_enter Try.func17, Try.ntmps17
    go_wp2_with (go_at_call 33; refine HC.out.mono ?_; rintro e w' ⟨rfl, rfl⟩)
    go_ret2
    exact ⟨rfl, rfl⟩
  | false =>
    rw [hw] at HC hx
    rw [if_neg (by simp)] at hx
    by_cases c3 : n * 256 < nb
    · rw [if_pos c3] at hx; subst hx; clear h0 hw
      have c3' : (n : Int) * 256 < nb := by omega
      go_enter Try.func17, Try.ntmps17
      go_wp2_with (go_at_call 33; refine HC.out.mono ?_; rintro e w' ⟨rfl, rfl⟩)
      go_ret2
      exact ⟨rfl, rfl⟩
    · rw [if_neg c3] at hx; exact absurd hx.symm h0

theorem cloneI_any {w : World} {A : Option Addr} {n : Nat} {ri : Nat → Int} (h : IntsIn w A n ri) (c : Nat) (hn : n ≤ 1000000) :
    Calls Try.prog 30 #[.slice A n c] w (CloneOut8 3 n ((List.range n).map fun j => Value.int .i64 (ri j)) w) := by
  cases A with
  | none =>
    have : n = 0 := by
      rcases Nat.eq_zero_or_pos n with h0 | h0
      · exact h0
      · obtain ⟨b, o, e, -⟩ := h h0; cases e
    subst this
    refine (cloneI_none 0 c).mono ?_
    rintro e w' ⟨he, rfl⟩
    exact ⟨_, he, World.ownsRow_nil .., Below.refl _ _⟩
  | some a =>
    rcases Nat.eq_zero_or_pos n with h0 | h0
    · subst h0
      exact cloneI_some a 0 c [] rfl ⟨fun j v hj => by simp at hj, fun v hv => by cases hv⟩ (by omega)
    · obtain ⟨b, o, e, hb, hc⟩ := h h0
      cases e
      refine cloneI_some ⟨b, o, none⟩ n c _ (by simp) ⟨fun j v hj => ?_, fun v hv => ?_⟩ hn
      · have hlt : j < n := by have := (List.getElem?_eq_some_iff.1 hj).1; simpa using this
        rw [List.getElem?_map, List.getElem?_range hlt] at hj
        cases hj
        rw [Addr.add_lit]
        exact hc j hlt
      · obtain ⟨j, -, rfl⟩ := List.mem_map.1 hv
        rfl

theorem wpList_copy_keep {P : Program} {w : World} {ops : Array Oper} {rest : List Oper} {o : Oper} {a : Act} {Q : Exit → Act → World → Prop} (hgd : o.guard = none) (d s : Operand) (dT sT : TypeId)
    (ho : o.op = .call { callee := .builtin .copy, args := #[d, s], argTypes := #[dT, sT] }) (elem : TypeId) (hu : P.underlying dT = some (.slice elem)) (hsz : (P.info? elem).map (·.size) = some 1)
    (dp sp : Option Addr) (dLen dCap sLen sCap : Nat) (hd : a.eval d = .slice dp dLen dCap) (hs : a.eval s = .slice sp sLen sCap)
    (g off : Nat) (cur : List Value) (t : TypeId) (hg : w.heap[g]? = some (.cells cur.toArray t (0, 0))) (cs : List Value) (hn : cs.length = Nat.min sLen dLen)
    (hpos : 0 < cs.length → dp = some ⟨g, off, none⟩ ∧ ∃ ad, sp = some ad ∧ ∀ j v, cs[j]? = some v → w.cell? (ad.add j) = some v)
    (hfit : off + cs.length ≤ cur.length) (h1 : ∀ v ∈ cs, v.oneCell' = true)
    (h : ∀ w', Hid (w'.heap[g]? = some (.cells (cur.take off ++ (cs ++ cur.drop (off + cs.length))).toArray t (0, 0))) → Hid (Turned w w' [g]) → wpList P ops Q rest (a.put o.dst (goInt cs.length)) w') :
    wpList P ops Q (o :: rest) a w := by
  by_cases h0 : cs.length = 0
  · obtain rfl : cs = [] := List.eq_nil_of_length_eq_zero h0
    refine wpList_copy_nothing hgd d s dT sT ho elem hu hsz dp sp dLen dCap sLen sCap hd hs (by simpa using hn.symm) ?_
    exact h w (show _ = _ by simpa using hg) (Turned.refl _ _)
  · obtain ⟨rfl, ad, rfl, hsrc⟩ := hpos (by omega)
    refine wpList_copy_own hgd d s dT sT ho elem hu hsz g off dLen dCap ad sLen sCap hd hs cur.toArray t hg cs hn hsrc (by simpa using hfit) h1 ?_
    exact h _ (show _ = _ by simpa using setRow_heap w g _ _ t _ hg) ⟨rfl, rfl, rfl, by simp [World.setRow], fun k _ hn => setRow_other w g k _ (by simpa using hn)⟩
theorem own_base8 {w : World} {base base' : Nat} {e : TypeId} {size : Nat} {v : Value} {n : Nat} {xs : List Value} (h : w.ownsRow base e size v n xs) (hb : base' ≤ base) : w.ownsRow base' e size v n xs := by
  obtain ⟨h1, h2 | ⟨g, cap, cur, h3, h4, h5⟩⟩ := h
  · exact ⟨h1, .inl h2⟩
  · exact ⟨h1, .inr ⟨g, cap, cur, h3, Nat.le_trans hb h4, h5⟩⟩
/-- Ahead of the copy. -/
structure NewPre (w Wf : World) (F B : Nat) (a1 : Option Addr) (k1 n : Nat) (ri : Nat → Int) : Prop where
  hb : Below w.heap.size w Wf
  hF : Wf.heap[F]? = some (.cells #[.slice a1 n k1, .slice (some ⟨B, 0, none⟩) (n * 256) (n * 256)] 79 (0, 0))
  hB : RowU8 Wf B (List.replicate (n * 256) 0)
  ho : Wf.ownsRow w.heap.size 3 1 (.slice a1 n k1) n ((List.range n).map fun j => Value.int .i64 (ri j))
  ne : F ≠ B
  gF : w.heap.size ≤ F
  gB : w.heap.size ≤ B
  nB : ∀ b o, a1 = some ⟨b, o, none⟩ → b ≠ B
theorem pre_a {w w1 : World} {a1 : Option Addr} {k1 n : Nat} {ri : Nat → Int} (hb : Below w.drew.heap.size w.drew w1) (ho : w1.ownsRow w.drew.heap.size 3 1 (.slice a1 n k1) n ((List.range n).map fun j => Value.int .i64 (ri j))) :
    NewPre w ((w1.alloc (.cells (madeCells #[.int .u8 0] (n * 256)) 5)).alloc (.cells #[.slice a1 n k1, .slice (some ⟨w1.heap.size, 0, none⟩) (n * 256) (n * 256)] 79)) (w1.heap.size + 1) w1.heap.size a1 k1 n ri := by
  have hb := below_of_drew hb
  have hz := hb.size
  refine ⟨Bl.alloc (Bl.alloc hb _) _, heap_alloc_new1 w1 _ _, (RowU8.made w1 (n * 256)).keep (Below.heap_alloc _ _ _ (by simp)), (World.ownsRow.alloc (World.ownsRow.alloc ho _) _), by omega, by omega, hz, fun b o e => ?_⟩
  subst e
  have := (ho.lt b rfl).2
  omega
theorem pre_b {w w1 : World} {a1 : Option Addr} {k1 n : Nat} {ri : Nat → Int} (hb : Below (w.alloc (.cells (madeCells #[.int .u8 0] (n * 256)) 5)).drew.heap.size (w.alloc (.cells (madeCells #[.int .u8 0] (n * 256)) 5)).drew w1)
    (ho : w1.ownsRow (w.alloc (.cells (madeCells #[.int .u8 0] (n * 256)) 5)).drew.heap.size 3 1 (.slice a1 n k1) n ((List.range n).map fun j => Value.int .i64 (ri j))) :
    NewPre w (w1.alloc (.cells #[.slice a1 n k1, .slice (some ⟨w.heap.size, 0, none⟩) (n * 256) (n * 256)] 79)) w1.heap.size w.heap.size a1 k1 n ri := by
  have hb := below_of_drew hb
  have hz : w.heap.size + 1 ≤ w1.heap.size := by have := hb.size; simpa using this
  have hb2 : Below w.heap.size w w1 := Bl.step (Bl.alloc (Below.refl _ _) _) hb
  refine ⟨Bl.alloc hb2 _, heap_alloc_new w1 _, (RowU8.made w (n * 256)).keep ((Below.heap_alloc _ _ _ (by omega)).trans (hb.block _ (by simp))), (World.ownsRow.alloc (own_base8 ho (by simp)) _), by omega, by omega, Nat.le_refl _, fun b o e => ?_⟩
  subst e
  have := (ho.lt b rfl).1
  simp at this
  omega
theorem new_flat {w Wf w3 : World} {F B : Nat} {a1 : Option Addr} {k1 n : Nat} {ri : Nat → Int} {l : List Int} (P : NewPre w Wf F B a1 k1 n ri) (hT : Turned Wf w3 [B])
    (hR : w3.heap[B]? = some (.cells ((List.replicate (n * 256) (Value.int .u8 0)).take 0 ++ (l.map (Value.int .u8) ++ (List.replicate (n * 256) (Value.int .u8 0)).drop (0 + (l.map (Value.int .u8)).length))).toArray 5 (0, 0)))
    (hl01 : ∀ v ∈ l, 0 ≤ v ∧ v < 256) (h2 : n ≤ 32) (h3 : anyWrong ri n = false) (h4 : l.length ≤ n * 256) :
    FlatAt w3 F B a1 k1 (n * 256) (mem0 l n ri) ∧ Below w.heap.size w w3 ∧ (∀ b o, a1 = some ⟨b, o, none⟩ → w.heap.size ≤ b ∧ b < w3.heap.size) := by
  have hFc : ∀ o, w3.cell? ⟨F, o, none⟩ = Wf.cell? ⟨F, o, none⟩ := fun o => World.cell?_of_block (w := Wf) (hT.block F (Array.getElem?_eq_some_iff.1 P.hF).1 (by simpa using P.ne))
  have hri : ∀ i, i < n → 0 ≤ ri i ∧ ri i ≤ 7 := fun i hi => by
    unfold anyWrong at h3
    rw [List.any_eq_false] at h3
    have := h3 i (by simpa using hi)
    unfold wrongB at this
    simp at this
    omega
  have hrow : RowU8 w3 B (l ++ List.replicate (n * 256 - l.length) 0) := by
    unfold RowU8
    rw [hR]
    refine congrArg (fun c => some (Obj.cells c 5 (0, 0))) ?_
    simp
  refine ⟨⟨⟨h2, fun i => ?_, fun i => ?_, fun k => ?_, fun k => ?_⟩, (hFc 0).trans ?_, (hFc 1).trans ?_, fun hp => ?_, fun k hk => ?_, hrow.fz, P.ne, Nat.lt_of_lt_of_le (Array.getElem?_eq_some_iff.1 P.hF).1 hT.size, hrow.lt⟩, ?_, fun b o e => ?_⟩
  · show 0 ≤ (if i < n then ri i else 0); split
    · exact (hri i ‹_›).1
    · omega
  · show (if i < n then ri i else 0) ≤ 7; split
    · exact (hri i ‹_›).2
    · omega
  · show 0 ≤ l.getD k 0
    rw [List.getD_eq_getElem?_getD]
    cases h : l[k]? with
    | none => exact Int.le_refl _
    | some y => exact (hl01 y (List.mem_of_getElem? h)).1
  · show l.getD k 0 < 256
    rw [List.getD_eq_getElem?_getD]
    cases h : l[k]? with
    | none => show (0 : Int) < 256; omega
    | some y => exact (hl01 y (List.mem_of_getElem? h)).2
  · rw [cell_of_row _ _ _ _ _ _ P.hF]; rfl
  · rw [cell_of_row _ _ _ _ _ _ P.hF]; rfl
  · obtain ⟨g, cap, e, hg1, hg2⟩ := P.ho.form hp
    injection e with e1 e2 e3
    subst e1
    have hne := P.nB g 0 rfl
    have hk : w3.heap[g]? = Wf.heap[g]? := hT.block g hg2 (by simpa using hne)
    refine ⟨g, 0, rfl, hne, Nat.lt_of_lt_of_le hg2 hT.size, fun i hi => ?_⟩
    have hi : i < n := hi
    rw [Nat.zero_add, World.cell?_of_block (w := Wf) (a := ⟨g, i, none⟩) hk]
    have ho := P.ho
    have := ho.cells (g := g) rfl i (.int .i64 (ri i)) (by rw [List.getElem?_map, List.getElem?_range hi]; rfl)
    rw [Addr.add_lit, Nat.zero_add] at this
    rw [this]
    show _ = some (Value.int .i64 (if i < n then ri i else 0))
    rw [if_pos hi]
  · have := hrow.cell k (by simp; have : k < n * 256 := hk; omega)
    rw [this]
    show _ = some (Value.int .u8 (l.getD k 0))
    congr 2
    rw [List.getD_eq_getElem?_getD]
    by_cases h : k < l.length
    · rw [List.getElem_append_left h, List.getElem?_eq_getElem h]; rfl
    · rw [List.getElem_append_right (by omega), List.getElem?_eq_none (by omega)]; simp
  · exact Turned.below ((Turned.of_below [B] P.hb).trans hT) (Nat.le_refl _) (by intro g hg; simp at hg; have := P.gB; omega)
  · subst e
    have := P.ho.lt b rfl
    exact ⟨this.1, Nat.lt_of_lt_of_le this.2 hT.size⟩
set_option maxHeartbeats 1000000 in
set_option maxRecDepth 100000 in
theorem new_yes8 {w : World} {Ab Ar : Option Addr} {l : List Int} {n : Nat} {ri : Nat → Int} (hl : SrcBytes w Ab l) (hl01 : ∀ v ∈ l, 0 ≤ v ∧ v < 256) (h : IntsIn w Ar n ri) (cb cr : Nat) (h1 : l.length ≤ 8192) (h2 : n ≤ 32) (h3 : anyWrong ri n = false) (h4 : l.length ≤ n * 256) :
    Calls Try.prog 17 #[.slice Ab l.length cb, .slice Ar n cr] w (NewOut l n ri w) := by
  have H := Lib.hid h
  have HL := Lib.hid hl
  have HC := contains_any H.out cr (by omega)
  rw [h3] at HC
  have HC := Lib.hid HC
  have hmk : ∀ w : World, (Instr.makeSlice 23 (.int .i64 ((n : Int) * 256)) (.int .i64 ((n : Int) * 256))).run Try.prog w = .ok (.slice (some ⟨w.heap.size, 0, none⟩) (n * 256) (n * 256)) (w.alloc (.cells (madeCells #[.int .u8 0] (n * 256)) 5)) := fun w => by
    have := run_make8 (n * 256) (by omega) w
    rwa [Int.natCast_mul] at this
  obtain ⟨nb, hnb⟩ : ∃ nb, l.length = nb := ⟨_, rfl⟩
  rw [hnb] at h1 h4 ⊢
  have HN := Lib.hid hnb
  have c1' : (nb : Int) ≤ 8192 := by omega
  have c2' : (n : Int) ≤ 32 := by omega
  have c3' : (nb : Int) ≤ (n : Int) * 256 := by omega
  have hwr : IntKind.i64.wrap ((n : Int) * 256) = (n : Int) * 256 := IntWalk.i64_in _ (by omega)
  have HW := Lib.hid h3
  clear h hl h3 hnb
  go_enter Try.func17, Try.ntmps17
  go_wp2_with (go_at_call 33; refine HC.out.mono ?_; rintro e w' ⟨rfl, rfl⟩)
  go_region_with (go_at_call 30; refine (cloneI_any (H.out.below (by first | exact Bl.drew (Below.refl _ _) | exact Bl.drew (Bl.alloc (Below.refl _ _) _))) cr (by omega)).mono ?_; rintro e w1 ⟨v1, rfl, ho, hb⟩; obtain ⟨a1, k1, rfl⟩ := own_sl8 ho; have HO := Lib.hid ho; have HB := Lib.hid hb; clear ho hb)
  case' refine_3.refine_3.refine_3.refine_3.refine_1.refine_1.refine_3.refine_1.refine_3 => have PRE := Lib.hid (pre_a HB.out HO.out)
  case' refine_3.refine_3.refine_3.refine_3.refine_2.refine_1.refine_1.refine_3.refine_1.refine_3 => have PRE := Lib.hid (pre_b HB.out HO.out)
  all_goals
    go_wp2_with (refine wpList_copy_keep rfl _ _ 23 23 rfl 5 Try.underlying23 (by kernel_rfl) _ _ (n * 256) (n * 256) nb cb rfl rfl _ 0 (List.replicate (n * 256) (Value.int .u8 0)) 5 (by have := PRE.out.hB; unfold RowU8 at this; simpa using this) (l.map (Value.int .u8)) (by rw [List.length_map, HN.out]; exact (Nat.min_eq_left (by omega)).symm) (fun hp => ⟨rfl, by
      obtain ⟨b, o, e, hb, hc⟩ := (HL.out.below PRE.out.hb) (by simpa using hp)
      exact ⟨_, e, fun j v hj => by
        rw [List.getElem?_map] at hj
        cases hv : l[j]? with
        | none => rw [hv] at hj; cases hj
        | some y => rw [hv] at hj; cases hj; rw [Addr.add_lit]; exact hc j y hv⟩⟩) (by simp [HN.out]; omega) (by intro v hv; obtain ⟨y, -, rfl⟩ := List.mem_map.1 hv; rfl) ?_; intro w3 HR3 HT3)
    go_ret2
    obtain ⟨f1, f2, f3⟩ := new_flat PRE.out HT3.out HR3.out hl01 h2 HW.out (by rw [HN.out]; omega)
    exact ⟨_, _, _, _, rfl, f1, PRE.out.gF, PRE.out.gB, f3, f2⟩
end Go.Proofs.Ytknepljmbpdpkaa
