/- Capabilities as the chapter says them: what is there, who made it, what was derived of what. -/
import Derived.Test.YtakgjakcbpdefaaRows
import Derived.WalkKit
import Derived.OpenShut
import Derived.StillTailTactics
import Derived.BigRegion
import Derived.BigQuiet
import Derived.Deep.QuietTactic
import Derived.Lib.Hide
import Derived.Below
namespace Go.Proofs.Ytakgjakcbpdefaa
open Go.RowKit

/-- A capability. -/
structure Cap where
  id : Int
  parent : Int
  account : Int
  maker : Int
  kind : Int
  object : Int
  rights : Int

/-- What there is, by ids; the id that was given last. -/
structure Tab where
  caps : List Cap
  last : Nat

def nilC : Cap := ⟨0, 0, 0, 0, 0, 0, 0⟩
def findC (S : List Cap) (id : Int) : Option Cap := S.find? (fun c => c.id == id)
def getC (S : List Cap) (id : Int) : Cap := (findC S id).getD nilC
def under (S : List Cap) (top : Int) : Nat → Int → Bool
  | 0, _ => false
  | n + 1, id => (getC S id).parent == top || (!((getC S id).parent == 0) && under S top n (getC S id).parent)
/-- Was it derived of top? -/
def isUnder (S : List Cap) (top id : Int) : Bool := under S top (id.toNat + 1) id
def madeBy (S : List Cap) (a : Int) : Nat := (S.filter (fun c => c.maker == a)).length
def accB (a : Int) : Bool := decide (0 ≤ a) && decide (a < 8)
def rightsB (r : Int) : Bool := decide (0 < r) && decide (r ≤ 15)
def mayB (S : List Cap) (a k o r : Int) : Bool := rightsB r && S.any (fun c => c.account == a && c.kind == k && c.object == o && (bits .and .i64 c.rights r == r))

def addT (T : Tab) (c : Cap) : Tab := ⟨T.caps ++ [{ c with id := (T.last : Int) + 1 }], T.last + 1⟩
/-- What a call comes to: the table behind it, the number, the error. -/
structure Out where
  tab : Tab
  num : Int
  err : Int
def addO (T : Tab) (c : Cap) : Out := if 32 ≤ madeBy T.caps c.maker then ⟨T, 0, 5⟩ else ⟨addT T c, (T.last : Int) + 1, 0⟩
def rootB (a k o r : Int) : Bool := accB a && decide (0 ≤ k) && decide (0 ≤ o) && rightsB r
def rootO (T : Tab) (a k o r : Int) : Out := if rootB a k o r then addO T ⟨0, 0, a, a, k, o, r⟩ else ⟨T, 0, 2⟩
def ownE (S : List Cap) (a id : Int) : Int := if accB a then (match findC S id with
  | some c => if c.account == a then 0 else 6
  | none => 6) else 2
def deriveO (T : Tab) (a id to r need : Int) : Out :=
  if accB to && rightsB r then
    if ownE T.caps a id = 0 then
      if bits .and .i64 (getC T.caps id).rights need = need then addO T ⟨0, id, to, a, (getC T.caps id).kind, (getC T.caps id).object, r⟩ else ⟨T, 0, 8⟩
    else ⟨T, 0, ownE T.caps a id⟩
  else ⟨T, 0, 2⟩
def goneC (S : List Cap) (id : Int) : List Cap := S.filter (fun c => isUnder S id c.id)
def leftC (S : List Cap) (id : Int) : List Cap := S.filter (fun c => !isUnder S id c.id)
def revokeO (T : Tab) (a id : Int) : Out := if ownE T.caps a id = 0 then ⟨⟨leftC T.caps id, T.last⟩, ((goneC T.caps id).length : Int), 0⟩ else ⟨T, 0, ownE T.caps a id⟩
def dropO (T : Tab) (a id : Int) : Out := if ownE T.caps a id = 0 then ⟨⟨(leftC T.caps id).filter (fun c => !(c.id == id)), T.last⟩, ((goneC T.caps id).length : Int) + 1, 0⟩ else ⟨T, 0, ownE T.caps a id⟩
def allC (S : List Cap) (a : Int) : List Cap := S.filter (fun c => decide (a < 0) || c.account == a)
def overB (S : List Cap) (a b : Int) : Bool := a == b || isUnder S a b

/-- What is always so of a table. -/
structure CapOk (c : Cap) (last : Nat) : Prop where
  i1 : 1 ≤ c.id
  i2 : c.id ≤ last
  p0 : 0 ≤ c.parent
  p1 : c.parent < c.id
  a0 : 0 ≤ c.account
  a1 : c.account < 8
  m0 : 0 ≤ c.maker
  m1 : c.maker < 8
  k0 : 0 ≤ c.kind
  k1 : c.kind ≤ 9223372036854775807
  o0 : 0 ≤ c.object
  o1 : c.object ≤ 9223372036854775807
  r0 : 0 < c.rights
  r1 : c.rights ≤ 15
/-- A capability stands within its parent. -/
def WithinC (S : List Cap) (c : Cap) : Prop := c.parent = 0 ∨ ∃ p ∈ S, p.id = c.parent ∧ bits .and .i64 c.rights p.rights = c.rights ∧ c.kind = p.kind ∧ c.object = p.object
structure TabOk (T : Tab) : Prop where
  up : T.caps.Pairwise (fun c d => c.id < d.id)
  ok : ∀ c ∈ T.caps, CapOk c T.last
  within : ∀ c ∈ T.caps, WithinC T.caps c

theorem find_mem {S : List Cap} {id : Int} {c : Cap} (h : findC S id = some c) : c ∈ S ∧ c.id = id := by
  unfold findC at h
  exact ⟨List.mem_of_find?_eq_some h, by simpa using List.find?_some h⟩
theorem find_self : ∀ {S : List Cap}, S.Pairwise (fun c d => c.id < d.id) → ∀ {c : Cap}, c ∈ S → findC S c.id = some c
  | [], _, _, h => by simp at h
  | a :: S, hp, c, h => by
    obtain ⟨h1, h2⟩ := List.pairwise_cons.1 hp
    unfold findC
    rcases List.mem_cons.1 h with rfl | h'
    · simp
    · rw [List.find?_cons_of_neg (by have := h1 c h'; simp; omega)]
      exact find_self h2 h'
theorem find_none {S : List Cap} {id : Int} (h : ∀ c ∈ S, c.id ≠ id) : findC S id = none := by
  unfold findC; rw [List.find?_eq_none]; intro c hc; simpa using h c hc
theorem find_none_iff {S : List Cap} {id : Int} : findC S id = none ↔ ∀ c ∈ S, c.id ≠ id := by
  refine ⟨fun h c hc e => ?_, find_none⟩
  unfold findC at h; rw [List.find?_eq_none] at h
  exact absurd (by simpa using e) (h c hc)
theorem get_mem {S : List Cap} {id : Int} {c : Cap} (h : findC S id = some c) : getC S id = c := by unfold getC; rw [h]; rfl
theorem get_self {S : List Cap} (hp : S.Pairwise (fun c d => c.id < d.id)) {c : Cap} (h : c ∈ S) : getC S c.id = c := get_mem (find_self hp h)
theorem get_none {S : List Cap} {id : Int} (h : findC S id = none) : getC S id = nilC := by unfold getC; rw [h]; rfl

/-- Each parent comes ahead. -/
def Par (S : List Cap) : Prop := ∀ id, 0 ≤ (getC S id).parent ∧ ((getC S id).parent = 0 ∨ (getC S id).parent < id)
theorem par_of {S : List Cap} (h : ∀ c ∈ S, 0 ≤ c.parent ∧ c.parent < c.id) : Par S := fun id => by
  cases hf : findC S id with
  | none => rw [get_none hf]; exact ⟨by decide, .inl rfl⟩
  | some c =>
    obtain ⟨h1, h2⟩ := find_mem hf
    rw [get_mem hf]
    have := h c h1
    exact ⟨this.1, .inr (by omega)⟩
theorem TabOk.par {T : Tab} (h : TabOk T) : Par T.caps := par_of fun c hc => ⟨(h.ok c hc).p0, (h.ok c hc).p1⟩

theorem under_fuel {S : List Cap} (hp : Par S) (top : Int) : ∀ (n m : Nat) (id : Int), id.toNat < n → id.toNat < m → under S top n id = under S top m id := by
  intro n
  induction n with
  | zero => intro m id h _; omega
  | succ n ih =>
    intro m id h1 h2
    cases m with
    | zero => omega
    | succ m =>
      show ((getC S id).parent == top || (!((getC S id).parent == 0) && under S top n (getC S id).parent)) = ((getC S id).parent == top || (!((getC S id).parent == 0) && under S top m (getC S id).parent))
      by_cases h0 : (getC S id).parent = 0
      · simp [h0]
      · have := hp id
        rw [ih m _ (by omega) (by omega)]
theorem isUnder_step {S : List Cap} (hp : Par S) (top id : Int) : isUnder S top id = ((getC S id).parent == top || (!((getC S id).parent == 0) && isUnder S top (getC S id).parent)) := by
  show ((getC S id).parent == top || (!((getC S id).parent == 0) && under S top id.toNat (getC S id).parent)) = _
  by_cases h0 : (getC S id).parent = 0
  · simp [h0]
  · have := hp id
    rw [show isUnder S top (getC S id).parent = under S top id.toNat (getC S id).parent from under_fuel hp top _ _ _ (by omega) (by omega)]
/-- What was derived of one comes behind it. -/
theorem under_lt {S : List Cap} (hp : Par S) (top : Int) (h1 : 1 ≤ top) : ∀ (n : Nat) (id : Int), under S top n id = true → top < id := by
  intro n
  induction n with
  | zero => intro id h; cases h
  | succ n ih =>
    intro id h
    have h' : ((getC S id).parent == top || (!((getC S id).parent == 0) && under S top n (getC S id).parent)) = true := h
    have hpi := hp id
    simp only [Bool.or_eq_true, Bool.and_eq_true, beq_iff_eq, Bool.not_eq_true', beq_eq_false_iff_ne] at h'
    rcases h' with h' | ⟨h', h''⟩
    · omega
    · have := ih _ h''; omega
theorem isUnder_lt {S : List Cap} (hp : Par S) {top id : Int} (h1 : 1 ≤ top) (h : isUnder S top id = true) : top < id := under_lt hp top h1 _ _ h
theorem isUnder_self {S : List Cap} (hp : Par S) {id : Int} (h1 : 1 ≤ id) : isUnder S id id = false := by
  cases h : isUnder S id id
  · rfl
  · have := isUnder_lt hp h1 h; omega
theorem isUnder_miss {S : List Cap} (hp : Par S) {top id : Int} (h1 : 1 ≤ top) (h : findC S id = none) : isUnder S top id = false := by
  rw [isUnder_step hp, get_none h]
  show ((0 : Int) == top || (!((0 : Int) == 0) && _)) = false
  have : ((0 : Int) == top) = false := by simp; omega
  rw [this]; rfl

/-! ### How many -/
theorem len_le {last : Nat} : ∀ {S : List Cap} {lo : Int}, S.Pairwise (fun c d => c.id < d.id) → (∀ c ∈ S, lo < c.id ∧ c.id ≤ last) → lo ≤ last → (S.length : Int) ≤ last - lo
  | [], lo, _, _, h => by simpa using h
  | a :: S, lo, hp, h, _ => by
    obtain ⟨h1, h2⟩ := List.pairwise_cons.1 hp
    have ha := h a (by simp)
    have := len_le (S := S) (lo := a.id) h2 (fun c hc => ⟨h1 c hc, (h c (by simp [hc])).2⟩) ha.2
    simp only [List.length_cons]
    omega
theorem TabOk.len {T : Tab} (h : TabOk T) : T.caps.length ≤ T.last := by
  have := len_le (last := T.last) (lo := 0) h.up (fun c hc => ⟨by have := (h.ok c hc).i1; omega, (h.ok c hc).i2⟩) (by omega)
  omega

/-! ### What the calls leave -/
theorem CapOk.more {c : Cap} {n m : Nat} (h : CapOk c n) (hm : n ≤ m) : CapOk c m := ⟨h.i1, by have := h.i2; omega, h.p0, h.p1, h.a0, h.a1, h.m0, h.m1, h.k0, h.k1, h.o0, h.o1, h.r0, h.r1⟩
theorem new_ok : TabOk ⟨[], 0⟩ := ⟨List.Pairwise.nil, fun _ h => by simp at h, fun _ h => by simp at h⟩
theorem add_ok {T : Tab} (h : TabOk T) (c : Cap) (hc : CapOk { c with id := (T.last : Int) + 1 } (T.last + 1)) (hw : WithinC T.caps { c with id := (T.last : Int) + 1 }) : TabOk (addT T c) := by
  refine ⟨?_, ?_, ?_⟩
  · show (T.caps ++ [_]).Pairwise _
    rw [List.pairwise_append]
    refine ⟨h.up, List.pairwise_singleton .., fun a ha b hb => ?_⟩
    have := (h.ok a ha).i2
    rw [List.mem_singleton.1 hb]; show a.id < (T.last : Int) + 1; omega
  · intro d hd
    rcases List.mem_append.1 hd with hd | hd
    · exact (h.ok d hd).more (by show T.last ≤ T.last + 1; omega)
    · rw [List.mem_singleton.1 hd]; exact hc
  · intro d hd
    have mono : ∀ d, WithinC T.caps d → WithinC (addT T c).caps d := fun d hw => by
      rcases hw with h0 | ⟨p, hp, h'⟩
      · exact .inl h0
      · exact .inr ⟨p, List.mem_append_left _ hp, h'⟩
    rcases List.mem_append.1 hd with hd | hd
    · exact mono d (h.within d hd)
    · rw [List.mem_singleton.1 hd]; exact mono _ hw
theorem sub_ok {T : Tab} (h : TabOk T) (p : Cap → Bool) (hw : ∀ c ∈ T.caps, p c = true → c.parent ≠ 0 → ∀ d ∈ T.caps, d.id = c.parent → p d = true) : TabOk ⟨T.caps.filter p, T.last⟩ := by
  refine ⟨h.up.sublist List.filter_sublist, fun c hc => h.ok c (List.mem_filter.1 hc).1, fun c hc => ?_⟩
  obtain ⟨h1, h2⟩ := List.mem_filter.1 hc
  rcases h.within c h1 with h0 | ⟨d, hd, e, h'⟩
  · exact .inl h0
  · by_cases h0 : c.parent = 0
    · exact .inl h0
    · exact .inr ⟨d, List.mem_filter.2 ⟨hd, hw c h1 h2 h0 d hd e⟩, e, h'⟩
theorem under_child {T : Tab} (h : TabOk T) {c : Cap} (hc : c ∈ T.caps) (top : Int) : isUnder T.caps top c.id = (c.parent == top || (!(c.parent == 0) && isUnder T.caps top c.parent)) := by
  have := isUnder_step h.par top c.id
  rwa [get_self h.up hc] at this
theorem left_ok {T : Tab} (h : TabOk T) (id : Int) : TabOk ⟨leftC T.caps id, T.last⟩ := by
  refine sub_ok h _ fun c hc hn h0 d hd e => ?_
  rw [under_child h hc] at hn
  rw [e]
  have h0' : (c.parent == 0) = false := by simpa using h0
  rw [h0'] at hn
  revert hn; cases isUnder T.caps id c.parent <;> simp
theorem drop_ok {T : Tab} (h : TabOk T) (id : Int) : TabOk ⟨(leftC T.caps id).filter (fun c => !(c.id == id)), T.last⟩ := by
  have e : (leftC T.caps id).filter (fun c => !(c.id == id)) = T.caps.filter (fun c => !(c.id == id) && !isUnder T.caps id c.id) := by
    unfold leftC; rw [List.filter_filter]
  rw [e]
  refine sub_ok h _ fun c hc hn h0 d hd e => ?_
  rw [under_child h hc] at hn
  rw [e]
  have h0' : (c.parent == 0) = false := by simpa using h0
  rw [h0'] at hn
  revert hn; cases (c.parent == id) <;> cases isUnder T.caps id c.parent <;> simp

theorem own_zero {S : List Cap} {a id : Int} (h : ownE S a id = 0) : accB a = true ∧ ∃ c, findC S id = some c ∧ c.account = a := by
  unfold ownE at h
  by_cases ha : accB a = true
  · rw [if_pos ha] at h
    cases hf : findC S id with
    | none => rw [hf] at h; have h' : (6 : Int) = 0 := h; omega
    | some c =>
      rw [hf] at h
      refine ⟨ha, c, rfl, ?_⟩
      by_cases hc : (c.account == a) = true
      · simpa using hc
      · exact absurd h (by dsimp only; rw [if_neg hc]; decide)
  · rw [if_neg ha] at h; exact absurd h (by decide)
theorem own_some {S : List Cap} {a id : Int} {c : Cap} (ha : accB a = true) (hf : findC S id = some c) (hc : c.account = a) : ownE S a id = 0 := by
  unfold ownE; rw [if_pos ha, hf]; dsimp only; rw [if_pos (by simpa using hc)]
theorem own_range (S : List Cap) (a id : Int) : ownE S a id = 0 ∨ ownE S a id = 2 ∨ ownE S a id = 6 := by
  unfold ownE
  split
  · split
    · split <;> simp
    · simp
  · simp
theorem accB_iff {a : Int} : accB a = true ↔ 0 ≤ a ∧ a < 8 := by unfold accB; simp
theorem rightsB_iff {a : Int} : rightsB a = true ↔ 0 < a ∧ a ≤ 15 := by unfold rightsB; simp

/-- Of rights from 1 to 15: bits. -/
theorem bits_fin : ∀ p r : Fin 16, (bits .and .i64 (p.val : Int) (r.val : Int) = (r.val : Int) → bits .and .i64 (r.val : Int) (p.val : Int) = (r.val : Int)) ∧
    (bits .and .i64 (p.val : Int) (bits .or .i64 (r.val : Int) 8) = bits .or .i64 (r.val : Int) 8 → bits .and .i64 (r.val : Int) (p.val : Int) = (r.val : Int)) := by decide
theorem fin_of {a : Int} (h0 : 0 < a) (h1 : a ≤ 15) : ∃ f : Fin 16, (f.val : Int) = a := ⟨⟨a.toNat, by omega⟩, by show ((a.toNat : Nat) : Int) = a; omega⟩
theorem bits_derive {p r : Int} (p0 : 0 < p) (p1 : p ≤ 15) (r0 : 0 < r) (r1 : r ≤ 15) (h : bits .and .i64 p r = r) : bits .and .i64 r p = r := by
  obtain ⟨P, rfl⟩ := fin_of p0 p1
  obtain ⟨R, rfl⟩ := fin_of r0 r1
  exact (bits_fin P R).1 h
theorem bits_grant {p r : Int} (p0 : 0 < p) (p1 : p ≤ 15) (r0 : 0 < r) (r1 : r ≤ 15) (h : bits .and .i64 p (bits .or .i64 r 8) = bits .or .i64 r 8) : bits .and .i64 r p = r := by
  obtain ⟨P, rfl⟩ := fin_of p0 p1
  obtain ⟨R, rfl⟩ := fin_of r0 r1
  exact (bits_fin P R).2 h

/-! ### The calls keep what is always so -/
theorem addO_ok {T : Tab} (h : TabOk T) (c : Cap) (hc : CapOk { c with id := (T.last : Int) + 1 } (T.last + 1)) (hw : WithinC T.caps { c with id := (T.last : Int) + 1 }) :
    TabOk (addO T c).tab ∧ (addO T c).tab.last ≤ T.last + 1 := by
  unfold addO
  split
  · exact ⟨h, Nat.le_succ _⟩
  · exact ⟨add_ok h c hc hw, Nat.le_refl _⟩
theorem rootO_ok {T : Tab} (h : TabOk T) (a k o r : Int) (hk : k ≤ 9223372036854775807) (ho : o ≤ 9223372036854775807) : TabOk (rootO T a k o r).tab ∧ (rootO T a k o r).tab.last ≤ T.last + 1 := by
  unfold rootO
  split
  · rename_i hb
    unfold rootB at hb
    simp only [Bool.and_eq_true, decide_eq_true_eq, accB_iff, rightsB_iff] at hb
    refine addO_ok h _ ⟨?_, ?_, ?_, ?_, ?_, ?_, ?_, ?_, ?_, ?_, ?_, ?_, ?_, ?_⟩ (.inl rfl) <;> dsimp only <;> omega
  · exact ⟨h, Nat.le_succ _⟩
/-- Rights that are asked for lie within those that one must have. -/
def NeedOk (r need : Int) : Prop := need = r ∨ need = bits .or .i64 r 8
theorem deriveO_ok {T : Tab} (h : TabOk T) (a id to r need : Int) (hn : NeedOk r need) : TabOk (deriveO T a id to r need).tab ∧ (deriveO T a id to r need).tab.last ≤ T.last + 1 := by
  unfold deriveO
  split
  · rename_i hb
    simp only [Bool.and_eq_true, accB_iff, rightsB_iff] at hb
    split
    · rename_i h0
      obtain ⟨ha, c, hf, hc⟩ := own_zero h0
      obtain ⟨hm, e⟩ := find_mem hf
      have hok := h.ok c hm
      have i1 := hok.i1
      have i2 := hok.i2
      have k0 := hok.k0
      have k1 := hok.k1
      have o0 := hok.o0
      have o1 := hok.o1
      rw [accB_iff] at ha
      rw [get_mem hf]
      split
      · rename_i hbits
        refine addO_ok h _ ⟨?_, ?_, ?_, ?_, ?_, ?_, ?_, ?_, ?_, ?_, ?_, ?_, ?_, ?_⟩ (.inr ⟨c, hm, e, ?_, rfl, rfl⟩) <;> dsimp only <;> try omega
        rcases hn with rfl | rfl
        · exact bits_derive hok.r0 hok.r1 hb.2.1 hb.2.2 hbits
        · exact bits_grant hok.r0 hok.r1 hb.2.1 hb.2.2 hbits
      · exact ⟨h, Nat.le_succ _⟩
    · exact ⟨h, Nat.le_succ _⟩
  · exact ⟨h, Nat.le_succ _⟩
theorem revokeO_ok {T : Tab} (h : TabOk T) (a id : Int) : TabOk (revokeO T a id).tab ∧ (revokeO T a id).tab.last ≤ T.last := by
  unfold revokeO
  split
  · exact ⟨left_ok h id, Nat.le_refl _⟩
  · exact ⟨h, Nat.le_refl _⟩
theorem dropO_ok {T : Tab} (h : TabOk T) (a id : Int) : TabOk (dropO T a id).tab ∧ (dropO T a id).tab.last ≤ T.last := by
  unfold dropO
  split
  · exact ⟨drop_ok h id, Nat.le_refl _⟩
  · exact ⟨h, Nat.le_refl _⟩
end Go.Proofs.Ytakgjakcbpdefaa
