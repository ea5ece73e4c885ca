/- Two tables in which one account does the same. -/
import Derived.Test.YtgpmkllhljngfaaCapR
namespace Go.Proofs.Ytgpmkllhljngfaa
open Go.RowKit

def r0C : Cap := ⟨1, 0, 1, 1, 0, 1, 7⟩
def strip (c : Cap) : Int × Int × Int × Int := (c.account, c.kind, c.object, c.rights)
def madeC (S : List Cap) : List Cap := S.filter (fun c => c.maker == 1)
structure TwoOk (A B : Tab) : Prop where
  ra : r0C ∈ A.caps
  rb : r0C ∈ B.caps
  same : (madeC A.caps).map strip = (madeC B.caps).map strip
  mine : ∀ c ∈ A.caps, c.maker = 1 ∧ c.account = 1
theorem oneO_adds (T : Tab) (s : StepS) (h4 : s.kd ≠ 4) (h5 : s.kd ≠ 5) : (oneO T s).tab = T ∨ ∃ c : Cap, c.maker = s.a ∧ (oneO T s).tab = addT T c := by
  have add : ∀ c : Cap, c.maker = s.a → (addO T c).tab = T ∨ ∃ d : Cap, d.maker = s.a ∧ (addO T c).tab = addT T d := fun c hc => by
    by_cases h32 : 32 ≤ madeBy T.caps c.maker
    · left; unfold addO; rw [if_pos h32]
    · right; exact ⟨c, hc, by unfold addO; rw [if_neg h32]⟩
  have der : ∀ id d r m, (deriveO T s.a id d r m).tab = T ∨ ∃ c : Cap, c.maker = s.a ∧ (deriveO T s.a id d r m).tab = addT T c := fun id d r m => by
    unfold deriveO
    split
    · split
      · split
        · exact add ⟨0, id, d, s.a, (getC T.caps id).kind, (getC T.caps id).object, r⟩ rfl
        · exact .inl rfl
      · exact .inl rfl
    · exact .inl rfl
  unfold oneO
  split
  · unfold rootO
    split
    · exact add ⟨0, 0, s.a, s.a, s.th, s.ob, s.ri⟩ rfl
    · exact .inl rfl
  · split
    · exact der _ _ _ _
    · split
      · exact der _ _ _ _
      · first
          | exact .inl rfl
          | (rw [if_neg h4, if_neg h5]; exact .inl rfl)
theorem TwoOk.other {A B : Tab} (h : TwoOk A B) (s : StepS) (h4 : s.kd ≠ 4) (h5 : s.kd ≠ 5) (ha : s.a ≠ 1) : TwoOk A (oneO B s).tab := by
  rcases oneO_adds B s h4 h5 with e | ⟨c, hc, e⟩
  · rw [e]; exact h
  · rw [e]
    refine ⟨h.ra, List.mem_append_left _ h.rb, ?_, h.mine⟩
    have : madeC (addT B c).caps = madeC B.caps := by
      show (B.caps ++ [_]).filter _ = _
      rw [List.filter_append]
      have : ((c.maker : Int) == 1) = false := by rw [hc]; simpa using ha
      simp [this, madeC]
    rw [this]; exact h.same
theorem made_len {A B : Tab} (h : TwoOk A B) : madeBy A.caps 1 = madeBy B.caps 1 := by
  have := congrArg List.length h.same
  simpa [madeBy, madeC] using this
theorem own_r0 {T : Tab} (hT : TabOk T) (h : r0C ∈ T.caps) : findC T.caps 1 = some r0C ∧ ownE T.caps 1 1 = 0 := by
  have hf : findC T.caps 1 = some r0C := find_self hT.up h
  exact ⟨hf, own_some rfl hf rfl⟩
theorem derive_form {T : Tab} (hT : TabOk T) (h : r0C ∈ T.caps) (r : Int) : deriveO T 1 1 1 r r =
    if rightsB r then (if bits .and .i64 7 r = r then addO T ⟨0, 1, 1, 1, 0, 1, r⟩ else ⟨T, 0, 8⟩) else ⟨T, 0, 2⟩ := by
  obtain ⟨hf, ho⟩ := own_r0 hT h
  have e1 : (accB 1 && rightsB r) = rightsB r := rfl
  have e2 : getC T.caps 1 = r0C := get_mem hf
  unfold deriveO
  rw [e1, ho, e2]
  rfl
theorem TwoOk.add {A B : Tab} (h : TwoOk A B) (c : Cap) (hm : c.maker = 1) (ha : c.account = 1) : TwoOk (addT A c) (addT B c) := by
  refine ⟨List.mem_append_left _ h.ra, List.mem_append_left _ h.rb, ?_, fun d hd => ?_⟩
  · show (madeC (A.caps ++ [_])).map strip = (madeC (B.caps ++ [_])).map strip
    unfold madeC
    rw [List.filter_append, List.filter_append, List.map_append, List.map_append]
    have := h.same
    unfold madeC at this
    rw [this]
    simp [hm, strip]
  · rcases List.mem_append.1 hd with hd | hd
    · exact h.mine d hd
    · rw [List.mem_singleton.1 hd]; exact ⟨hm, ha⟩
theorem derive_same {A B : Tab} (hA : TabOk A) (hB : TabOk B) (h : TwoOk A B) (r : Int) : (deriveO A 1 1 1 r r).err = (deriveO B 1 1 1 r r).err ∧ TwoOk (deriveO A 1 1 1 r r).tab (deriveO B 1 1 1 r r).tab := by
  rw [derive_form hA h.ra, derive_form hB h.rb]
  split
  · split
    · unfold addO
      have e := made_len h
      by_cases h32 : 32 ≤ madeBy A.caps 1
      · rw [if_pos h32, if_pos (by rw [← e]; exact h32)]; exact ⟨rfl, h⟩
      · rw [if_neg h32, if_neg (by rw [← e]; exact h32)]; exact ⟨rfl, h.add _ rfl rfl⟩
    · exact ⟨rfl, h⟩
  · exact ⟨rfl, h⟩
def mayS (r : Int) (x : Int × Int × Int × Int) : Bool := x.1 == 1 && (x.2.1 == 0 && (x.2.2.1 == 1 && (bits .and .i64 x.2.2.2 r == r)))
theorem may_made (S : List Cap) (r : Int) (h : ∀ c ∈ S, c.account = 1 → c.maker = 1) : S.any (mayP 1 0 1 r) = ((madeC S).map strip).any (mayS r) := by
  rw [Bool.eq_iff_iff, List.any_eq_true, List.any_eq_true]
  constructor
  · rintro ⟨c, hc, hp⟩
    have ha : c.account = 1 := by unfold mayP at hp; simp only [Bool.and_eq_true] at hp; exact eq_of_beq hp.1
    exact ⟨strip c, List.mem_map.2 ⟨c, List.mem_filter.2 ⟨hc, by rw [h c hc ha]; rfl⟩, rfl⟩, hp⟩
  · rintro ⟨x, hx, hp⟩
    obtain ⟨c, hc, rfl⟩ := List.mem_map.1 hx
    exact ⟨c, (List.mem_filter.1 hc).1, hp⟩
theorem may_same {A B : Tab} (h : TwoOk A B) (r : Int) (hs : strangerB B.caps = false) : mayB A.caps 1 0 1 r = mayB B.caps 1 0 1 r := by
  cases hr : rightsB r
  · unfold mayB; rw [hr]; rfl
  · rw [mayB_is _ _ _ _ _ hr, mayB_is _ _ _ _ _ hr, may_made A.caps r (fun c hc _ => (h.mine c hc).1), may_made B.caps r (fun c hc ha => ?_), h.same]
    unfold strangerB allC at hs
    rw [List.any_eq_false] at hs
    have := hs c (List.mem_filter.2 ⟨hc, by simp [ha]⟩)
    simpa using this
theorem two_start : TwoOk ⟨[r0C], 1⟩ ⟨[r0C], 1⟩ := ⟨List.mem_cons_self .., List.mem_cons_self .., rfl, fun c hc => by rw [List.mem_singleton.1 hc]; exact ⟨rfl, rfl⟩⟩
end Go.Proofs.Ytgpmkllhljngfaa
