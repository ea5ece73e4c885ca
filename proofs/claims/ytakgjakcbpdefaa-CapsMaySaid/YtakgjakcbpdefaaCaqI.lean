/- What the document's calls come to is what the program's do. -/
import Derived.Test.YtakgjakcbpdefaaCaqH
namespace Go.Proofs.Ytakgjakcbpdefaa
open Go.RowKit

theorem own_mine {S : List Cap} {a id : Int} (ha : accB a = true) : ownE S a id = if mineB S a id = true then 0 else 6 := by
  unfold ownE mineB
  rw [if_pos ha]
  cases findC S id with
  | none => rfl
  | some c => simp
theorem own_acc {S : List Cap} {a id : Int} (ha : accB a = false) : ownE S a id = 2 := by unfold ownE; rw [if_neg (by rw [ha]; simp)]
theorem bits_less : ∀ p r : Fin 16, (((bits .and .i64 (r.val : Int) (p.val : Int) == (r.val : Int) && bits .and .i64 0 (p.val : Int) == 0) = true ↔ bits .and .i64 (p.val : Int) (r.val : Int) = (r.val : Int))) ∧
    (((bits .and .i64 (r.val : Int) (p.val : Int) == (r.val : Int) && bits .and .i64 8 (p.val : Int) == 8) = true ↔ bits .and .i64 (p.val : Int) (bits .or .i64 (r.val : Int) 8) = bits .or .i64 (r.val : Int) 8)) := by decide
theorem under_eq {T : Tab} (hok : TabOk T) (a id dst r need need' : Int)
    (hb : ∀ p : Int, 0 < p → p ≤ 15 → 0 < r → r ≤ 15 → ((bits .and .i64 r p == r && bits .and .i64 need p == need) = true ↔ bits .and .i64 p need' = need')) : underO T a id dst r need = deriveO T a id dst r need' := by
  unfold underO deriveO
  cases ha : accB a with
  | false =>
    rw [own_acc ha]
    simp
  | true =>
    rw [own_mine ha, Bool.true_and]
    cases hd : (accB dst && rightsB r) with
    | false => simp
    | true =>
      rw [if_pos rfl, if_pos rfl]
      cases hm : mineB T.caps a id with
      | false => simp
      | true =>
        rw [if_pos rfl, if_pos rfl, if_pos rfl]
        have hr : 0 < r ∧ r ≤ 15 := by
          rw [Bool.and_eq_true] at hd
          exact rightsB_iff.1 hd.2
        have hp : 0 < (getC T.caps id).rights ∧ (getC T.caps id).rights ≤ 15 := by
          unfold mineB at hm
          cases hf : findC T.caps id with
          | none => rw [hf] at hm; cases hm
          | some c =>
            rw [get_mem hf]
            have := hok.ok c (find_mem hf).1
            exact ⟨this.r0, this.r1⟩
        have key := hb _ hp.1 hp.2 hr.1 hr.2
        by_cases h : bits .and .i64 (getC T.caps id).rights need' = need'
        · rw [if_pos (key.2 h), if_pos h]
        · rw [if_neg (fun e => h (key.1 e)), if_neg h]
theorem under_derive {T : Tab} (hok : TabOk T) (a id r : Int) : underO T a id a r 0 = deriveO T a id a r r := under_eq hok a id a r 0 r fun p p0 p1 r0 r1 => by
  obtain ⟨P, rfl⟩ := fin_of p0 p1
  obtain ⟨R, rfl⟩ := fin_of r0 r1
  exact (bits_less P R).1
theorem under_grant {T : Tab} (hok : TabOk T) (a id dst r : Int) : underO T a id dst r 8 = deriveO T a id dst r (bits .or .i64 r 8) := under_eq hok a id dst r 8 _ fun p p0 p1 r0 r1 => by
  obtain ⟨P, rfl⟩ := fin_of p0 p1
  obtain ⟨R, rfl⟩ := fin_of r0 r1
  exact (bits_less P R).2
theorem both_len {α : Type} (l : List α) (p : α → Bool) : (l.filter p).length + (l.filter (fun x => !p x)).length = l.length := by
  induction l with
  | nil => rfl
  | cons a l ih =>
    cases h : p a <;> simp [List.filter_cons, h] <;> omega
theorem rest_false {T : Tab} (hok : TabOk T) {id : Int} (h1 : 1 ≤ id) : restTo T.caps id false T.caps.length = leftC T.caps id := by
  unfold restTo leftC
  rw [List.take_length]
  refine List.filter_congr fun c hc => ?_
  unfold keepC overB
  by_cases e : c.id = id
  · rw [e, isUnder_self hok.par h1]; simp
  · have e1 : (c.id == id) = false := by simpa using e
    have e2 : (id == c.id) = false := by simpa using fun h : id = c.id => e h.symm
    rw [e1, e2]; simp
theorem rest_true {T : Tab} (id : Int) : restTo T.caps id true T.caps.length = (leftC T.caps id).filter (fun c => !(c.id == id)) := by
  unfold restTo leftC
  rw [List.take_length, List.filter_filter]
  refine List.filter_congr fun c _ => ?_
  unfold keepC overB
  rw [show (id == c.id) = (c.id == id) from Bool.beq_comm]
  cases (c.id == id) <;> cases isUnder T.caps id c.id <;> rfl
theorem gone_mine {T : Tab} {a id : Int} (hok : TabOk T) (hm : mineB T.caps a id = true) : 1 ≤ id ∧ ∃ c, findC T.caps id = some c := by
  unfold mineB at hm
  cases hf : findC T.caps id with
  | none => rw [hf] at hm; cases hm
  | some c =>
    obtain ⟨h1, h2⟩ := find_mem hf
    exact ⟨by rw [← h2]; exact (hok.ok c h1).i1, c, rfl⟩
theorem gone_revoke {T : Tab} (hok : TabOk T) (a id : Int) : goneQ T a id false = revokeO T a id := by
  unfold goneQ revokeO
  cases ha : accB a with
  | false => rw [own_acc ha]; simp
  | true =>
    rw [own_mine ha, if_pos rfl]
    cases hm : mineB T.caps a id with
    | false => simp
    | true =>
      obtain ⟨h1, -⟩ := gone_mine hok hm
      rw [if_pos rfl, if_pos rfl, if_pos rfl, rest_false hok h1]
      have := both_len T.caps (fun c => isUnder T.caps id c.id)
      have e : (T.caps.length : Int) - ((leftC T.caps id).length : Int) = ((goneC T.caps id).length : Int) := by unfold leftC goneC; omega
      rw [e]
theorem gone_drop {T : Tab} (hok : TabOk T) (a id : Int) : goneQ T a id true = dropO T a id := by
  unfold goneQ dropO
  cases ha : accB a with
  | false => rw [own_acc ha]; simp
  | true =>
    rw [own_mine ha, if_pos rfl]
    cases hm : mineB T.caps a id with
    | false => simp
    | true =>
      obtain ⟨h1, c, hf⟩ := gone_mine hok hm
      rw [if_pos rfl, if_pos rfl, if_pos rfl, rest_true]
      have e1 := both_len T.caps (fun c => isUnder T.caps id c.id)
      have e2 := filter_ne_len (leftC T.caps id) (hok.up.sublist List.filter_sublist) id
      have e3 : findC (leftC T.caps id) id = some c := by
        unfold leftC
        rw [find_filter _ hok.up, hf]
        simp [Option.filter, (find_mem hf).2, isUnder_self hok.par h1]
      rw [e3] at e2
      have e : (T.caps.length : Int) - (((leftC T.caps id).filter (fun c => !(c.id == id))).length : Int) = ((goneC T.caps id).length : Int) + 1 := by
        have e4 : (if (some c : Option Cap).isSome = true then 1 else 0) = 1 := rfl
        rw [e4] at e2
        unfold goneC
        unfold leftC at e2 ⊢
        omega
      rw [e]
end Go.Proofs.Ytakgjakcbpdefaa
