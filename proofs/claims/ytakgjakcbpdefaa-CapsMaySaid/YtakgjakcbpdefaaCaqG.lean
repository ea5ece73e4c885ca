/- The document's Under. -/
import Derived.Test.YtakgjakcbpdefaaCaqF
import Derived.Deep.RegionHeld3
namespace Go.Proofs.Ytakgjakcbpdefaa
open Go.RowKit

theorem at_one {S : List Cap} (hp : S.Pairwise (fun c d => c.id < d.id)) {i j : Nat} {c : Cap} (h1 : S[i]? = some c) (h2 : S[j]? = some c) : i = j := by
  obtain ⟨l1, e1⟩ := List.getElem?_eq_some_iff.1 h1
  obtain ⟨l2, e2⟩ := List.getElem?_eq_some_iff.1 h2
  rcases Nat.lt_trichotomy i j with h | h | h
  · have := List.pairwise_iff_getElem.1 hp i j l1 l2 h
    rw [e1, e2] at this; omega
  · exact h
  · have := List.pairwise_iff_getElem.1 hp j i l2 l1 h
    rw [e1, e2] at this; omega
theorem qfind_at {w : World} {B q : Nat} {T : Tab} (h : QAt w B q T) (hok : TabOk T) (hl : T.caps.length ≤ 1000) (id : Int) {c : Cap} (hf : findC T.caps id = some c) {i : Nat} (hi : T.caps[i]? = some c) :
    Calls Try.prog 54 #[.pointer (some ⟨q, 0, none⟩), .int .i64 id] w fun e w' => e = .returned (.int .i64 (i : Int)) ∧ w = w' := by
  refine (qfind_yes h hok hl id hf).mono ?_
  rintro e w' ⟨⟨j, rfl, hj⟩, rfl⟩
  rw [at_one hok.up hi hj]
  exact ⟨rfl, rfl⟩
theorem QOut.after {w W : World} {B q : Nat} {o : Out} {e : Ending} {w' : World} (h : QOut W B q o e w') (hb : Below w.heap.size w W) : QOut w B q o e w' := ⟨h.1, h.2.1, (DK.of_below hb).trans h.2.2⟩
/-- What Under comes to. -/
def underO (T : Tab) (a id dst r need : Int) : Out :=
  if (accB a && accB dst && rightsB r) = true then
    if mineB T.caps a id = true then
      if (bits .and .i64 r (getC T.caps id).rights == r && bits .and .i64 need (getC T.caps id).rights == need) = true then addO T ⟨0, id, dst, a, (getC T.caps id).kind, (getC T.caps id).object, r⟩ else ⟨T, 0, 8⟩
    else ⟨T, 0, 6⟩
  else ⟨T, 0, 2⟩
section
variable {w : World} {B q : Nat} {T : Tab}
set_option maxHeartbeats 4000000 in
set_option maxRecDepth 100000 in
theorem qunder_any (h : QAt w B q T) (hok : TabOk T) (hB : B ≤ w.heap.size) (hl : T.last < 1000) (hn : T.caps.length ≤ 1000) (a id dst r need : Int) :
    Calls Try.prog 33 #[.pointer (some ⟨q, 0, none⟩), .int .i64 a, .int .i64 id, .int .i64 dst, .int .i64 r, .int .i64 need] w (QOut w B q (underO T a id dst r need)) := by
  have HM := Lib.hid (qmine_any h hok hn a id)
  have HE := Lib.hid (fun x => QOut.no h (Below.refl _ w) x)
  have H := Lib.hid h
  have HK := Lib.hid hok
  have HBB := Lib.hid hB
  have HL := Lib.hid hl
  have HN := Lib.hid hn
  clear h hok hB hl hn
  unfold underO
  cases hb : (accB a && accB dst && rightsB r) with
  | false =>
    rw [if_neg (by simp)]
    have three : accB a = false ∨ (accB a = true ∧ accB dst = false) ∨ (accB a = true ∧ accB dst = true ∧ rightsB r = false) := by
      cases h1 : accB a <;> cases h2 : accB dst <;> cases h3 : rightsB r <;> simp_all
    clear hb
    rcases three with h1 | ⟨h1, h2⟩ | ⟨h1, h2, h3⟩
    all_goals
      go_enter Try.func33, Try.ntmps33
      go_wp2_with (first | (go_at_call 51; refine (qaccount_any _ _).mono ?_; rintro e w' ⟨rfl, rfl⟩) | (go_at_call 38; refine (qrights_any _ _).mono ?_; rintro e w' ⟨rfl, rfl⟩))
      go_ret2
      exact HE.out 2
  | true =>
    rw [if_pos rfl]
    simp only [Bool.and_eq_true] at hb
    obtain ⟨⟨z1, z2⟩, z3⟩ := hb
    cases hm : mineB T.caps a id with
    | false =>
      rw [if_neg (by simp)]
      rw [hm] at HM
      clear hm
      go_enter Try.func33, Try.ntmps33
      go_wp2_with (first | (go_at_call 51; refine (qaccount_any _ _).mono ?_; rintro e w' ⟨rfl, rfl⟩) | (go_at_call 38; refine (qrights_any _ _).mono ?_; rintro e w' ⟨rfl, rfl⟩) | (go_at_call 53; refine HM.out.mono ?_; rintro e w' ⟨rfl, rfl⟩))
      go_ret2
      exact HE.out 6
    | true =>
      rw [if_pos rfl]
      rw [hm] at HM
      obtain ⟨c, hf⟩ : ∃ c, findC T.caps id = some c := by
        cases hf : findC T.caps id with
        | none => unfold mineB at hm; rw [hf] at hm; cases hm
        | some c => exact ⟨c, rfl⟩
      rw [get_mem hf]
      obtain ⟨i, hx⟩ := List.getElem?_of_mem (find_mem hf).1
      have HF := Lib.hid (fun (W : World) (hW : QAt W B q T) => qfind_at hW HK.out HN.out id hf hx)
      have HADD := Lib.hid (fun (W : World) (hW : QAt W B q T) (hb : B ≤ W.heap.size) => qadd_any hW hb HL.out HN.out ⟨0, id, dst, a, c.kind, c.object, r⟩)
      clear hm hf
      obtain ⟨A, cp, -, -, hcs, c0, -, -, hq⟩ := H.out.out
      have HC := Lib.hid hcs
      obtain ⟨n, hnn⟩ : ∃ n, T.caps.length = n := ⟨_, rfl⟩
      rw [hnn] at c0
      have HNN := Lib.hid hnn
      clear hcs hnn
      obtain ⟨g, rfl, hg, hc⟩ := HC.out i c hx
      have hin : (i : Int) < (n : Int) := (by have := (List.getElem?_eq_some_iff.1 hx).1; rw [HNN.out] at this; omega)
      have hin' : i < n := (by omega)
      have k0 := hc 0 (by omega)
      have k1 := hc 1 (by omega)
      have k2 := hc 2 (by omega)
      have k3 := hc 3 (by omega)
      have k4 := hc 4 (by omega)
      have k5 := hc 5 (by omega)
      have k6 := hc 6 (by omega)
      simp only [capL, Nat.add_zero] at k0 k1 k2 k3 k4 k5 k6
      simp at k0 k1 k2 k3 k4 k5 k6
      have SF := Lib.hid (fun (W : World) (hb : Below w.heap.size w W) => show W.cell? ⟨q, 0, none⟩ = some (.slice (some ⟨g, 0, none⟩) n cp) ∧ W.cell? ⟨g, i * 7, none⟩ = some (.int .i64 c.id) ∧ W.cell? ⟨g, i * 7 + 1, none⟩ = some (.int .i64 c.parent) ∧ W.cell? ⟨g, i * 7 + 2, none⟩ = some (.int .i64 c.account) ∧
        W.cell? ⟨g, i * 7 + 3, none⟩ = some (.int .i64 c.maker) ∧ W.cell? ⟨g, i * 7 + 4, none⟩ = some (.int .i64 c.kind) ∧ W.cell? ⟨g, i * 7 + 5, none⟩ = some (.int .i64 c.object) ∧ W.cell? ⟨g, i * 7 + 6, none⟩ = some (.int .i64 c.rights) from
        ⟨(hb.cell (p := ⟨q, 0, none⟩) hq).trans c0, (hb.cell (p := ⟨g, _, none⟩) hg).trans k0, (hb.cell (p := ⟨g, _, none⟩) hg).trans k1, (hb.cell (p := ⟨g, _, none⟩) hg).trans k2, (hb.cell (p := ⟨g, _, none⟩) hg).trans k3, (hb.cell (p := ⟨g, _, none⟩) hg).trans k4, (hb.cell (p := ⟨g, _, none⟩) hg).trans k5, (hb.cell (p := ⟨g, _, none⟩) hg).trans k6⟩)
      clear hc hx k0 k1 k2 k3 k4 k5 k6
      obtain ⟨oo, hoo⟩ : ∃ oo, oo = (if (bits .and .i64 r c.rights == r && bits .and .i64 need c.rights == need) = true then addO T ⟨0, id, dst, a, c.kind, c.object, r⟩ else ⟨T, 0, 8⟩) := ⟨_, rfl⟩
      rw [← hoo]
      have three : ((bits .and .i64 r c.rights == r) = false ∨ ((bits .and .i64 r c.rights == r) = true ∧ (bits .and .i64 need c.rights == need) = false)) ∨ ((bits .and .i64 r c.rights == r) = true ∧ (bits .and .i64 need c.rights == need) = true) := by
        cases (bits .and .i64 r c.rights == r) <;> cases (bits .and .i64 need c.rights == need) <;> simp
      rcases three with y | ⟨y1, y2⟩
      · have hno : oo = ⟨T, 0, 8⟩ := by
          rw [hoo, if_neg]
          rcases y with y | ⟨-, y⟩ <;> rw [y] <;> simp
        clear hoo
        have HOO := Lib.hid (fun w' hb => hno ▸ (QOut.no (w' := w') H.out hb 8))
        clear hno
        rcases y with y1 | ⟨y1, y2⟩
        all_goals
          skip
          go_enter Try.func33, Try.ntmps33
          go_wp2_with (first | (go_at_call 51; refine (qaccount_any _ _).mono ?_; rintro e w' ⟨rfl, rfl⟩) | (go_at_call 38; refine (qrights_any _ _).mono ?_; rintro e w' ⟨rfl, rfl⟩) | (go_at_call 53; refine HM.out.mono ?_; rintro e w' ⟨rfl, rfl⟩))
          go_region_held3 (fun W => W.cell? ⟨q, 0, none⟩ = some (.slice (some ⟨g, 0, none⟩) n cp) ∧ W.cell? ⟨g, i * 7, none⟩ = some (.int .i64 c.id) ∧ W.cell? ⟨g, i * 7 + 1, none⟩ = some (.int .i64 c.parent) ∧ W.cell? ⟨g, i * 7 + 2, none⟩ = some (.int .i64 c.account) ∧
              W.cell? ⟨g, i * 7 + 3, none⟩ = some (.int .i64 c.maker) ∧ W.cell? ⟨g, i * 7 + 4, none⟩ = some (.int .i64 c.kind) ∧ W.cell? ⟨g, i * 7 + 5, none⟩ = some (.int .i64 c.object) ∧ W.cell? ⟨g, i * 7 + 6, none⟩ = some (.int .i64 c.rights))
            (first | exact SF.out _ (Below.refl _ w).drew | exact SF.out _ ((Below.refl _ w).drew.alloc (Nat.le_refl _) _) | exact SF.out _ (((Below.refl _ w).alloc (Nat.le_refl _) _).drew) | go_keep)
            (first | (go_at_call 54; (first | refine (HF.out _ (H.out.step (Below.refl _ w).drew)).mono ?_ | refine (HF.out _ (H.out.step ((Below.refl _ w).drew.alloc (Nat.le_refl _) _))).mono ?_); rintro e w' ⟨rfl, rfl⟩))
          go_wp2_with (first | (go_at_call 39; refine (qsubset_any _ _ _).mono ?_; rintro e w' ⟨rfl, rfl⟩))
          all_goals
            go_ret2
            exact HOO.out _ (((Below.refl _ w).alloc (Nat.le_refl _) _).drew)
      · rw [if_pos (by rw [y1, y2]; rfl)] at hoo
        rw [← hoo] at HADD
        clear hoo
        go_enter Try.func33, Try.ntmps33
        go_wp2_with (first | (go_at_call 51; refine (qaccount_any _ _).mono ?_; rintro e w' ⟨rfl, rfl⟩) | (go_at_call 38; refine (qrights_any _ _).mono ?_; rintro e w' ⟨rfl, rfl⟩) | (go_at_call 53; refine HM.out.mono ?_; rintro e w' ⟨rfl, rfl⟩))
        go_region_held3 (fun W => W.cell? ⟨q, 0, none⟩ = some (.slice (some ⟨g, 0, none⟩) n cp) ∧ W.cell? ⟨g, i * 7, none⟩ = some (.int .i64 c.id) ∧ W.cell? ⟨g, i * 7 + 1, none⟩ = some (.int .i64 c.parent) ∧ W.cell? ⟨g, i * 7 + 2, none⟩ = some (.int .i64 c.account) ∧
            W.cell? ⟨g, i * 7 + 3, none⟩ = some (.int .i64 c.maker) ∧ W.cell? ⟨g, i * 7 + 4, none⟩ = some (.int .i64 c.kind) ∧ W.cell? ⟨g, i * 7 + 5, none⟩ = some (.int .i64 c.object) ∧ W.cell? ⟨g, i * 7 + 6, none⟩ = some (.int .i64 c.rights))
          (first | exact SF.out _ (Below.refl _ w).drew | exact SF.out _ ((Below.refl _ w).drew.alloc (Nat.le_refl _) _) | exact SF.out _ (((Below.refl _ w).alloc (Nat.le_refl _) _).drew) | go_keep)
          (first | (go_at_call 54; (first | refine (HF.out _ (H.out.step (Below.refl _ w).drew)).mono ?_ | refine (HF.out _ (H.out.step ((Below.refl _ w).drew.alloc (Nat.le_refl _) _))).mono ?_); rintro e w' ⟨rfl, rfl⟩))
        go_wp2_with (first | (go_at_call 39; refine (qsubset_any _ _ _).mono ?_; rintro e w' ⟨rfl, rfl⟩) | (go_at_call 52; refine (HADD.out _ (H.out.step (((Below.refl _ w).alloc (Nat.le_refl _) _).drew)) (by have := HBB.out; simp; omega)).mono ?_; rintro e w' hqq; obtain ⟨rfl, hq2⟩ := hqq.at_; have HQ2 := Lib.hid hq2; clear hqq hq2))
        all_goals
          go_ret2
          exact HQ2.out.after (((Below.refl _ w).alloc (Nat.le_refl _) _).drew)
end
end Go.Proofs.Ytakgjakcbpdefaa
