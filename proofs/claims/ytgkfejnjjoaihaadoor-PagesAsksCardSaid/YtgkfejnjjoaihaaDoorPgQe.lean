/- The document's Share. -/
import Derived.Test.YtgkfejnjjoaihaaDoorPgQd
namespace Go.Proofs.YtgkfejnjjoaihaaDoor
open Go.RowKit

/-- The pages of a space at which something stands, rising. -/
def pagesN (T : Tb) (s : Nat) : List Nat := (List.range 32).filter (fun p => (T s p).is)
theorem pagesL_nat (T : Tb) (s : Nat) (hs : s < 16) : pagesL T s = (pagesN T s).map (fun p : Nat => (p : Int)) := by
  unfold pagesL
  rw [if_pos ((spaceB_iff _).2 ⟨by omega, by omega⟩)]
  rfl
theorem pagesN_mem {T : Tb} {s p : Nat} : p ∈ pagesN T s ↔ p < 32 ∧ (T s p).is = true := by simp [pagesN]
theorem pagesN_nodup (T : Tb) (s : Nat) : (pagesN T s).Nodup := List.Pairwise.filter _ List.nodup_range
theorem pagesN_len (T : Tb) (s : Nat) : (pagesN T s).length ≤ 32 := Nat.le_trans (List.length_filter_le _ _) (by simp)
theorem pagesN_count (T : Tb) (s : Nat) : (pagesN T s).length = countK T s 32 := rfl
theorem pagesN_any (T : Tb) (s : Nat) (hs : s < 16) : anyT T s = decide (0 < (pagesN T s).length) := by
  have hb : spaceB s = true := (spaceB_iff _).2 ⟨by omega, by omega⟩
  by_cases h : 0 < (pagesN T s).length
  · obtain ⟨p, hp⟩ := List.exists_mem_of_length_pos h
    obtain ⟨h1, h2⟩ := pagesN_mem.1 hp
    have : anyT T s = true := anyT_yes (j := p) h1 (by unfold hitS; rw [hb]; exact h2)
    rw [this]; simp [h]
  · have : anyT T s = false := anyT_no (fun j hj => by
      unfold hitS; rw [hb]
      cases hx : (T s j).is with
      | false => exact hx
      | true => exact absurd (List.length_pos_of_mem (pagesN_mem.2 ⟨hj, hx⟩)) h)
    rw [this]; simp [h]
theorem ints_base {w : World} {base : Nat} {v : Value} {xs : List Int} (h : w.ownsRow base 3 1 v xs.length (xs.map intV)) : ∃ a c, v = .slice a xs.length c ∧ ∀ (i : Nat) (x : Int), xs[i]? = some x → ∃ g, a = some ⟨g, 0, none⟩ ∧ (base ≤ g ∧ g < w.heap.size) ∧ w.cell? ⟨g, i, none⟩ = some (.int .i64 x) := by
  obtain ⟨-, h2 | ⟨g, cap, cur, rfl, h3, h4, -, -, -, h5⟩⟩ := h
  · have : xs = [] := List.length_eq_zero_iff.1 h2.2
    subst this
    exact ⟨none, 0, h2.1, fun i x hi => by simp at hi⟩
  · refine ⟨_, _, rfl, fun i x hi => ⟨g, rfl, ⟨h3, (Array.getElem?_eq_some_iff.1 h4).1⟩, ?_⟩⟩
    rw [cell_of_row _ _ _ _ _ _ h4]
    have h6 : (cur.toList.take (xs.length * 1))[i]? = some (intV x) := by rw [h5, List.getElem?_map, hi]; rfl
    rw [List.getElem?_take] at h6
    split at h6
    · simpa [intV] using h6
    · cases h6

def copyA (T : Tb) (f g : Nat) (l : List Nat) : Tb := fun i j => if i = g ∧ j ∈ l then layE (T f j).fr (T f j).ri else T i j
theorem copyA_nil (T : Tb) (f g : Nat) : copyA T f g [] = T := by funext i j; simp [copyA]
theorem copyA_from (T : Tb) {f g : Nat} (h : f ≠ g) (l : List Nat) (j : Nat) : copyA T f g l f j = T f j := by unfold copyA; rw [if_neg (fun e => h e.1)]
theorem copyA_add (T : Tb) (f g : Nat) (l : List Nat) (p : Nat) : setT (copyA T f g l) g p (layE (T f p).fr (T f p).ri) = copyA T f g (l ++ [p]) := by
  funext i j
  unfold setT copyA
  by_cases h : i = g ∧ j = p
  · obtain ⟨rfl, rfl⟩ := h
    rw [if_pos ⟨rfl, rfl⟩, if_pos ⟨rfl, by simp⟩]
  · rw [if_neg h]
    by_cases h2 : i = g ∧ j ∈ l
    · rw [if_pos h2, if_pos ⟨h2.1, by simp [h2.2]⟩]
    · rw [if_neg h2, if_neg]
      rintro ⟨h3, h4⟩
      rcases List.mem_append.1 h4 with h5 | h5
      · exact h2 ⟨h3, h5⟩
      · exact h ⟨h3, by simpa using h5⟩
theorem copyA_all (T : Tb) (f g : Nat) : copyA T f g (pagesN T f) = copyK T f g 32 := by
  funext i j
  unfold copyA copyK
  simp only [pagesN_mem]

set_option maxRecDepth 100000 in
set_option maxHeartbeats 2000000 in
theorem q_share_in {w : World} {q : Nat} {T : Tb} (h : QT w q T) (f g : Nat) (hf : f < 16) (hg : g < 16) (hfg : f ≠ g) (ha : anyT T g = false) :
    Calls Tryd.prog 40 #[.pointer (some ⟨q, 0, none⟩), .int .i64 f, .int .i64 g] w fun e w' => e = .returned (.tuple #[.int .i64 (countK T f 32 : Nat), .int .i64 0]) ∧ QT w' q (copyK T f g 32) ∧ Turned w w' [q] := by
  have H := Lib.hid h
  have if0 : inB f 0 = true := inB_of hf (by decide)
  have ig0 : inB g 0 = true := inB_of hg (by decide)
  have hne : ((f : Int) == (g : Int)) = false := by simp; omega
  have hN0 : (pagesL T g).length = 0 := by
    rw [pagesL_nat T g hg, List.length_map]
    rw [pagesN_any T g hg] at ha
    simp only [decide_eq_false_iff_not] at ha
    omega
  have hf' : (f : Int) < 16 := by omega
  have hg' : (g : Int) < 16 := by omega
  have HG := Lib.hid (q_pages h g)
  obtain ⟨n, hn⟩ : ∃ n, (pagesN T f).length = n := ⟨_, rfl⟩
  have HN := Lib.hid hn
  have hLen : (pagesL T f).length = n := by rw [pagesL_nat T f hf, List.length_map]; exact hn
  have hn32 : n ≤ 32 := hn ▸ pagesN_len T f
  rw [← pagesN_count, hn]
  clear hn
  clear h ha
  go_enter Tryd.func40, Tryd.ntmps40
  go_wp2_with (first
    | (go_at_call 57; refine (q_in _ _ _).mono ?_; rintro e w1 ⟨rfl, rfl⟩; first | rw [if0] | rw [ig0])
    | (go_at_call 56; with_reducible refine HG.out.mono ?_; rintro e w1 ⟨v, rfl, hown, hb⟩; obtain ⟨a1, c1, rfl, hc1⟩ := ints_base hown; have HB1 := Lib.hid hb; have HF := Lib.hid (q_pages (H.out.step hb) f); rw [hN0]; clear hown hc1 hb)
    | (go_at_call 56; with_reducible refine HF.out.mono ?_; rintro e w2 ⟨v, rfl, hown, hb⟩; obtain ⟨a2, c2, rfl, hc2⟩ := ints_base hown; have HC2 := Lib.hid hc2; have HB2 := Lib.hid hb; rw [hLen]; clear hown hc2 hb))
  go_loopw [9] (fun x wr => ∃ k : Nat, k ≤ n ∧ x = .int .i64 k ∧ QT wr q (copyA T f g ((pagesN T f).take k)) ∧ Turned w2 wr [q]) (fun x _ => n - (intOf x).toNat)
  case atStart => exact ⟨0, Nat.zero_le _, rfl, by rw [List.take_zero, copyA_nil]; exact (H.out.step HB1.out).step HB2.out, Turned.refl _ _⟩
  case round =>
    obtain ⟨k, hk, rfl, hq, htu⟩ := hrel
    have HQ := Lib.hid hq
    have HT := Lib.hid htu
    by_cases hlt : k < n
    · have hlt' : (k : Int) < n := by omega
      obtain ⟨p, hp⟩ : ∃ p, (pagesN T f)[k]? = some p := ⟨(pagesN T f)[k]'(by have := HN.out; omega), List.getElem?_eq_getElem _⟩
      have hm := pagesN_mem.1 (List.mem_of_getElem? hp)
      have hp32 := hm.1
      obtain ⟨gl, rfl, hgl, hcl⟩ := HC2.out k p (by rw [pagesL_nat T f hf, List.getElem?_map, hp]; rfl)
      have hqlt := H.out.lt
      have hs1 := HB1.out.size
      have hs2 := HB2.out.size
      have hs3 := htu.size
      have nq : (gl = q) = False := eq_false (by omega)
      have nq' : (q = gl) = False := eq_false (by omega)
      have cl : wr.cell? ⟨gl, k, none⟩ = some (.int .i64 p) := (World.cell?_of_block (w := w2) (w' := wr) (a := ⟨gl, k, none⟩) (htu.block gl hgl.2 (by simp; omega))).trans hcl
      have c1 := hq.c1 f p hf hp32
      have c2 := hq.c2 f p hf hp32
      have c3 := hq.c3 f p hf hp32
      have c4 := hq.c4 f p hf hp32
      rw [copyA_from T hfg] at c1 c2 c3 c4
      have d0 := hq.c0 g p hg hp32
      have d1 := hq.c1 g p hg hp32
      have d2 := hq.c2 g p hg hp32
      have d3 := hq.c3 g p hg hp32
      have d4 := hq.c4 g p hg hp32
      have fz := hq.row.fz
      have hp' : (p : Int) < 32 := by omega
      have hqr := hq.lt
      have hgr : gl < wr.heap.size := by omega
      have ne : (q = wr.heap.size) = False := eq_false (by omega)
      have ne' : (wr.heap.size = q) = False := eq_false (by omega)
      have ng : (gl = wr.heap.size) = False := eq_false (by omega)
      have ng' : (wr.heap.size = gl) = False := eq_false (by omega)
      have nfg : (f = g) = False := eq_false hfg
      obtain ⟨E, hE⟩ : ∃ E, T f p = E := ⟨_, rfl⟩
      have HE := Lib.hid hE
      have HEO := Lib.hid (hE ▸ H.out.ok.ok f p)
      have HP := Lib.hid hp
      rw [hE] at c1 c2 c3 c4
      obtain ⟨D, hD⟩ : ∃ D, copyA T f g ((pagesN T f).take k) g p = D := ⟨_, rfl⟩
      rw [hD] at d0 d1 d2 d3 d4
      clear hq htu hE hD hm hp hgl hcl hs1 hs2 hs3 hqlt
      go_wp2_with fail
      go_region
      go_wp2_with fail
      go_region
      all_goals
        go_wp2_with fail
        go_roundw
        case rel =>
          refine ⟨k + 1, hlt, by go_num, ?_, ?_⟩
          · have h1 := HQ.out.put g p hg hp32 (layE E.fr E.ri) ⟨HEO.out.f0, HEO.out.f1, HEO.out.r0, HEO.out.r1, fun h => by cases h⟩
            rw [← HE.out, copyA_add, HE.out] at h1
            rw [List.take_add_one, HP.out]
            exact (h1.step ((Below.refl _ _).alloc (Nat.le_refl _) _)).keep rfl
          · exact HT.out.trans ((put_turned wr q g p _ _ _ _ _ [q] (by simp)).trans (Turned.of_below _ ((Below.refl _ _).alloc (Nat.le_refl _) _).drew.drew))
        case measure => simp [intOf]; omega
    · obtain rfl : k = n := by omega
      clear hq htu
      go_wp2_with fail
      go_ret2
      refine ⟨rfl, ?_, ?_⟩
      · have h1 := HQ.out
        rw [List.take_of_length_le (by have := HN.out; omega), copyA_all] at h1
        exact h1
      · exact ((Turned.of_below _ HB1.out).trans (Turned.of_below _ HB2.out)).trans HT.out
end Go.Proofs.YtgkfejnjjoaihaaDoor
