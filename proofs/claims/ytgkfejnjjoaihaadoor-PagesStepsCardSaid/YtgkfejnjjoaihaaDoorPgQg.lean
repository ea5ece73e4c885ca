/- The document's Drop. -/
import Derived.Test.YtgkfejnjjoaihaaDoorPgQf
import Derived.Deep.RegionLaw
namespace Go.Proofs.YtgkfejnjjoaihaaDoor
open Go.RowKit
attribute [local go_sem] Oper.semAt_some

theorem cell_one_drew (w : World) (a : Value) (t : TypeId) : ∀ j u, [a][j]? = some u → ((w.alloc (.cells #[a] t)).drew).cell? ((⟨w.heap.size, 0, none⟩ : Addr).add j) = some u := fun j u hj => by
  have hg : (w.alloc (.cells #[a] t)).heap[w.heap.size]? = some (.cells #[a] t (0, 0)) := heap_alloc_new w _
  rw [Addr.add_mid, Nat.zero_add, World.cell?_drew, cell_of_row _ _ _ _ _ _ hg]
  simpa using hj
set_option maxRecDepth 100000 in
set_option maxHeartbeats 2000000 in
theorem q_drop_in {w : World} {q : Nat} {T : Tb} (h : QT w q T) (s : Nat) (hs : s < 16) :
    Calls Tryd.prog 42 #[.pointer (some ⟨q, 0, none⟩), .int .i64 s] w fun e w' => ∃ v : Value, e = .returned (.tuple #[v, .int .i64 0]) ∧ w'.ownsRow w.heap.size 3 1 v (dropL T s 32).length ((dropL T s 32).map intV) ∧ QT w' q (dropK T s 32) ∧ Turned w w' [q] := by
  obtain ⟨i0, hi, hz0, hz1, hz2⟩ := info_parts Tryd.infoI
  have H := Lib.hid h
  have is0 : inB s 0 = true := inB_of hs (by decide)
  have hs' : (s : Int) < 16 := by omega
  have HG := Lib.hid (q_pages h s)
  obtain ⟨n, hn⟩ : ∃ n, (pagesN T s).length = n := ⟨_, rfl⟩
  have HN := Lib.hid hn
  have hLen : (pagesL T s).length = n := by rw [pagesL_nat T s hs, List.length_map]; exact hn
  have hn32 : n ≤ 32 := hn ▸ pagesN_len T s
  rw [dropL_nat]
  clear hn h
  go_enter Tryd.func42, Tryd.ntmps42
  go_wp2_with (first
    | (go_at_call 57; refine (q_in _ _ _).mono ?_; rintro e w1 ⟨rfl, rfl⟩; rw [is0])
    | (go_at_call 56; with_reducible refine HG.out.mono ?_; rintro e w1 ⟨v, rfl, hown, hb⟩; obtain ⟨a2, c2, rfl, hc2⟩ := ints_base hown; have HC2 := Lib.hid hc2; have HB1 := Lib.hid hb; rw [hLen]; clear hown hc2 hb))
  go_loopw [6, 8] (fun v x wr => ∃ k : Nat, k ≤ n ∧ x = .int .i64 k ∧ wr.ownsRow w1.heap.size 3 1 v k ((((pagesN T s).take k).map (fun p => (T s p).fr)).map intV) ∧ QT wr q (dropA T s ((pagesN T s).take k)) ∧ Turned w1 wr [q]) (fun _ x _ => n - (intOf x).toNat)
  case atStart => exact ⟨0, Nat.zero_le _, rfl, ⟨rfl, .inl ⟨rfl, rfl⟩⟩, by rw [List.take_zero, dropA_nil]; exact H.out.step HB1.out, Turned.refl _ _⟩
  case round =>
    obtain ⟨k, hk, rfl, hown, hq, htu⟩ := hrel
    have HQ := Lib.hid hq
    have HT := Lib.hid htu
    have HOWN := Lib.hid hown
    by_cases hlt : k < n
    · have hlt' : (k : Int) < n := by omega
      obtain ⟨p, hp⟩ : ∃ p, (pagesN T s)[k]? = some p := ⟨(pagesN T s)[k]'(by have := HN.out; omega), List.getElem?_eq_getElem _⟩
      have hm := pagesN_mem.1 (List.mem_of_getElem? hp)
      have hp32 := hm.1
      obtain ⟨gl, rfl, hgl, hcl⟩ := HC2.out k p (by rw [pagesL_nat T s hs, List.getElem?_map, hp]; rfl)
      have hqlt := H.out.lt
      have hs1 := HB1.out.size
      have hs3 := htu.size
      have nq : (gl = q) = False := eq_false (by omega)
      have nq' : (q = gl) = False := eq_false (by omega)
      have HCL := Lib.hid (show wr.cell? ⟨gl, k, none⟩ = some (.int .i64 p) from (World.cell?_of_block (w := w1) (w' := wr) (a := ⟨gl, k, none⟩) (htu.block gl hgl.2 (by simp; omega))).trans hcl)
      have cl := HCL.out
      have hnot : p ∉ (pagesN T s).take k := fun hmem => by
        obtain ⟨i, hi, hget⟩ := List.getElem_of_mem hmem
        have hnd := pagesN_nodup T s
        have hil : i < k := by simp at hi; omega
        rw [List.getElem_take] at hget
        have hk2 : k < (pagesN T s).length := by have := HN.out; omega
        have hgk : (pagesN T s)[k] = p := by rw [List.getElem?_eq_getElem hk2] at hp; exact Option.some.inj hp
        have := List.pairwise_iff_getElem.1 hnd i k (by omega) hk2 hil
        exact this (hget.trans hgk.symm)
      have c1 := hq.c1 s p hs hp32
      rw [dropA_at T s _ p hnot] at c1
      have hp' : (p : Int) < 32 := by omega
      have hqr := hq.lt
      have hgr : gl < wr.heap.size := by omega
      obtain ⟨E, hE⟩ : ∃ E, T s p = E := ⟨_, rfl⟩
      have hgl2 := hgl.2
      have HE := Lib.hid hE
      have HP := Lib.hid hp
      have HNOT := Lib.hid hnot
      rw [hE] at c1
      clear hq htu hown hE hm hp hgl hcl hs1 hqlt hnot
      go_wp2_with fail
      go_region_law (refine step_append_own rfl _ _ 73 rfl w1.heap.size 3 i0 (.int .i64 0) 1 8 Tryd.underlying73 hi hz0 hz1 hz2 rfl (by decide) _ _ _ rfl (HOWN.out.alloc (.cells #[.int .i64 E.fr] 3)) ⟨wr.heap.size, 0, none⟩ 1 1 [intV E.fr] rfl rfl (cell_one_drew wr _ _) (by simp [Value.oneCell', intV]) (by unfold maxLen; omega) (by omega) (by simp; omega) ?_; intro v' w3 hown' hg3)
      have hgw : wr.grownBy w3 _ := ⟨hg3.os, hg3.tape, hg3.output, by have := hg3.size; simp at this; omega, fun j hj hn => (hg3.block j (by show j < (wr.alloc _).heap.size; simp; omega) hn).trans (Below.heap_alloc _ _ _ hj)⟩
      have hl := HOWN.out.lt
      have hq3 : QT w3 q (dropA T s ((pagesN T s).take k)) := HQ.out.keep (hgw.block q hqr (fun e => by have := (hl q e.symm).1; have := H.out.lt; have := HB1.out.size; omega))
      have cl3 : w3.cell? ⟨gl, k, none⟩ = some (.int .i64 p) := (World.cell?_of_block (w := wr) (w' := w3) (a := ⟨gl, k, none⟩) (hgw.block gl hgr (fun e => by have := (hl gl e.symm).1; omega))).trans HCL.out
      have d0 := hq3.c0 s p hs hp32
      have d1 := hq3.c1 s p hs hp32
      have d2 := hq3.c2 s p hs hp32
      have d3 := hq3.c3 s p hs hp32
      have d4 := hq3.c4 s p hs hp32
      rw [dropA_at T s _ p HNOT.out, HE.out] at d0 d1 d2 d3 d4
      have fz := hq3.row.fz
      have HT3 := Lib.hid (HT.out.trans2 (w2 := w3) ⟨hgw.os, hgw.tape, hgw.output, hgw.size, fun j hj hn => hgw.block j (by omega) (fun e => by have := (hl j e.symm).1; omega)⟩)
      have HQ3 := Lib.hid hq3
      have HO3 := Lib.hid hown'
      have hq3l := hq3.lt
      have hg3l : gl < w3.heap.size := by have := hgw.size; omega
      clear hg3 hown' hq3 cl c1 hgw hl
      go_wp2_with fail
      go_region
      go_wp2_with fail
      go_roundw
      case rel =>
        refine ⟨k + 1, hlt, by go_num, ?_, ?_, ?_⟩
        · rw [List.take_add_one, HP.out, List.map_append, List.map_append]
          have h1 := owns_turned HO3.out (put_turned w3 q s p (.bool false) (.int .i64 0) (.int .i64 0) (.bool false) (.bool false) [q] (by simp)) (fun g hg => by simp at hg; have := H.out.lt; have := HB1.out.size; omega)
          simpa [HE.out] using owns_below h1 ((Below.refl _ _).drew) (Nat.le_refl _)
        · have h1 := HQ3.out.put s p hs hp32 nilE nilE_ok
          rw [dropA_add] at h1
          rw [List.take_add_one, HP.out]
          exact h1.keep rfl
        · exact (HT3.out.trans (put_turned w3 q s p _ _ _ _ _ [q] (by simp))).trans (Turned.of_below _ ((Below.refl _ _).drew))
      case measure => simp [intOf]; omega
    · obtain rfl : k = n := by omega
      clear hq htu hown
      go_wp2_with fail
      go_ret2
      have hw := HN.out
      have h1 := HOWN.out
      rw [List.take_of_length_le (by omega)] at h1
      refine ⟨_, rfl, ?_, ?_, (Turned.of_below _ HB1.out).trans HT.out⟩
      · rw [List.length_map, hw]
        exact owns_base h1 HB1.out.size
      · have h2 := HQ.out
        rw [List.take_of_length_le (by omega), dropA_all H.out.ok] at h2
        exact h2
end Go.Proofs.YtgkfejnjjoaihaaDoor
