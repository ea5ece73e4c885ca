/- The document's Where. -/
import Derived.Test.YtgkfejnjjoaihaaDoorPgGo
namespace Go.Proofs.YtgkfejnjjoaihaaDoor
open Go.RowKit
attribute [local go_sem] Oper.semAt_some

/-- The spots of the spaces below s, and of s below the page p. -/
def spI (T : Tb) (f : Int) (s p : Nat) : List (Nat × Nat) := spotsTo T f s ++ ((List.range p).filter (hitB T f s)).map fun p => (s, p)
theorem spI_zero (T : Tb) (f : Int) (s : Nat) : spI T f s 0 = spotsTo T f s := by simp [spI]
theorem spI_all (T : Tb) (f : Int) (s : Nat) : spI T f s 32 = spotsTo T f (s + 1) := (spotsTo_succ T f s).symm
theorem spI_yes {T : Tb} {f : Int} {s p : Nat} (h : hitB T f s p = true) : spI T f s (p + 1) = spI T f s p ++ [(s, p)] := by
  unfold spI
  rw [List.range_succ, List.filter_append, List.map_append, ← List.append_assoc]
  congr 1
  simp [h]
theorem spI_no {T : Tb} {f : Int} {s p : Nat} (h : hitB T f s p = false) : spI T f s (p + 1) = spI T f s p := by
  unfold spI
  rw [List.range_succ, List.filter_append, List.map_append]
  simp [h]
theorem spI_len (T : Tb) (f : Int) (s p : Nat) : (spI T f s p).length ≤ 32 * s + p := by
  unfold spI
  rw [List.length_append, List.length_map]
  have h1 := spotsTo_len T f s
  have h2 := List.length_filter_le (hitB T f s) (List.range p)
  rw [List.length_range] at h2
  omega
theorem cell_two_new2 (w : World) (a b : Value) (t : TypeId) : ∀ j u, [a, b][j]? = some u → (w.alloc (.cells #[a, b] t)).cell? ((⟨w.heap.size, 0, none⟩ : Addr).add j) = some u := fun j u hj => by
  rw [Addr.add_mid, Nat.zero_add, cell_of_row _ _ _ _ _ _ (heap_alloc_new w _)]
  simpa using hj
set_option maxRecDepth 100000 in
set_option maxHeartbeats 2000000 in
theorem q_where {w : World} {q : Nat} {T : Tb} (h : QT w q T) (f : Int) :
    Calls Tryd.prog 28 #[.pointer (some ⟨q, 0, none⟩), .int .i64 f] w fun e w' => ∃ v, e = .returned v ∧ w'.ownsRow w.heap.size 52 2 v (spotsTo T f 16).length ((spotsTo T f 16).flatMap spotC) ∧ Below w.heap.size w w' := by
  obtain ⟨i0, hi, hz0, hz1, hz2⟩ := info_parts Tryd.infoSpot
  have H := Lib.hid h
  clear h
  go_enter Tryd.func28, Tryd.ntmps28
  go_wp2_with fail
  go_loopw [5, 6] (fun v x wr => ∃ s : Nat, s ≤ 16 ∧ x = .int .i64 s ∧ wr.ownsRow w.heap.size 52 2 v (spotsTo T f s).length ((spotsTo T f s).flatMap spotC) ∧ Below w.heap.size w wr) (fun _ x _ => 16 - (intOf x).toNat)
  case atStart => exact ⟨0, Nat.zero_le _, rfl, ⟨rfl, .inl ⟨rfl, rfl⟩⟩, Below.refl _ _⟩
  case round =>
    obtain ⟨s, hs, rfl, hrow, hbl⟩ := hrel
    have HR := Lib.hid hrow
    have HB := Lib.hid hbl
    clear hrow hbl
    by_cases hs16 : s < 16
    · have hs' : (s : Int) < 16 := by omega
      go_wp2_with fail
      go_loopw [5, 7] (fun v x wr => ∃ p : Nat, p ≤ 32 ∧ x = .int .i64 p ∧ wr.ownsRow w.heap.size 52 2 v (spI T f s p).length ((spI T f s p).flatMap spotC) ∧ Below w.heap.size w wr) (fun _ x _ => 32 - (intOf x).toNat)
      case atStart => exact ⟨0, Nat.zero_le _, rfl, by rw [spI_zero]; exact HR.out, HB.out⟩
      case round =>
        obtain ⟨p, hp, rfl, hrow, hbl⟩ := hrel
        have HR := Lib.hid hrow
        have HB := Lib.hid hbl
        clear hrow hbl
        by_cases hp32 : p < 32
        · have hp' : (p : Int) < 32 := by omega
          have hq := H.out.step HB.out
          have c0 := hq.c0 s p hs16 hp32
          have c1 := hq.c1 s p hs16 hp32
          have hln := spI_len T f s p
          obtain ⟨E, hE⟩ : ∃ E, T s p = E := ⟨_, rfl⟩
          have hh : hitB T f s p = (E.is && (E.fr == f)) := by unfold hitB; rw [hE]
          rw [hE] at c0 c1
          have HH := Lib.hid hh
          clear hE hh hq
          obtain ⟨fr, ri, tc, wt, is⟩ := E
          cases is with
          | false =>
            have hn : hitB T f s p = false := HH.out
            have HN := Lib.hid hn
            clear hn
            go_wp2_with fail
            go_roundw
            case rel => exact ⟨p + 1, hp32, by go_num, by rw [spI_no HN.out]; exact HR.out, HB.out⟩
            case measure => simp [intOf]; omega
          | true =>
            by_cases hf : fr = f
            · subst hf
              have HY := Lib.hid (show hitB T fr s p = true by rw [HH.out]; simp)
              go_wp2_with (at_builtin; refine wpList_append_own _ rfl _ _ 48 rfl w.heap.size 52 i0 (.agg #[.int .i64 0, .int .i64 0]) 2 16 Tryd.underlying48 hi hz0 hz1 hz2 rfl (by decide) _ _ _ rfl (HR.out.alloc _) ⟨_, 0, none⟩ 1 1 [.int .i64 s, .int .i64 p] rfl rfl (cell_two_new2 _ _ _ _) (by simp [Value.oneCell']) (by unfold maxLen; omega) (by omega) (by have h1 := HB.out.size; simp; omega) ?_; intro v' w3 hown' hg3 hnil3; try go_frame)
              go_roundw
              case rel =>
                refine ⟨p + 1, hp32, by go_num, ?_, ?_⟩
                · rw [spI_yes HY.out, List.length_append, List.flatMap_append]; exact hown'
                · have hb2 := HB.out.alloc (by have h1 := HB.out.size; omega) (.cells #[.int .i64 s, .int .i64 p] 52)
                  exact hb2.grown hg3 (by have h1 := HB.out.size; simp; omega) (fun j hj => (HR.out.lt j hj).1)
              case measure => simp [intOf]; omega
            · have hf' : (fr == f) = false := by simpa using hf
              have HN := Lib.hid (show hitB T f s p = false by rw [HH.out]; simpa using hf)
              go_wp2_with fail
              go_roundw
              case rel => exact ⟨p + 1, hp32, by go_num, by rw [spI_no HN.out]; exact HR.out, HB.out⟩
              case measure => simp [intOf]; omega
        · obtain rfl : p = 32 := by omega
          go_wp2_with fail
          go_roundw
          case rel => exact ⟨s + 1, by omega, by go_num, by rw [← spI_all]; exact HR.out, HB.out⟩
          case measure => simp [intOf]; omega
    · obtain rfl : s = 16 := by omega
      go_wp2_with fail
      go_ret
      exact ⟨_, rfl, HR.out, HB.out⟩
end Go.Proofs.YtgkfejnjjoaihaaDoor
