/- What the walks of CpuMoves share. -/
import Derived.Test.YtknepljmbpdpkaaCpaE
import Derived.Deep.QuietTactic
import Derived.BigQuiet
namespace Go.Proofs.Ytknepljmbpdpkaa
open Go.RowKit

theorem MovAt.drew {w V : World} {F B : Nat} {ra : Option Addr} {rc bc p g c2 : Nat} {Ar : Option Addr} {cr : Nat} {m mq : Mem8} {Ad : Option Addr} {dl : List Int} (h : MovAt w V F B ra rc bc p g c2 Ar cr m mq Ad dl) : MovAt w V.drew F B ra rc bc p g c2 Ar cr m mq Ad dl := h.below (Bl.drew (Below.refl _ _))
theorem conv_bytes {w : World} {M : Mem8} {n g : Nat} (hM : M.np = n) (hg : g < w.heap.size) (h : ∀ (j : Nat) (u : Value), (bytesM M)[j]? = some u → w.cell? ⟨g, 0 + j, none⟩ = some u) (c : Nat) :
    (convert 23 9 (.slice (some ⟨g, 0, none⟩) (n * 256) c)).run Try.prog w = .ok (.string (strOfNums (bytesI M))) w := by
  have := conv_string (w := w) (A := some ⟨g, 0, none⟩) (l := bytesI M) (fun _ => ⟨g, 0, rfl, hg, fun j y hj => h j _ (by rw [bytesM_eq, List.getElem?_map, hj]; rfl)⟩) c
  rwa [bytesI_len, hM] at this
theorem conv_q {w V : World} {F B : Nat} {ra : Option Addr} {rc bc p g c2 n : Nat} {Ar : Option Addr} {cr : Nat} {m mq : Mem8} {Ad : Option Addr} {dl : List Int} (h : MovAt w V F B ra rc bc p g c2 Ar cr m mq Ad dl) (hM : mq.np = n) :
    (convert 23 9 (.slice (some ⟨g, 0, none⟩) (n * 256) c2)).run Try.prog V = .ok (.string (strOfNums (bytesI mq))) V :=
  conv_bytes hM h.glt (fun j u hj => by
    have hjl : j < mq.np * 256 := by
      have := (List.getElem?_eq_some_iff.1 hj).1
      rwa [bytesM_eq, List.length_map, bytesI_len] at this
    rw [bytesM_get _ _ hjl] at hj
    cases hj
    rw [Nat.zero_add]
    exact h.cells j hjl) c2
theorem row_head {l : List Int} {j : Nat} {v : Int} (h : l[j]? = some v) : ([] ++ l.map (Value.int .u8) ++ [Value.int .u8 119])[j]? = some (.int .u8 v) := by
  have hj := (List.getElem?_eq_some_iff.1 h).1
  rw [List.nil_append, List.getElem?_append_left (by simpa using hj), List.getElem?_map, h]; rfl
theorem str_119' : strOfNums [119] = ⟨#[119]⟩ := by kernel_rfl
theorem str_snoc8 (l : List Int) : strOfNums (l ++ [119]) = strOfNums l ++ ⟨#[119]⟩ := by
  rw [← str_119']
  apply ByteArray.ext
  simp [strOfNums, ByteArray.data_append]
theorem str_fits (l : List Int) (h : l.length ≤ 3000) : ¬ 9223372036854775807 < (strOfNums l).size + 1 := by
  rw [show (strOfNums l).size = l.length by simp [strOfNums, ByteArray.size]]; omega
theorem cv_row {w : World} {l : List Int} {n g : Nat} (hn : l.length = n) (hg : g < w.heap.size) (h : ∀ (j : Nat) (u : Value), ([] ++ l.map (Value.int .u8) ++ [Value.int .u8 119])[j]? = some u → w.cell? ⟨g, 0 + j, none⟩ = some u) (c : Nat) :
    (convert 23 9 (.slice (some ⟨g, 0, none⟩) (n + 1) c)).run Try.prog w = .ok (.string (strOfNums l ++ ⟨#[119]⟩)) w := by
  have := conv_string (w := w) (A := some ⟨g, 0, none⟩) (l := l ++ [119]) (fun _ => ⟨g, 0, rfl, hg, fun j y hj => h j _ (by
    rw [List.nil_append, show l.map (Value.int .u8) ++ [Value.int .u8 119] = (l ++ [119]).map (Value.int .u8) by simp, List.getElem?_map, hj]; rfl)⟩) c
  rw [(show (l ++ [(119 : Int)]).length = n + 1 by simp [hn])] at this
  rw [this, str_snoc8]
theorem own_pos {w : World} {B n : Nat} {v : Value} {xs : List Value} {e : TypeId} (h : w.ownsRow B e 1 v n xs) (hn : 0 < n) : ∃ g c, v = .slice (some ⟨g, 0, none⟩) n c ∧ B ≤ g ∧ g < w.heap.size ∧ n ≤ c ∧ ∀ (j : Nat) (u : Value), xs[j]? = some u → w.cell? ⟨g, 0 + j, none⟩ = some u := by
  rcases h.2 with ⟨_, hx⟩ | ⟨g, cap, cur, e, hg, hc, hn, -⟩
  · omega
  · refine ⟨g, cap, e, hg, (Array.getElem?_eq_some_iff.1 hc).1, hn, fun j u hj => ?_⟩
    have := h.cells (g := g) (by rw [e]; rfl) j u hj
    rwa [Addr.add_lit] at this
theorem one_cells (w : World) (v : Value) (t : TypeId) : ∀ (j : Nat) (u : Value), [v][j]? = some u → (w.alloc (.cells #[v] t)).cell? ((⟨w.heap.size, 0, none⟩ : Addr).add j) = some u := fun j u h => by
  have hj : j = 0 := by
    have := (List.getElem?_eq_some_iff.1 h).1
    simpa using this
  subst hj
  rw [Addr.add_lit, cell_of_row _ _ _ _ _ _ (heap_alloc_new w _)]
  exact h
theorem wrap_m32 (y : Int) : IntKind.u32.wrap y = m32 y := IntKind.wrap_u32 y
theorem wrap_small (k : Nat) (h : (k : Int) ≤ 3000) : IntKind.u32.wrap (k : Int) = k := by rw [wrap_m32]; exact m32_id (by omega) (by omega)
theorem newE_zero {nb n : Nat} {ri : Nat → Int} (hE : newE nb n ri = 0) : nb ≤ 8192 ∧ n ≤ 32 ∧ anyWrong ri n = false ∧ nb ≤ n * 256 := by
  unfold newE at hE
  by_cases c1 : 8192 < nb
  · rw [if_pos c1] at hE; cases hE
  · rw [if_neg c1] at hE
    by_cases c2 : 32 < n
    · rw [if_pos c2] at hE; cases hE
    · rw [if_neg c2] at hE
      cases hw : anyWrong ri n with
      | true => rw [hw, if_pos rfl] at hE; cases hE
      | false =>
        rw [hw, if_neg (by simp)] at hE
        by_cases c3 : n * 256 < nb
        · rw [if_pos c3] at hE; cases hE
        · exact ⟨by omega, by omega, rfl, by omega⟩
end Go.Proofs.Ytknepljmbpdpkaa
