/- A sector's flushed bytes; no bytes as a text. -/
import Derived.Test.YtgpdkfmneoggkaaExT
import Derived.Lib.Slices
namespace Go.Proofs.Ytgpdkfmneoggkaa
open Go.RowKit
attribute [local go_sem] Oper.semAt_some

/-- A copy of a sector's bytes. -/
def CloneSec (w : World) (c : Sec) (e : Ending) (w' : World) : Prop := ∃ g k, e = .returned (.slice (some ⟨g, 0, none⟩) 128 k) ∧ w.heap.size ≤ g ∧ g < w'.heap.size ∧ w'.rangeAt g 0 (secL c) ∧ (∀ o, w'.frozen? ⟨g, o, none⟩ = false) ∧ Below w.heap.size w w'
set_option maxHeartbeats 1000000 in
set_option maxRecDepth 100000 in
theorem clone_sec9 {w : World} {b off : Nat} {c : Sec} (hc : w.rangeAt b off (secL c)) (hok : SecOk c) (k : Nat) : Calls Try.prog 76 #[.slice (some ⟨b, off, none⟩) 128 k] w (CloneSec w c) := by
  obtain ⟨i0, hi, hz0, hz1, hz2⟩ := info_parts Try.infoU8k
  have hz2 : i0.bytes = 1 := hz2
  have q22 : ∀ (w : World) (a : Option Addr) (n c n' c' : Nat), (binOp .eql 34 (.slice a n c) (.slice none n' c')).run Try.prog w = .ok (.bool a.isNone) w := fun w a n c n' c' => Lib.run_eql_slice_nil w _ _ a n c n' c' Try.underlying34
  have HC := Lib.hid hc
  have HOK := Lib.hid hok
  clear hc hok
  go_enter Try.func76, Try.ntmps76
  go_wp2_with (at_builtin; refine wpList_append_own _ rfl _ _ 34 rfl w.heap.size 5 i0 (.int .u8 0) 1 1 Try.underlying34 hi hz0 hz1 hz2 rfl (by decide) _ _ _ rfl (World.ownsRow_made w #[] 0 (Nat.le_refl _) (Nat.zero_le _) rfl) ⟨b, off, none⟩ 128 k (secL c) rfl ?qc1 ?qc2 ?qc3 ?qc4 ?qc5 ?qc6 ?_)
  case qc1 => rw [secL_len HOK.out]
  case qc2 =>
    intro j u hj
    rw [Addr.add_lit]
    exact Lib.cell?_alloc_some _ (HC.out j u hj)
  case qc3 => exact secL_one
  case qc4 => unfold maxLen; omega
  case qc5 => omega
  case qc6 => simp
  intro v' w1 hown hgrow hnil
  rcases hown.2 with ⟨e, -⟩ | ⟨g, cap, cur, rfl, hg, hcg, -, -, -, -⟩
  · exact absurd e hnil
  · have HRG := Lib.hid (show w1.rangeAt g 0 (secL c) from fun j v hj => by
      have := hown.cells (g := g) rfl j v (by simpa using hj)
      rwa [Addr.add_lit] at this)
    have HCG := Lib.hid hcg
    have HG := Lib.hid hg
    have HGR := Lib.hid hgrow
    clear hown hgrow hnil hcg
    go_wp2
    go_ret
    exact ⟨g, cap, rfl, HG.out, (Array.getElem?_eq_some_iff.1 HCG.out).1, HRG.out, fun o => frozen_of_row _ _ _ _ _ HCG.out, ((Below.refl _ w).alloc (Nat.le_refl _) _).grown HGR.out (by simp) (by intro k hk; simp [Value.ownBlock] at hk; omega)⟩
set_option maxHeartbeats 1000000 in
set_option maxRecDepth 100000 in
theorem flushed_yes9 {w : World} {O : Nat → Prop} {d : Nat} {L : Lay9} {s : Dk} (h : DkAt w O d L s) (i : Nat) {c : Sec} (hi : s.fl[i]? = some c) : Calls Try.prog 61 #[.pointer (some ⟨d, 0, none⟩), .int .i64 (i : Int)] w (SecOut w c) := by
  have hil : i < s.fl.length := (List.getElem?_eq_some_iff.1 hi).1
  have HA := Lib.hid (ask_any9 h i)
  rw [has_yes9 hil, if_pos rfl] at HA
  have HR := Lib.hid (row_range h.row h.ok.f hi)
  have HOK := Lib.hid (h.ok.f c (List.mem_of_getElem? hi))
  have hc0 := h.c0
  have hii : (i : Int) < s.fl.length := by omega
  clear h
  go_enter Try.func61, Try.ntmps61
  go_wp2_with (first
    | (go_at_call 75; refine HA.out.mono ?_; rintro e w' ⟨rfl, rfl⟩)
    | (go_at_call 76; refine (clone_sec9 HR.out HOK.out _).mono ?_; rintro e w1 ⟨g, k, rfl, hg, hg1, hr, hf, hb⟩; have HZ := Lib.hid (And.intro hg (And.intro hg1 (And.intro hr (And.intro hf hb)))); clear hg hg1 hr hf hb))
  go_ret2
  exact ⟨g, k, rfl, HZ.out⟩
theorem conv_nil9 (w : World) : (convert 34 9 (.slice none 0 0)).run Try.prog w = .ok (.string ByteArray.empty) w := by
  kernel_rfl
end Go.Proofs.Ytgpdkfmneoggkaa
