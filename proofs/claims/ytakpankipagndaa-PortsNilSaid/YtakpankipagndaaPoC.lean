/- Copies of packets and of tests; a packet as a text; what a ring does: come, drop. -/
import Derived.Test.YtakpankipagndaaPoB
import Derived.Laws.BytesString
import Derived.Laws.BytesArg
import Derived.WalkMore
import Derived.Deep.RegionHeld3
import Derived.Deep.WholeRow
import Derived.RegionTactic
namespace Go.Proofs.Ytakpankipagndaa
open Go.RowKit
attribute [local go_sem] Oper.semAt_some

theorem byL_one12 (l : List Nat) : ∀ v ∈ byL l, v.oneCell' = true := fun v hv => by
  obtain ⟨x, -, rfl⟩ := List.mem_map.1 hv
  rfl
theorem PkIn.news {w : World} {A : Option Addr} {P : List Nat} (h : PkIn w A P) : ∀ ad, A = some ad → ∀ j u, (byL P)[j]? = some u → w.cell? (ad.add j) = some u := fun ad e j u hu => by
  have hj : j < P.length := by rw [← byL_len]; exact (List.getElem?_eq_some_iff.1 hu).1
  obtain ⟨-, b, o, e2, -, hc⟩ := h j P[j] (List.getElem?_eq_getElem hj)
  rw [e] at e2
  cases e2
  rw [add_plain, hc]
  unfold byL at hu
  rw [List.getElem?_map, List.getElem?_eq_getElem hj] at hu
  exact hu
theorem PkIn.b8 {w : World} {A : Option Addr} {P : List Nat} (h : PkIn w A P) : ∀ x ∈ P, x < 256 := fun x hx => by
  obtain ⟨i, hi, e⟩ := List.getElem_of_mem hx
  exact (h i x (by rw [List.getElem?_eq_getElem hi, e])).1
/-- A row of the call's own. -/
def OwnOut (w : World) (ty sz n : Nat) (cs : List Value) (e : Ending) (w' : World) : Prop := ∃ v, e = .returned v ∧ w'.ownsRow w.heap.size ty sz v n cs ∧ Below w.heap.size w w'
theorem PkF.of_own {w : World} {B : Nat} {v : Value} {P : List Nat} (h : w.ownsRow B 5 1 v P.length (byL P)) (h8 : ∀ x ∈ P, x < 256) : ∃ A c, v = .slice A P.length c ∧ PkF w A P.length c P ∧ Rd (fun k => B ≤ k ∧ k < w.heap.size) A := by
  obtain ⟨A, c, rfl, h0, h1⟩ := own_form h
  refine ⟨A, c, rfl, ⟨rfl, h0, PkIn.of_own h rfl h8⟩, fun b o p e => ?_⟩
  obtain ⟨g, e', hg1, hg2, -⟩ := h1 _ e
  cases e'
  exact ⟨hg1, hg2⟩
theorem FlIn.of_own {w : World} {B : Nat} {v : Value} {L : List Ts} (h : w.ownsRow B 74 3 v L.length (rowT L)) : ∃ A c, v = .slice A L.length c ∧ FlIn w A L.length c L ∧ Rd (fun k => B ≤ k ∧ k < w.heap.size) A := by
  obtain ⟨A, c, rfl, h0, h1⟩ := own_form h
  refine ⟨A, c, rfl, ⟨rfl, h0, TsIn.of_own h rfl⟩, fun b o p e => ?_⟩
  obtain ⟨g, e', hg1, hg2, -⟩ := h1 _ e
  cases e'
  exact ⟨hg1, hg2⟩
set_option maxHeartbeats 1000000 in
set_option maxRecDepth 100000 in
theorem bclone_any {w : World} {A : Option Addr} {n c : Nat} {P : List Nat} (h : PkF w A n c P) (hn : n ≤ 1000000) :
    Calls Try.prog 62 #[.slice A n c] w (OwnOut w 5 1 P.length (byL P)) := by
  obtain ⟨i0, hi, hz0, hz1, hz2⟩ := info_parts Try.inU8t
  have q22 : ∀ (w : World) (a : Option Addr) (n c n' c' : Nat), (binOp .eql 32 (.slice a n c) (.slice none n' c')).run Try.prog w = .ok (.bool a.isNone) w := fun w a n c n' c' => Lib.run_eql_slice_nil w _ _ a n c n' c' Try.underlying32
  have H := Lib.hid h
  cases A with
  | none =>
    obtain ⟨rfl, rfl⟩ := h.nil rfl
    obtain rfl : P = [] := List.eq_nil_of_length_eq_zero h.len
    clear h
    go_enter Try.func62, Try.ntmps62
    go_wp2
    go_ret
    exact ⟨_, rfl, World.ownsRow_nil _ _ _ _, Below.refl _ w⟩
  | some ad =>
    clear h
    go_enter Try.func62, Try.ntmps62
    go_wp2_with (at_builtin; refine wpList_append_own _ rfl _ _ 32 rfl w.heap.size 5 i0 (.int .u8 0) 1 1 Try.underlying32 hi hz0 hz1 hz2 rfl (by decide) _ _ _ rfl (World.ownsRow_made w #[] 0 (Nat.le_refl _) (Nat.zero_le _) rfl) ad n c (byL P) rfl ?qc1 ?qc2 ?qc3 ?qc4 ?qc5 ?qc6 ?_)
    case qc1 => rw [byL_len, H.out.len, Nat.mul_one]
    case qc2 => exact fun j u hj => Lib.cell?_alloc_some _ (H.out.pk.news ad rfl j u hj)
    case qc3 => exact byL_one12 P
    case qc4 => unfold maxLen; omega
    case qc5 => omega
    case qc6 => simp
    intro v' w1 hown hgrow hnil
    go_wp2
    go_ret
    exact ⟨v', rfl, by rw [H.out.len]; simpa using hown, ((Below.refl _ w).alloc (Nat.le_refl _) _).grown hgrow (by simp) (by intro k hk; simp [Value.ownBlock] at hk; omega)⟩
set_option maxHeartbeats 1000000 in
set_option maxRecDepth 100000 in
theorem tclone_any {w : World} {A : Option Addr} {n c : Nat} {L : List Ts} (h : FlIn w A n c L) (hn : n ≤ 1000000) :
    Calls Try.prog 52 #[.slice A n c] w (OwnOut w 74 3 L.length (rowT L)) := by
  obtain ⟨i0, hi, hz0, hz1, hz2⟩ := info_parts Try.inTest
  have q22 : ∀ (w : World) (a : Option Addr) (n c n' c' : Nat), (binOp .eql 31 (.slice a n c) (.slice none n' c')).run Try.prog w = .ok (.bool a.isNone) w := fun w a n c n' c' => Lib.run_eql_slice_nil w _ _ a n c n' c' Try.underlying31
  have H := Lib.hid h
  cases A with
  | none =>
    obtain ⟨rfl, rfl⟩ := h.nil rfl
    obtain rfl : L = [] := List.eq_nil_of_length_eq_zero h.len
    clear h
    go_enter Try.func52, Try.ntmps52
    go_wp2
    go_ret
    exact ⟨_, rfl, World.ownsRow_nil _ _ _ _, Below.refl _ w⟩
  | some ad =>
    clear h
    go_enter Try.func52, Try.ntmps52
    go_wp2_with (at_builtin; refine wpList_append_own _ rfl _ _ 31 rfl w.heap.size 74 i0 (.agg #[.int .i64 0, .int .i64 0, .int .i64 0]) 3 24 Try.underlying31 hi hz0 hz1 hz2 rfl (by decide) _ _ _ rfl (World.ownsRow_made w #[] 0 (Nat.le_refl _) (Nat.zero_le _) rfl) ad n c (rowT L) rfl ?qc1 ?qc2 ?qc3 ?qc4 ?qc5 ?qc6 ?_)
    case qc1 => rw [rowT_len, H.out.len]
    case qc2 => exact fun j u hj => Lib.cell?_alloc_some _ (H.out.ts.news ad rfl j u hj)
    case qc3 => exact rowT_one L
    case qc4 => unfold maxLen; omega
    case qc5 => omega
    case qc6 => simp
    intro v' w1 hown hgrow hnil
    go_wp2
    go_ret
    exact ⟨v', rfl, by rw [H.out.len]; simpa using hown, ((Below.refl _ w).alloc (Nat.le_refl _) _).grown hgrow (by simp) (by intro k hk; simp [Value.ownBlock] at hk; omega)⟩
def strP (P : List Nat) : ByteArray := strOfNums (P.map fun (x : Nat) => (x : Int))
theorem conv_pk {w : World} {A : Option Addr} {P : List Nat} (h : PkIn w A P) (n c : Nat) (hn : P.length = n) :
    (convert 32 9 (.slice A n c)).run Try.prog w = .ok (.string (strP P)) w := by
  by_cases h0 : n = 0
  · subst h0
    obtain rfl : P = [] := List.eq_nil_of_length_eq_zero hn
    rw [run_convert_bytes_string w 32 9 5 _ _ c Try.underlying32 Try.underlying5 Try.underlying9]
    cases A <;> simp [Conv.bytesToString, loadCells] <;> rfl
  · obtain ⟨-, b, o, rfl, -, -⟩ := h 0 P[0] (List.getElem?_eq_getElem (by omega))
    refine run_convert_bytes_arg w 32 5 Try.underlying32 Try.underlying5 b o _ c (P.map fun (x : Nat) => (x : Int)) (by rw [List.length_map]; exact hn) (fun j hj => ?_) 9 Try.underlying9
    have hj' : j < P.length := by omega
    obtain ⟨-, b', o', e, -, hc⟩ := h j P[j] (List.getElem?_eq_getElem hj')
    cases e
    rw [hc, List.getD_eq_getElem?_getD, List.getElem?_map, List.getElem?_eq_getElem hj']
    rfl
end Go.Proofs.Ytakpankipagndaa
