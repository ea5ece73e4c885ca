/- The chapter's rows: known() is true. -/
import Derived.Test.YtakgjakcbpdefaaCapL
namespace Go.Proofs.Ytakgjakcbpdefaa
open Go.RowKit

/-- A table of the call's own. -/
structure TabOwn (w0 w : World) (t b : Nat) (T : Tab) : Prop where
  tab : TabAt w t b T
  below : Below w0.heap.size w0 w
  ht : w0.heap.size ≤ t
  hb : w0.heap.size ≤ b
theorem TabOwn.made {w0 w w' : World} {t b : Nat} {T : Tab} {o : Out} {e : Ending} (h : TabOwn w0 w t b T) (hm : MadeOut w t b o e w') : TabOwn w0 w' t b o.tab :=
  ⟨hm.2.1, h.below.trans (hm.2.2.below h.below.size h.ht h.hb), h.ht, h.hb⟩
theorem TabOwn.step {w0 w w' : World} {t b : Nat} {T : Tab} (h : TabOwn w0 w t b T) (hb : Below w.heap.size w w') : TabOwn w0 w' t b T := ⟨h.tab.step hb, h.below.trans (hb.mono h.below.size), h.ht, h.hb⟩
theorem new_own {w0 w : World} (hb : Below w0.heap.size w0 w) : Calls Try.prog 10 #[] w fun e w' => ∃ t b, e = .returned (.pointer (some ⟨t, 0, none⟩)) ∧ TabOwn w0 w' t b ⟨[], 0⟩ ∧ w.heap.size ≤ t ∧ w.heap.size ≤ b := by
  refine (new_any w).mono ?_
  rintro e w' ⟨rfl, h1, h2⟩
  have := hb.size
  exact ⟨_, _, rfl, ⟨h1, hb.trans (h2.mono hb.size), by omega, by omega⟩, by omega, Nat.le_refl _⟩
/-- What a call of the table's own comes to. -/
def OwnOut (w0 : World) (t b : Nat) (T : Tab) (x y : Int) (e : Ending) (w' : World) : Prop := e = .returned (.tuple #[.int .i64 x, .int .i64 y]) ∧ TabOwn w0 w' t b T
theorem OwnOut.of {w0 w : World} {t b : Nat} {T T' : Tab} {o : Out} {x y : Int} (h : TabOwn w0 w t b T) (ho : o = ⟨T', x, y⟩) {e : Ending} {w' : World} (hm : MadeOut w t b o e w') : OwnOut w0 t b T' x y e w' := by
  have := h.made hm
  subst ho
  exact ⟨hm.1, this⟩
theorem wf_small {x : Int} (h0 : -1000 ≤ x) (h1 : x ≤ 1000) : (Lit.int .i64 x).wf = true := by simp [Lit.wf]; exact ⟨by show (-9223372036854775808 : Int) ≤ _; omega, by omega⟩
theorem root_lit {w0 w : World} {t b : Nat} {T : Tab} (h : TabOwn w0 w t b T) (hl : T.last < 1000) (a k o r : Int) (hk : (Lit.int .i64 k).wf = true) (ho : (Lit.int .i64 o).wf = true) (T' : Tab) (x y : Int) (e : rootO T a k o r = ⟨T', x, y⟩) :
    Calls Try.prog 23 #[.pointer (some ⟨t, 0, none⟩), .int .i64 a, .int .i64 k, .int .i64 o, .int .i64 r] w (OwnOut w0 t b T' x y) := (root_any h.tab hl a k o r hk ho).mono fun _ _ hm => OwnOut.of h e hm
theorem derive_lit {w0 w : World} {t b : Nat} {T : Tab} (h : TabOwn w0 w t b T) (hl : T.last < 1000) (a id r : Int) (hw : (Lit.int .i64 id).wf = true) (T' : Tab) (x y : Int) (e : deriveO T a id a r r = ⟨T', x, y⟩) :
    Calls Try.prog 24 #[.pointer (some ⟨t, 0, none⟩), .int .i64 a, .int .i64 id, .int .i64 r] w (OwnOut w0 t b T' x y) := (Derive_any h.tab hl a id r hw).mono fun _ _ hm => OwnOut.of h e hm
theorem grant_lit {w0 w : World} {t b : Nat} {T : Tab} (h : TabOwn w0 w t b T) (hl : T.last < 1000) (a id d r : Int) (hw : (Lit.int .i64 id).wf = true) (T' : Tab) (x y : Int) (e : deriveO T a id d r (bits .or .i64 r 8) = ⟨T', x, y⟩) :
    Calls Try.prog 26 #[.pointer (some ⟨t, 0, none⟩), .int .i64 a, .int .i64 id, .int .i64 d, .int .i64 r] w (OwnOut w0 t b T' x y) := (Grant_any h.tab hl a id d r hw).mono fun _ _ hm => OwnOut.of h e hm
theorem revoke_lit {w0 w : World} {t b : Nat} {T : Tab} (h : TabOwn w0 w t b T) (hl : T.last ≤ 1000) (a id : Int) (hw : (Lit.int .i64 id).wf = true) (T' : Tab) (x y : Int) (e : revokeO T a id = ⟨T', x, y⟩) :
    Calls Try.prog 21 #[.pointer (some ⟨t, 0, none⟩), .int .i64 a, .int .i64 id] w (OwnOut w0 t b T' x y) := (Revoke_any h.tab hl a id hw).mono fun _ _ hm => OwnOut.of h e hm
theorem drop_lit {w0 w : World} {t b : Nat} {T : Tab} (h : TabOwn w0 w t b T) (hl : T.last ≤ 1000) (a id : Int) (hw : (Lit.int .i64 id).wf = true) (T' : Tab) (x y : Int) (e : dropO T a id = ⟨T', x, y⟩) :
    Calls Try.prog 22 #[.pointer (some ⟨t, 0, none⟩), .int .i64 a, .int .i64 id] w (OwnOut w0 t b T' x y) := (Drop_any h.tab hl a id hw).mono fun _ _ hm => OwnOut.of h e hm
theorem may_lit {w0 w : World} {t b : Nat} {T : Tab} (h : TabOwn w0 w t b T) (a k o r : Int) (x : Bool) (e : mayB T.caps a k o r = x) :
    Calls Try.prog 15 #[.pointer (some ⟨t, 0, none⟩), .int .i64 a, .int .i64 k, .int .i64 o, .int .i64 r] w fun e w' => e = .returned (.bool x) ∧ TabOwn w0 w' t b T := by
  subst e; exact (may_any h.tab a k o r).mono fun _ _ hm => ⟨hm.1, h.step hm.2⟩
theorem over_lit {w0 w : World} {t b : Nat} {T : Tab} (h : TabOwn w0 w t b T) (x y : Int) (hx : (Lit.int .i64 x).wf = true) (hy : (Lit.int .i64 y).wf = true) (v : Bool) (n : Int) (e1 : (bothB T.caps x y && overB T.caps x y) = v) (e2 : (if bothB T.caps x y then 0 else 6 : Int) = n) :
    Calls Try.prog 20 #[.pointer (some ⟨t, 0, none⟩), .int .i64 x, .int .i64 y] w fun e w' => e = .returned (.tuple #[.bool v, .int .i64 n]) ∧ TabOwn w0 w' t b T := by
  subst e1 e2; exact (over_any h.tab x y hx hy).mono fun _ _ hm => ⟨hm.1, h.step hm.2⟩
theorem of_lit {w0 w : World} {t b : Nat} {T : Tab} (h : TabOwn w0 w t b T) (id : Int) (hw : (Lit.int .i64 id).wf = true) (c : Cap) (hc : getC T.caps id = c) (n : Int) (e2 : (if (findC T.caps id).isSome then 0 else 6 : Int) = n) :
    Calls Try.prog 19 #[.pointer (some ⟨t, 0, none⟩), .int .i64 id] w fun e w' => e = .returned (.tuple #[capV c, .int .i64 n]) ∧ TabOwn w0 w' t b T := by
  subst e2 hc
  exact (of_any h.tab id hw _ _ rfl rfl (fun e => get_none (by simpa using e))).mono fun _ _ hm => ⟨hm.1, h.step hm.2⟩
theorem len_lit {w0 w : World} {t b : Nat} {T : Tab} (h : TabOwn w0 w t b T) (n : Int) (e : (T.caps.length : Int) = n) : Calls Try.prog 28 #[.pointer (some ⟨t, 0, none⟩)] w fun e w' => e = .returned (.int .i64 n) ∧ w = w' := by
  subst e; exact len_any h.tab

def k1 : Cap := ⟨1, 0, 0, 0, 1, 5, 15⟩
def k2 : Cap := ⟨2, 1, 0, 0, 1, 5, 3⟩
def k3 : Cap := ⟨3, 1, 2, 0, 1, 5, 1⟩
set_option maxRecDepth 100000 in
set_option maxHeartbeats 2000000 in
theorem known_any (w : World) : Calls Try.prog 9 #[] w fun e w' => e = .returned (.bool true) ∧ Below w.heap.size w w' := by
  have W := fun (x : Int) (h0 : -1000 ≤ x) (h1 : x ≤ 1000) => Lib.hid (wf_small h0 h1)
  go_enter Try.func9, Try.ntmps9
  go_wp2_with fail
  refine (new_own (Below.refl _ w)).mono ?_
  rintro e w0 ⟨t, b, rfl, h0, -, -⟩
  have H0 := Lib.hid h0
  clear h0
  go_wp2_with fail
  refine (root_lit H0.out (by decide) 0 1 5 15 (wf_small (by decide) (by decide)) (wf_small (by decide) (by decide)) ⟨[k1], 1⟩ 1 0 (by kernel_rfl)).mono ?_
  rintro e w1 ⟨rfl, h1⟩
  have H1 := Lib.hid h1
  clear h1 H0
  go_wp2_with fail
  refine (derive_lit H1.out (by decide) 0 1 3 (wf_small (by decide) (by decide)) ⟨[k1, k2], 2⟩ 2 0 (by kernel_rfl)).mono ?_
  rintro e w2 ⟨rfl, h1⟩
  have H2 := Lib.hid h1
  clear h1 H1
  go_wp2_with fail
  refine (grant_lit H2.out (by decide) 0 1 2 1 (wf_small (by decide) (by decide)) ⟨[k1, k2, k3], 3⟩ 3 0 (by kernel_rfl)).mono ?_
  rintro e w3 ⟨rfl, h1⟩
  have H3 := Lib.hid h1
  clear h1 H2
  go_wp2_with fail
  refine (derive_lit H3.out (by decide) 2 3 2 (wf_small (by decide) (by decide)) ⟨[k1, k2, k3], 3⟩ 0 8 (by kernel_rfl)).mono ?_
  rintro e w4 ⟨rfl, h1⟩
  have H4 := Lib.hid h1
  clear h1 H3
  go_wp2_with fail
  refine (over_lit H4.out 1 3 (wf_small (by decide) (by decide)) (wf_small (by decide) (by decide)) true 0 (by kernel_rfl) (by kernel_rfl)).mono ?_
  rintro e w5 ⟨rfl, h1⟩
  have H5 := Lib.hid h1
  clear h1 H4
  go_wp2_with fail
  refine (over_lit H5.out 2 3 (wf_small (by decide) (by decide)) (wf_small (by decide) (by decide)) false 0 (by kernel_rfl) (by kernel_rfl)).mono ?_
  rintro e w6 ⟨rfl, h1⟩
  have H6 := Lib.hid h1
  clear h1 H5
  go_wp2_with fail
  refine (may_lit H6.out 2 1 5 1 true (by kernel_rfl)).mono ?_
  rintro e w7 ⟨rfl, h1⟩
  have H7 := Lib.hid h1
  clear h1 H6
  go_wp2_with fail
  refine (may_lit H7.out 2 1 5 2 false (by kernel_rfl)).mono ?_
  rintro e w8 ⟨rfl, h1⟩
  have H8 := Lib.hid h1
  clear h1 H7
  go_wp2_with fail
  refine (grant_lit H8.out (by decide) 0 2 1 1 (wf_small (by decide) (by decide)) ⟨[k1, k2, k3], 3⟩ 0 8 (by kernel_rfl)).mono ?_
  rintro e w9 ⟨rfl, h1⟩
  have H9 := Lib.hid h1
  clear h1 H8
  go_wp2_with fail
  refine (revoke_lit H9.out (by decide) 0 1 (wf_small (by decide) (by decide)) ⟨[k1], 3⟩ 2 0 (by kernel_rfl)).mono ?_
  rintro e w10 ⟨rfl, h1⟩
  have H10 := Lib.hid h1
  clear h1 H9
  go_wp2_with fail
  refine (may_lit H10.out 2 1 5 1 false (by kernel_rfl)).mono ?_
  rintro e w11 ⟨rfl, h1⟩
  have H11 := Lib.hid h1
  clear h1 H10
  go_wp2_with fail
  refine (drop_lit H11.out (by decide) 0 1 (wf_small (by decide) (by decide)) ⟨[], 3⟩ 1 0 (by kernel_rfl)).mono ?_
  rintro e w12 ⟨rfl, h1⟩
  have H12 := Lib.hid h1
  clear h1 H11
  go_wp2_with fail
  refine (of_lit H12.out 1 (wf_small (by decide) (by decide)) nilC rfl 6 rfl).mono ?_
  rintro e w13 ⟨rfl, h1⟩
  have H13 := Lib.hid (h1.step ((Below.refl _ w13).alloc (Nat.le_refl _) (.cells #[.int .i64 0, .int .i64 0, .int .i64 0, .int .i64 0, .int .i64 0, .int .i64 0, .int .i64 0] 43)))
  clear h1 H12
  unfold capV nilC
  go_wp2_with fail
  refine (len_lit H13.out 0 rfl).mono ?_
  rintro e w14 ⟨rfl, rfl⟩
  go_wp2_with fail
  go_ret
  exact ⟨rfl, H13.out.below⟩
end Go.Proofs.Ytakgjakcbpdefaa
