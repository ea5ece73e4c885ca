/- The chapter's rows. -/
import Derived.Test.YteibholghonajaaFiM
import Derived.Laws.BytesString
import Derived.Laws.BytesArg
import Derived.WalkMore
namespace Go.Proofs.Yteibholghonajaa
open Go.RowKit

def strP (P : List Nat) : ByteArray := strOfNums (P.map fun (x : Nat) => (x : Int))
theorem conv_pk {w : World} {A : Option Addr} {P : List Nat} (h : PkIn w A P) (n c : Nat) (hn : P.length = n) :
    (convert 23 9 (.slice A n c)).run Try.prog w = .ok (.string (strP P)) w := by
  by_cases h0 : n = 0
  · subst h0
    obtain rfl : P = [] := List.eq_nil_of_length_eq_zero hn
    rw [run_convert_bytes_string w 23 9 5 _ _ c Try.underlying23 Try.underlying5 Try.underlying9]
    cases A <;> simp [Conv.bytesToString, loadCells] <;> rfl
  · obtain ⟨-, b, o, rfl, -, -⟩ := h 0 P[0] (List.getElem?_eq_getElem (by omega))
    refine run_convert_bytes_arg w 23 5 Try.underlying23 Try.underlying5 b o _ c (P.map fun (x : Nat) => (x : Int)) (by rw [List.length_map]; exact hn) (fun j hj => ?_) 9 Try.underlying9
    have hj' : j < P.length := by omega
    obtain ⟨-, b', o', e, -, hc⟩ := h j P[j] (List.getElem?_eq_getElem hj')
    cases e
    rw [hc, List.getD_eq_getElem?_getD, List.getElem?_map, List.getElem?_eq_getElem hj']
    rfl
theorem pk_new (w : World) (P : List Nat) (h : ∀ x ∈ P, x < 256) : PkIn (w.alloc (.cells (byL P).toArray 5)) (some ⟨w.heap.size, 0, none⟩) P := fun i x hx => by
  refine ⟨h x (List.mem_of_getElem? hx), w.heap.size, 0, rfl, by simp, ?_⟩
  rw [cell_of_row _ _ _ _ _ _ (heap_alloc_new w _), Nat.zero_add, List.getElem?_toArray]
  unfold byL
  rw [List.getElem?_map, hx]; rfl
theorem fl_own {w : World} {B : Nat} {v : Value} {L : List Ts} (h : w.ownsRow B 52 3 v L.length (rowT L)) : ∃ A c, v = .slice A L.length c ∧ FlIn w A L.length c L := by
  obtain ⟨A, c, rfl, h0, -⟩ := own_form h
  exact ⟨A, c, rfl, ⟨rfl, h0, TsIn.of_own h rfl⟩⟩
theorem ts_new (w : World) (L : List Ts) : TsIn (w.alloc (.cells (rowT L).toArray 52)) (some ⟨w.heap.size, 0, none⟩) L := fun i t ht => by
  have k := fun q hq v (e : (tsL t)[q]? = some v) => cells_new w (rowT L) 52 (i * 3 + q) v ((rowT_at L i t q ht hq).trans e)
  simp only [add_plain, Nat.zero_add] at k
  exact ⟨w.heap.size, 0, rfl, by simp, by rw [Nat.zero_add]; exact k 0 (by omega) _ rfl, by rw [Nat.zero_add]; exact k 1 (by omega) _ rfl, by rw [Nat.zero_add]; exact k 2 (by omega) _ rfl⟩
def kF : List Ts := [⟨1, 240, 16⟩]
def kG : List Ts := [⟨1, 15, 3⟩]
def kN : List Ts := [⟨0, 1, 2⟩]
def kH : List Ts := [⟨0, 255, 3⟩, ⟨1, 240, 16⟩]
theorem k_both : BothR kF kG = (0, [⟨1, 255, 19⟩]) := by decide +kernel
theorem k_apart : ApartR kF kG = (false, 0) := by decide +kernel
theorem k_within : WithinR kF kG = (false, 0) := by decide +kernel
theorem k_never : ApartR kN [] = (true, 0) := by decide +kernel
theorem k_plain : BothR kN [] = (210, []) := by decide +kernel
theorem k_home : BothR kF [⟨0, 255, 3⟩] = (0, kH) := by decide +kernel
theorem k_least : LeastR kH = (0, [3, 16]) := by decide +kernel
theorem k_m1 : matchL kF [0, 17] = true := by decide +kernel
theorem k_m2 : matchL kF [0] = false := by decide +kernel
theorem k_m3 : matchL kF [0, 33] = false := by decide +kernel
theorem k_str : strP [3, 16] = ⟨#[3, 16]⟩ := by kernel_rfl
theorem both_to {w : World} {A B : Option Addr} {n c m d : Nat} {L K : List Ts} (h : FlIn w A n c L) (k : FlIn w B m d K) (h63 : n ≤ 1000000) (k63 : m ≤ 1000000) (code : Int) (T : List Ts) (e : BothR L K = (code, T)) :
    Calls Try.prog 19 #[.slice A n c, .slice B m d] w fun e w' => ∃ A' c', e = .returned (.tuple #[.slice A' T.length c', .int .i64 code]) ∧ FlIn w' A' T.length c' T ∧ Below w.heap.size w w' := by
  refine (both_any h k (by omega) (by omega)).mono ?_
  rw [e]
  rintro e w' ⟨v, rfl, ho, hb⟩
  obtain ⟨A', c', rfl, hf⟩ := fl_own ho
  exact ⟨A', c', rfl, hf, hb⟩
theorem plain_to {w : World} {A : Option Addr} {n c : Nat} {L : List Ts} (h : FlIn w A n c L) (h63 : n ≤ 1000000) (code : Int) (T : List Ts) (e : BothR L [] = (code, T)) :
    Calls Try.prog 14 #[.slice A n c] w fun e w' => ∃ A' c', e = .returned (.tuple #[.slice A' T.length c', .int .i64 code]) ∧ FlIn w' A' T.length c' T ∧ Below w.heap.size w w' := by
  refine (plain_any h (by omega)).mono ?_
  rw [e]
  rintro e w' ⟨v, rfl, ho, hb⟩
  obtain ⟨A', c', rfl, hf⟩ := fl_own ho
  exact ⟨A', c', rfl, hf, hb⟩
theorem home_to {w : World} {A : Option Addr} {n c : Nat} {L : List Ts} (h : FlIn w A n c L) (h63 : n ≤ 1000000) (a : Int) (code : Int) (T : List Ts) (e : BothR L [⟨0, 255, a⟩] = (code, T)) :
    Calls Try.prog 24 #[.int .i64 a, .slice A n c] w fun e w' => ∃ A' c', e = .returned (.tuple #[.slice A' T.length c', .int .i64 code]) ∧ FlIn w' A' T.length c' T ∧ Below w.heap.size w w' := by
  refine (home_any h (by omega) a).mono ?_
  rw [e]
  rintro e w' ⟨v, rfl, ho, hb⟩
  obtain ⟨A', c', rfl, hf⟩ := fl_own ho
  exact ⟨A', c', rfl, hf, hb⟩
theorem least_to {w : World} {A : Option Addr} {n c : Nat} {L : List Ts} (h : FlIn w A n c L) (h63 : n ≤ 1000000) (code : Int) (P : List Nat) (h8 : ∀ x ∈ P, x < 256) (e : LeastR L = (code, P)) :
    Calls Try.prog 15 #[.slice A n c] w fun e w' => ∃ A' c', e = .returned (.tuple #[.slice A' P.length c', .int .i64 code]) ∧ PkIn w' A' P ∧ Below w.heap.size w w' := by
  refine (least_anyF h (by omega)).mono ?_
  rw [e]
  rintro e w' ⟨v, rfl, ho, hb⟩
  obtain ⟨A', c', rfl, -, -⟩ := own_form ho
  exact ⟨A', c', rfl, PkIn.of_own ho rfl h8, hb⟩
theorem be_to {w : World} {e : Ending} {w' : World} {r : Bool × Int} {x : Bool} {c : Int} (h : BEOut r w e w') (hr : r = (x, c)) : e = .returned (.tuple #[.bool x, .int .i64 c]) ∧ Below w.heap.size w w' := by
  subst hr; exact h
structure Kd (w W : World) : Prop where
  f : FlIn W (some ⟨w.heap.size, 0, none⟩) 1 1 kF
  g : FlIn W (some ⟨w.heap.size + 1, 0, none⟩) 1 1 kG
  b : Below w.heap.size w W
theorem Kd.step {w W W' : World} (h : Kd w W) (hb : Below W.heap.size W W') : Kd w W' := ⟨h.f.below hb, h.g.below hb, h.b.trans (hb.mono h.b.size)⟩
theorem Kd.start (w : World) : Kd w ((w.alloc (Obj.cells #[.int .i64 1, .int .i64 240, .int .i64 16] 52)).alloc (Obj.cells #[.int .i64 1, .int .i64 15, .int .i64 3] 52)) := by
  have b1 := (Below.refl w.heap.size w).alloc (Nat.le_refl _) (Obj.cells #[.int .i64 1, .int .i64 240, .int .i64 16] 52)
  have b2 := (Below.refl (w.alloc (Obj.cells #[.int .i64 1, .int .i64 240, .int .i64 16] 52)).heap.size _).alloc (Nat.le_refl _) (Obj.cells #[.int .i64 1, .int .i64 15, .int .i64 3] 52)
  have g := fl_new (w.alloc (Obj.cells #[.int .i64 1, .int .i64 240, .int .i64 16] 52)) ⟨1, 15, 3⟩
  simp only [World.size_alloc] at g
  exact ⟨(fl_new w ⟨1, 240, 16⟩).below b2, g, b1.trans (b2.mono b1.size)⟩
set_option maxHeartbeats 8000000 in
set_option maxRecDepth 100000 in
theorem known_anyF (w : World) : Calls Try.prog 8 #[] w fun e w' => e = .returned (.bool true) ∧ Below w.heap.size w w' := by
  have K0 := Lib.hid (Kd.start w)
  go_enter Try.func8, Try.ntmps8
  go_wp2_with fail
  refine Calls.mono (both_to K0.out.f K0.out.g (by omega) (by omega) _ _ k_both) ?_
  rintro e w1 ⟨Ab, cb, rfl, hfb, hb⟩
  have K1 := Lib.hid (K0.out.step hb)
  have FB := Lib.hid hfb
  clear hfb hb K0
  go_wp2_with fail
  refine Calls.mono (apart_any K1.out.f K1.out.g (by decide) (by decide)) ?_
  rintro e w2 h
  obtain ⟨rfl, hb⟩ := be_to h k_apart
  have K2 := Lib.hid (K1.out.step hb)
  have FB2 := Lib.hid (FB.out.below hb)
  clear hb K1 FB h
  go_wp2_with fail
  refine Calls.mono (within_anyF K2.out.f K2.out.g (by decide) (by decide)) ?_
  rintro e w3 h
  obtain ⟨rfl, hb⟩ := be_to h k_within
  have K3 := Lib.hid (K2.out.step hb)
  have FB3 := Lib.hid (FB2.out.below hb)
  clear hb K2 FB2 h
  go_wp2_with fail
  have b3 := (Below.refl w3.heap.size w3).alloc (Nat.le_refl _) (Obj.cells #[.int .i64 0, .int .i64 1, .int .i64 2] 52)
  refine Calls.mono (never_any (fl_new w3 ⟨0, 1, 2⟩) (by decide)) ?_
  rintro e w4 h
  obtain ⟨rfl, hb⟩ := be_to h k_never
  have b34 := b3.trans (hb.mono b3.size)
  have K4 := Lib.hid (K3.out.step b34)
  have FB4 := Lib.hid (FB3.out.below b34)
  clear hb K3 FB3 h b3 b34
  go_wp2_with fail
  have b3 := (Below.refl w4.heap.size w4).alloc (Nat.le_refl _) (Obj.cells #[.int .i64 0, .int .i64 1, .int .i64 2] 52)
  refine Calls.mono (plain_to (fl_new w4 ⟨0, 1, 2⟩) (by decide) _ _ k_plain) ?_
  rintro e w5 ⟨Ap, cp, rfl, -, hb⟩
  have b34 := b3.trans (hb.mono b3.size)
  have K5 := Lib.hid (K4.out.step b34)
  have FB5 := Lib.hid (FB4.out.below b34)
  clear hb K4 FB4 b3 b34
  go_wp2_with fail
  refine Calls.mono (home_to K5.out.f (by decide) 3 _ _ k_home) ?_
  rintro e w6 ⟨Ah, ch, rfl, hfh, hb⟩
  have K6 := Lib.hid (K5.out.step hb)
  have FB6 := Lib.hid (FB5.out.below hb)
  have FH6 := Lib.hid hfh
  clear hb K5 FB5 hfh
  go_wp2_with fail
  refine Calls.mono (least_to FH6.out (by decide) _ _ (by decide) k_least) ?_
  rintro e w7 ⟨Al, cl, rfl, hpl, hb⟩
  have K7 := Lib.hid (K6.out.step hb)
  have FB7 := Lib.hid (FB6.out.below hb)
  have FH7 := Lib.hid (FH6.out.below hb)
  have PL7 := Lib.hid hpl
  clear hb K6 FB6 FH6 hpl
  go_wp2_with fail
  have b3 := (Below.refl w7.heap.size w7).alloc (Nat.le_refl _) (Obj.cells #[.int .u8 0, .int .u8 17] 5)
  refine Calls.mono (match_any (K7.out.step b3).f.ts 1 1 rfl (by decide) (pk_new w7 [0, 17] (by decide)) rfl (by decide)) ?_
  rw [show matchL kF [0, 17] = true from k_m1]
  rintro e w8 ⟨rfl, hb⟩
  have b34 := b3.trans (hb.mono b3.size)
  have K8 := Lib.hid (K7.out.step b34)
  have FB8 := Lib.hid (FB7.out.below b34)
  have FH8 := Lib.hid (FH7.out.below b34)
  have PL8 := Lib.hid (PL7.out.below b34)
  clear hb K7 FB7 FH7 PL7 b3 b34
  go_wp2_with fail
  have b3 := (Below.refl w8.heap.size w8).alloc (Nat.le_refl _) (Obj.cells #[.int .u8 0] 5)
  refine Calls.mono (match_any (K8.out.step b3).f.ts 1 1 rfl (by decide) (pk_new w8 [0] (by decide)) rfl (by decide)) ?_
  rw [show matchL kF [0] = false from k_m2]
  rintro e w9 ⟨rfl, hb⟩
  have b34 := b3.trans (hb.mono b3.size)
  have K9 := Lib.hid (K8.out.step b34)
  have FB9 := Lib.hid (FB8.out.below b34)
  have FH9 := Lib.hid (FH8.out.below b34)
  have PL9 := Lib.hid (PL8.out.below b34)
  clear hb K8 FB8 FH8 PL8 b3 b34
  go_wp2_with fail
  have b3 := (Below.refl w9.heap.size w9).alloc (Nat.le_refl _) (Obj.cells #[.int .u8 0, .int .u8 33] 5)
  refine Calls.mono (match_any (K9.out.step b3).f.ts 1 1 rfl (by decide) (pk_new w9 [0, 33] (by decide)) rfl (by decide)) ?_
  rw [show matchL kF [0, 33] = false from k_m3]
  rintro e w10 ⟨rfl, hb⟩
  have b34 := b3.trans (hb.mono b3.size)
  have K10 := Lib.hid (K9.out.step b34)
  have FB10 := Lib.hid (FB9.out.below b34)
  have FH10 := Lib.hid (FH9.out.below b34)
  have PL10 := Lib.hid (PL9.out.below b34)
  clear hb K9 FB9 FH9 PL9 b3 b34
  go_wp2_with fail
  have b3 := (Below.refl w10.heap.size w10).alloc (Nat.le_refl _) (Obj.cells #[.int .i64 1, .int .i64 255, .int .i64 19] 52)
  refine Calls.mono (qsame_any (FB10.out.below b3).ts (fl_new w10 ⟨1, 255, 19⟩).ts 1 cb 1 1 rfl rfl (by decide) (by decide)) ?_
  rw [decide_eq_true rfl]
  rintro e w11 ⟨rfl, hb⟩
  have b34 := b3.trans (hb.mono b3.size)
  have K11 := Lib.hid (K10.out.step b34)
  have FH11 := Lib.hid (FH10.out.below b34)
  have PL11 := Lib.hid (PL10.out.below b34)
  clear hb K10 FB10 FH10 PL10 b3 b34
  go_wp2_with fail
  have b3 := (Below.refl w11.heap.size w11).alloc (Nat.le_refl _) (Obj.cells #[.int .i64 0, .int .i64 255, .int .i64 3, .int .i64 1, .int .i64 240, .int .i64 16] 52)
  refine Calls.mono (qsame_any (FH11.out.below b3).ts (ts_new w11 kH) 2 ch 2 2 rfl rfl (by decide) (by decide)) ?_
  rw [decide_eq_true rfl]
  rintro e w12 ⟨rfl, hb⟩
  have b34 := b3.trans (hb.mono b3.size)
  have K12 := Lib.hid (K11.out.step b34)
  have hcv := conv_pk (PL11.out.below b34) 2 cl rfl
  rw [k_str] at hcv
  clear hb K11 FH11 PL11 b3 b34
  go_wp2_with fail
  go_ret
  exact ⟨rfl, K12.out.b⟩
end Go.Proofs.Yteibholghonajaa
