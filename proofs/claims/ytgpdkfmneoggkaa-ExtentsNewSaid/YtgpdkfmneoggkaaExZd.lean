/- ExtentsNew: the walk of the law. -/
import Derived.Test.YtgpdkfmneoggkaaExZc
import Derived.Test.YtgpdkfmneoggkaaExM
namespace Go.Proofs.Ytgpdkfmneoggkaa
open Go.RowKit
attribute [local go_sem] Oper.semAt_some

def MuchNil (w : World) (size : Int) (n : Nat) (e : Ending) (w' : World) : Prop := ∃ b : Bool, e = .returned (.bool b) ∧ (b = false → (size ≤ 64 ∨ 4096 < size) ∧ n ≤ 20) ∧ w = w'
theorem much_nil (size : Int) (A : Option Addr) (n c : Nat) (hn : n ≤ 9223372036854775807) (w : World) : Calls Try.prog 8 #[.int .i64 size, .slice A n c, .slice none 0 0] w (MuchNil w size n) := by
  by_cases h1 : 64 < size ∧ size ≤ 4096
  · obtain ⟨h1a, h1b⟩ := h1
    go_enter Try.func8, Try.ntmps8
    go_wp2
    refine wp_loop_rounds 1 ?_
    rw [rounds_succ]
    go_wp2
    go_ret
    exact ⟨true, rfl, (fun h => by cases h), rfl⟩
  · by_cases h2 : 20 < n
    · have h2' : (20 : Int) < (n : Int) := by omega
      by_cases h3 : 64 < size
      · have h4 : ¬ size ≤ 4096 := by omega
        clear h1
        go_enter Try.func8, Try.ntmps8
        go_wp2
        refine wp_loop_rounds 1 ?_
        rw [rounds_succ]
        go_wp2
        go_ret
        exact ⟨true, rfl, (fun h => by cases h), rfl⟩
      · clear h1
        go_enter Try.func8, Try.ntmps8
        go_wp2
        refine wp_loop_rounds 1 ?_
        rw [rounds_succ]
        go_wp2
        go_ret
        exact ⟨true, rfl, (fun h => by cases h), rfl⟩
    · have h2' : ¬ (20 : Int) < (n : Int) := by omega
      have d2 : decide ((20 : Int) < (n : Int)) = false := by simpa using h2'
      by_cases h3 : 64 < size
      · have h4 : ¬ size ≤ 4096 := by omega
        have d4 : decide (size ≤ 4096) = false := by simpa using h4
        clear h1
        go_enter Try.func8, Try.ntmps8
        go_wp2
        refine wp_loop_rounds 1 ?_
        rw [rounds_succ]
        go_wp2
        go_ret
        exact ⟨false, rfl, (fun _ => ⟨.inr (by omega), by omega⟩), rfl⟩
      · have d5 : decide ((64 : Int) < size) = false := by simpa using h3
        clear h1
        go_enter Try.func8, Try.ntmps8
        go_wp2
        refine wp_loop_rounds 1 ?_
        rw [rounds_succ]
        go_wp2
        go_ret
        exact ⟨false, rfl, (fun _ => ⟨.inl (by omega), by omega⟩), rfl⟩
theorem newXt_none (qs : List Int) (n a i : Nat) : ((newXt qs n).pt a).bit i = false := by
  unfold newXt
  dsimp only
  split
  · exact newP_bit _ _ _
  · exact newP_bit 0 0 i
theorem rep_row (n : Nat) : (newD (List.replicate n zeroS) 0).fl = rowC (fun _ => zeroS) n := by
  show List.replicate n zeroS = (List.range n).map fun _ => zeroS
  rw [List.map_const', List.length_range]
set_option maxHeartbeats 8000000 in
set_option maxRecDepth 100000 in
theorem extents_new_law (w : World) (size : Int) (A : Option Addr) (qs : List Int) (n c : Nat) (hn : qs.length = n) (hn2 : n ≤ 9223372036854775807) (hq : IntsIn w A qs) (hA : A = none → n = 0 ∧ c = 0) :
    Calls Try.prog 4 #[.int .i64 size, .slice A n c] w fun e w' => e = .returned (.bool true) ∧ Below w.heap.size w w' := by
  have HQ := Lib.hid hq
  have HN := Lib.hid hn
  clear hq hn
  go_enter Try.func4, Try.ntmps4
  go_wp2_with fail
  go_at_call 8
  refine Calls.mono (much_nil size A n c hn2 w) ?_
  rintro e w1 ⟨b, rfl, hbf, rfl⟩
  cases b with
  | true =>
    clear hbf
    go_wp2_with fail
    go_at_call 9
    refine Calls.mono (xknown_any w) ?_
    rintro e w2 ⟨rfl, hb⟩
    have HB := Lib.hid hb
    clear hb
    go_wp2_with fail
    go_ret
    exact ⟨rfl, HB.out⟩
  | false =>
  obtain ⟨hsz, hn20⟩ := hbf rfl
  have HSZ := Lib.hid hsz
  clear hbf hsz
  go_wp2_with fail
  by_cases h1 : size < 1 ∨ 4096 < size
  · go_at_call 10
    refine Calls.mono (begin_size w size h1 A qs n c HN.out hn20 HQ.out hA) ?_
    rintro e w2 ⟨rfl, hb⟩
    have HB := Lib.hid hb
    clear hb
    go_wp2_with fail
    go_at_call 9
    have bx : Below w2.heap.size w2 (w2.alloc (Obj.cells #[.pointer none, .pointer none, .pointer none] 30)) := (Below.refl _ w2).alloc (Nat.le_refl _) _
    refine Calls.mono (xknown_any _) ?_
    rintro e w3 ⟨rfl, hb⟩
    have HB3 := Lib.hid (HB.out.trans ((bx.trans (hb.mono bx.size)).mono HB.out.size))
    clear hb bx
    go_wp2_with fail
    go_ret
    exact ⟨rfl, HB3.out⟩
  obtain ⟨sz, rfl⟩ : ∃ sz : Nat, size = sz := ⟨size.toNat, by omega⟩
  have hs1 : 1 ≤ sz := by omega
  have hs2 : sz ≤ 4096 := by omega
  by_cases hbad : qs.length < 1 ∨ 8 < qs.length ∨ ∃ q ∈ qs, q < 0
  · go_at_call 10
    refine Calls.mono (begin_arg w sz hs1 hs2 A qs n c HN.out hn20 HQ.out hA hbad) ?_
    rintro e w2 ⟨d, rfl, hb⟩
    have HB := Lib.hid hb
    clear hb
    go_wp2_with fail
    go_at_call 9
    have bx : Below w2.heap.size w2 (w2.alloc (Obj.cells #[.pointer none, .pointer (some ⟨d, 0, none⟩), .pointer none] 30)) := (Below.refl _ w2).alloc (Nat.le_refl _) _
    refine Calls.mono (xknown_any _) ?_
    rintro e w3 ⟨rfl, hb⟩
    have HB3 := Lib.hid (HB.out.trans ((bx.trans (hb.mono bx.size)).mono HB.out.size))
    clear hb bx
    go_wp2_with fail
    go_ret
    exact ⟨rfl, HB3.out⟩
  have hl1 : 1 ≤ n := by rw [HN.out] at hbad; omega
  have hl8 : n ≤ 8 := by rw [HN.out] at hbad; omega
  have hpos : ∀ q ∈ qs, 0 ≤ q := fun q hq => by
    apply Int.le_of_not_gt
    intro hlt
    exact hbad (.inr (.inr ⟨q, hq, hlt⟩))
  by_cases hfull : sz < sumQ qs qs.length
  · go_at_call 10
    refine Calls.mono (begin_full w sz hs1 hs2 A qs n c HN.out hn20 HQ.out hA hl1 hl8 hpos hfull) ?_
    rintro e w2 ⟨d, rfl, hb⟩
    have HB := Lib.hid hb
    clear hb
    go_wp2_with fail
    go_at_call 9
    have bx : Below w2.heap.size w2 (w2.alloc (Obj.cells #[.pointer none, .pointer (some ⟨d, 0, none⟩), .pointer none] 30)) := (Below.refl _ w2).alloc (Nat.le_refl _) _
    refine Calls.mono (xknown_any _) ?_
    rintro e w3 ⟨rfl, hb⟩
    have HB3 := Lib.hid (HB.out.trans ((bx.trans (hb.mono bx.size)).mono HB.out.size))
    clear hb bx
    go_wp2_with fail
    go_ret
    exact ⟨rfl, HB3.out⟩
  · go_at_call 10
    refine Calls.mono (begin_ok w sz hs1 hs2 A qs n c HN.out hn20 HQ.out hA hl1 hl8 hpos (by omega)) ?_
    rintro e w2 ⟨x, d, q, dq, O, L, Y, B, rfl, hE, hX, hQd, hdq, hb⟩
    have bx : Below w2.heap.size w2 (w2.alloc (Obj.cells #[.pointer (some ⟨x, 0, none⟩), .pointer (some ⟨d, 0, none⟩), .pointer (some ⟨q, 0, none⟩)] 30)) := (Below.refl _ w2).alloc (Nat.le_refl _) _
    have S0 := Lib.hid (show Sn (w2.alloc (Obj.cells #[.pointer (some ⟨x, 0, none⟩), .pointer (some ⟨d, 0, none⟩), .pointer (some ⟨q, 0, none⟩)] 30)) O x d L (newXt qs qs.length) (newD (List.replicate sz zeroS) 0) q dq Y B sz w2.heap.size from
      (fun r0 => ⟨hE.step bx, hX.step bx, by obtain ⟨v, b, h1⟩ := hQd; exact ⟨v, b, h1.keep bx⟩, cell_of_row _ _ 0 _ _ _ r0, cell_of_row _ _ 1 _ _ _ r0, cell_of_row _ _ 2 _ _ _ r0⟩) (heap_alloc_new w2 (Obj.cells #[.pointer (some ⟨x, 0, none⟩), .pointer (some ⟨d, 0, none⟩), .pointer (some ⟨q, 0, none⟩)] 30)))
    have B0 := Lib.hid (hb.trans (bx.mono hb.size))
    have HDQ := Lib.hid hdq
    clear hE hX hQd hb bx hdq
    go_wp2_with fail
    go_loopg [7, 8, 9, 10, 11] n (fun g nx i i9 i10 i11 W => ∃ a : Nat, a + g = n ∧ nx = .int .i64 (sumQ qs a : Int) ∧ i = .int .i64 (a : Int) ∧ Sn W O x d L (newXt qs qs.length) (newD (List.replicate sz zeroS) 0) q dq Y B sz w2.heap.size ∧ Below w.heap.size w W)
    case atStart => exact ⟨0, by omega, rfl, rfl, S0.out, B0.out⟩
    case round =>
      obtain ⟨a, ha, rfl, rfl, hS, hB⟩ := hrel
      have Sw := Lib.hid hS
      have Bw := Lib.hid hB
      have c0 := hS.b0
      have c1 := hS.b1
      have c2 := hS.b2
      clear hS hB
      obtain ⟨sa, hsa⟩ : ∃ sa, sumQ qs a = sa := ⟨_, rfl⟩
      have HSA := Lib.hid hsa
      rw [hsa]
      clear hsa
      by_cases hlt : a < n
      · have hlt' : (a : Int) < (n : Int) := by omega
        obtain ⟨qv, hqv⟩ : ∃ qv, qs[a]? = some qv := ⟨_, List.getElem?_eq_getElem (by rw [HN.out]; exact hlt)⟩
        have hq0 := hpos qv (List.mem_of_getElem? hqv)
        obtain ⟨qn, rfl⟩ : ∃ qn : Nat, qv = qn := ⟨qv.toNat, by omega⟩
        have hP := xpart_yes Sw.out.ed.ex a (show a < (newXt qs qs.length).n by show a < qs.length; rw [HN.out]; exact hlt)
        have hpt : (newXt qs qs.length).pt a = newP sa qn := by
          unfold newXt
          dsimp only
          rw [if_pos (by rw [HN.out]; exact hlt), HSA.out, List.getD_eq_getElem?_getD, hqv]
          rfl
        rw [hpt] at hP
        have HP := Lib.hid (show Calls Try.prog 13 #[.pointer (some ⟨x, 0, none⟩), .int .i64 (a : Int)] wr fun e w' => e = .returned (.tuple #[.int .i64 (sa : Int), .int .i64 (qn : Int), .bool true]) ∧ Below wr.heap.size wr w' from hP)
        have HSS := Lib.hid (show sumQ qs (a + 1) = sa + qn by rw [sumQ_succ hqv, HSA.out]; rfl)
        have hsum := sumQ_mono (qs := qs) (show a + 1 ≤ qs.length by rw [HN.out]; omega)
        rw [HSS.out] at hsum
        have hw1 : IntKind.i64.wrap ((sa : Int) + qn) = ((sa + qn : Nat) : Int) := by rw [IntWalk.i64_in _ (by omega)]; push_cast; rfl
        have HJ := Lib.hid hqv
        clear hP hpt hqv hsum
        go_wp2_with fail
        go_at_call 13
        refine Calls.mono HP.out ?_
        rintro e wp ⟨rfl, hb1⟩
        have Sp := Lib.hid (Sw.out.step hb1)
        have Bp := Lib.hid (Bw.out.trans (hb1.mono Bw.out.size))
        clear hb1 c0 c1 c2
        obtain ⟨ga, oa, rfl, hc, -, -⟩ := (HQ.out.step Bp.out) a (qn : Int) HJ.out
        go_wp2_with fail
        go_roundg (n - (a + 1))
        case measure => omega
        case rel => exact ⟨a + 1, by omega, by rw [HSS.out]; first | rfl | (push_cast; rfl) | simp, by go_num, Sp.out, Bp.out⟩
      · obtain rfl : a = n := by omega
        have hlt' : ¬ (a : Int) < (a : Int) := by omega
        go_wp2_with fail
        go_at_call 12
        refine Calls.mono (stands10_none Sw.out.ed Sw.out.qx Sw.out.qd HDQ.out hs1 hs2 (fun b i => newXt_none _ _ b i) (rep_row sz)) ?_
        rintro e wp ⟨rfl, hb1⟩
        have Bp := Lib.hid (Bw.out.trans (hb1.mono Bw.out.size))
        clear hb1 c0 c1 c2
        go_wp2_with fail
        go_at_call 9
        refine Calls.mono (xknown_any _) ?_
        rintro e wk ⟨rfl, hb1⟩
        have Bk := Lib.hid (Bp.out.trans (hb1.mono Bp.out.size))
        clear hb1
        go_wp2_with fail
        go_ret
        exact ⟨rfl, Bk.out⟩
end Go.Proofs.Ytgpdkfmneoggkaa
