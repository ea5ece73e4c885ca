/- derive, Derive, Grant. -/
import Derived.Test.YtakgjakcbpdefaaCapI
namespace Go.Proofs.Ytakgjakcbpdefaa
open Go.RowKit
open Go.Maps (Keyed)

theorem derive_new {T : Tab} (h : TabOk T) {a id dst r need : Int} (hn : NeedOk r need) (ht : accB dst = true) (hr : rightsB r = true) (h0 : ownE T.caps a id = 0) (hb : bits .and .i64 (getC T.caps id).rights need = need) :
    TabOk (addT T ⟨0, id, dst, a, (getC T.caps id).kind, (getC T.caps id).object, r⟩) := by
  obtain ⟨ha, c, hf, hc⟩ := own_zero h0
  obtain ⟨hm, e⟩ := find_mem hf
  have hok := h.ok c hm
  have i1 := hok.i1
  have i2 := hok.i2
  have k0 := hok.k0
  have k1 := hok.k1
  have o0 := hok.o0
  have o1 := hok.o1
  rw [accB_iff] at ha ht
  rw [rightsB_iff] at hr
  rw [get_mem hf] at hb ⊢
  refine add_ok h _ ⟨?_, ?_, ?_, ?_, ?_, ?_, ?_, ?_, ?_, ?_, ?_, ?_, ?_, ?_⟩ (.inr ⟨c, hm, e, ?_, rfl, rfl⟩) <;> dsimp only <;> try omega
  rcases hn with rfl | rfl
  · exact bits_derive hok.r0 hok.r1 hr.1 hr.2 hb
  · exact bits_grant hok.r0 hok.r1 hr.1 hr.2 hb
theorem own_ok {w : World} {t b : Nat} {T : Tab} (h : TabAt w t b T) (a id : Int) (hw : (Lit.int .i64 id).wf = true) (h0 : ownE T.caps a id = 0) :
    Calls Try.prog 45 #[.pointer (some ⟨t, 0, none⟩), .int .i64 a, .int .i64 id] w fun e w' => e = .returned (.tuple #[capV (getC T.caps id), .int .i64 0]) ∧ Below w.heap.size w w' := by
  refine (own_any h a id hw).mono ?_
  rintro e w' ⟨⟨c, rfl, hc⟩, hb⟩
  rw [h0, hc h0]
  exact ⟨rfl, hb⟩
set_option maxRecDepth 100000 in
set_option maxHeartbeats 2000000 in
theorem derive_arg {w : World} {t b : Nat} {T : Tab} (h : TabAt w t b T) (a id dst r need : Int) (hb : (accB dst && rightsB r) = false) :
    Calls Try.prog 49 #[.pointer (some ⟨t, 0, none⟩), .int .i64 a, .int .i64 id, .int .i64 dst, .int .i64 r, .int .i64 need] w (MadeOut w t b ⟨T, 0, 2⟩) := by
  have H := Lib.hid h
  have HM := Lib.hid (show ∀ w', w = w' → MadeOut w t b ⟨T, 0, 2⟩ (.returned (.tuple #[.int .i64 0, .int .i64 2])) w' from fun w' e => e ▸ ⟨rfl, h, Turned.refl _ _ _⟩)
  clear h
  have q := Try.qmap
  cases h1 : accB dst
  case' true => rw [h1, Bool.true_and] at hb
  case' false => clear hb
  all_goals
    go_enter Try.func49, Try.ntmps49
    go_wp2_with (first
      | (go_at_call 30; refine (there_any H.out).mono ?_; rintro e w' ⟨rfl, rfl⟩)
      | (go_at_call 47; refine (isAccount_any dst _).mono ?_; rintro e w' ⟨rfl, rfl⟩)
      | (go_at_call 37; refine (areRights_any r _).mono ?_; rintro e w' ⟨rfl, rfl⟩))
    go_ret2
    exact HM.out _ rfl
set_option maxRecDepth 100000 in
set_option maxHeartbeats 2000000 in
theorem derive_own {w : World} {t b : Nat} {T : Tab} (h : TabAt w t b T) (a id dst r need : Int) (hw : (Lit.int .i64 id).wf = true) (h1 : accB dst = true) (h2 : rightsB r = true) (h0 : ownE T.caps a id ≠ 0) :
    Calls Try.prog 49 #[.pointer (some ⟨t, 0, none⟩), .int .i64 a, .int .i64 id, .int .i64 dst, .int .i64 r, .int .i64 need] w (MadeOut w t b ⟨T, 0, ownE T.caps a id⟩) := by
  have H := Lib.hid h
  have HO := Lib.hid (own_any h a id hw)
  have q := Try.qmap
  have hz : (ownE T.caps a id != 0) = true := by simpa [bne] using h0
  generalize ownE T.caps a id = x at HO hz
  clear h hw h0
  go_enter Try.func49, Try.ntmps49
  go_wp2_with (first
    | (go_at_call 30; refine (there_any H.out).mono ?_; rintro e w' ⟨rfl, rfl⟩)
    | (go_at_call 47; refine (isAccount_any dst _).mono ?_; rintro e w' ⟨rfl, rfl⟩)
    | (go_at_call 37; refine (areRights_any r _).mono ?_; rintro e w' ⟨rfl, rfl⟩)
    | (go_at_call 45; refine HO.out.mono ?_; rintro e w1 ⟨⟨c, rfl, -⟩, hb1⟩; have b1 := Lib.hid hb1; clear hb1; unfold capV))
  go_ret2
  have hb := b1.out.alloc b1.out.size (.cells #[.int .i64 c.id, .int .i64 c.parent, .int .i64 c.account, .int .i64 c.maker, .int .i64 c.kind, .int .i64 c.object, .int .i64 c.rights] 43)
  exact ⟨rfl, H.out.step hb, Turned.of_below hb⟩
set_option maxRecDepth 100000 in
set_option maxHeartbeats 2000000 in
theorem derive_more {w : World} {t b : Nat} {T : Tab} (h : TabAt w t b T) (a id dst r need : Int) (hw : (Lit.int .i64 id).wf = true) (h1 : accB dst = true) (h2 : rightsB r = true) (h0 : ownE T.caps a id = 0) (hb : bits .and .i64 (getC T.caps id).rights need ≠ need) :
    Calls Try.prog 49 #[.pointer (some ⟨t, 0, none⟩), .int .i64 a, .int .i64 id, .int .i64 dst, .int .i64 r, .int .i64 need] w (MadeOut w t b ⟨T, 0, 8⟩) := by
  have H := Lib.hid h
  have HO := Lib.hid (own_ok h a id hw h0)
  have q := Try.qmap
  have hz : (bits .and .i64 (getC T.caps id).rights need != need) = true := by simpa [bne] using hb
  have HZ := Lib.hid hz
  clear h hw h0 hb hz
  generalize getC T.caps id = c at HO HZ
  go_enter Try.func49, Try.ntmps49
  go_wp2_with (first
    | (go_at_call 30; refine (there_any H.out).mono ?_; rintro e w' ⟨rfl, rfl⟩)
    | (go_at_call 47; refine (isAccount_any dst _).mono ?_; rintro e w' ⟨rfl, rfl⟩)
    | (go_at_call 37; refine (areRights_any r _).mono ?_; rintro e w' ⟨rfl, rfl⟩)
    | (go_at_call 45; refine HO.out.mono ?_; rintro e w1 ⟨rfl, hb1⟩; have b1 := Lib.hid hb1; have hz := HZ.out; clear hb1; unfold capV))
  go_ret2
  have hb := b1.out.alloc b1.out.size (.cells #[.int .i64 c.id, .int .i64 c.parent, .int .i64 c.account, .int .i64 c.maker, .int .i64 c.kind, .int .i64 c.object, .int .i64 c.rights] 43)
  exact ⟨rfl, H.out.step hb, Turned.of_below hb⟩
set_option maxRecDepth 100000 in
set_option maxHeartbeats 2000000 in
theorem derive_yes {w : World} {t b : Nat} {T : Tab} (h : TabAt w t b T) (hl : T.last < 1000) (a id dst r need : Int) (hw : (Lit.int .i64 id).wf = true) (hn : NeedOk r need) (h1 : accB dst = true) (h2 : rightsB r = true) (h0 : ownE T.caps a id = 0) (hb : bits .and .i64 (getC T.caps id).rights need = need) :
    Calls Try.prog 49 #[.pointer (some ⟨t, 0, none⟩), .int .i64 a, .int .i64 id, .int .i64 dst, .int .i64 r, .int .i64 need] w (MadeOut w t b (addO T ⟨0, id, dst, a, (getC T.caps id).kind, (getC T.caps id).object, r⟩)) := by
  have H := Lib.hid h
  have HO := Lib.hid (own_ok h a id hw h0)
  have q := Try.qmap
  have HA := fun W (hW : Below w.heap.size w W) => Lib.hid (add_any (h.step hW) hl ⟨0, id, dst, a, (getC T.caps id).kind, (getC T.caps id).object, r⟩ (derive_new h.ok hn h1 h2 h0 hb) rfl)
  have hz : (bits .and .i64 (getC T.caps id).rights need != need) = false := by simpa [bne] using hb
  have HZ := Lib.hid hz
  generalize hg : getC T.caps id = g at HA HZ HO ⊢
  unfold capV at HA
  clear h hw h0 hb hz hn hl hg
  go_enter Try.func49, Try.ntmps49
  go_wp2_with (first
    | (go_at_call 30; refine (there_any H.out).mono ?_; rintro e w' ⟨rfl, rfl⟩)
    | (go_at_call 47; refine (isAccount_any dst _).mono ?_; rintro e w' ⟨rfl, rfl⟩)
    | (go_at_call 37; refine (areRights_any r _).mono ?_; rintro e w' ⟨rfl, rfl⟩)
    | (go_at_call 45; refine HO.out.mono ?_; rintro e w1 ⟨rfl, hb1⟩; have b1 := Lib.hid hb1; have hz := HZ.out; clear hb1; unfold capV)
    | (go_at_call 48; refine (HA _ (b1.out.alloc b1.out.size _)).out.mono ?_; rintro e w2 ⟨rfl, hT, hb⟩; have HT := Lib.hid hT; have HB := Lib.hid hb; clear hT hb))
  go_ret2
  exact ⟨rfl, HT.out, (Turned.of_below (b1.out.alloc b1.out.size _)).trans HB.out⟩
theorem derive_any {w : World} {t b : Nat} {T : Tab} (h : TabAt w t b T) (hl : T.last < 1000) (a id dst r need : Int) (hw : (Lit.int .i64 id).wf = true) (hn : NeedOk r need) :
    Calls Try.prog 49 #[.pointer (some ⟨t, 0, none⟩), .int .i64 a, .int .i64 id, .int .i64 dst, .int .i64 r, .int .i64 need] w (MadeOut w t b (deriveO T a id dst r need)) := by
  unfold deriveO
  split
  · rename_i hb
    rw [Bool.and_eq_true] at hb
    split
    · rename_i h0
      split
      · rename_i hbits; exact derive_yes h hl a id dst r need hw hn hb.1 hb.2 h0 hbits
      · rename_i hbits; exact derive_more h a id dst r need hw hb.1 hb.2 h0 hbits
    · rename_i h0; exact derive_own h a id dst r need hw hb.1 hb.2 h0
  · rename_i hb; exact derive_arg h a id dst r need (by simpa using hb)
def grantNeed (r : Int) : Int := bits .or .i64 r 8
theorem Derive_any {w : World} {t b : Nat} {T : Tab} (h : TabAt w t b T) (hl : T.last < 1000) (a id r : Int) (hw : (Lit.int .i64 id).wf = true) :
    Calls Try.prog 24 #[.pointer (some ⟨t, 0, none⟩), .int .i64 a, .int .i64 id, .int .i64 r] w (MadeOut w t b (deriveO T a id a r r)) := by
  have HD := Lib.hid (derive_any h hl a id a r r hw (.inl rfl))
  generalize deriveO T a id a r r = o at HD
  clear h hl hw
  go_enter Try.func24, Try.ntmps24
  go_wp2_with (go_at_call 49; refine HD.out.mono ?_; rintro e w1 ⟨rfl, hT, hb⟩; have HT := Lib.hid hT; have HB := Lib.hid hb; clear hT hb)
  go_ret2
  exact ⟨rfl, HT.out, HB.out⟩
theorem Grant_any {w : World} {t b : Nat} {T : Tab} (h : TabAt w t b T) (hl : T.last < 1000) (a id dst r : Int) (hw : (Lit.int .i64 id).wf = true) :
    Calls Try.prog 26 #[.pointer (some ⟨t, 0, none⟩), .int .i64 a, .int .i64 id, .int .i64 dst, .int .i64 r] w (MadeOut w t b (deriveO T a id dst r (bits .or .i64 r 8))) := by
  have HD := Lib.hid (derive_any h hl a id dst r (bits .or .i64 r 8) hw (.inr rfl))
  generalize deriveO T a id dst r (bits .or .i64 r 8) = o at HD
  clear h hl hw
  go_enter Try.func26, Try.ntmps26
  go_wp2_with (go_at_call 49; refine HD.out.mono ?_; rintro e w1 ⟨rfl, hT, hb⟩; have HT := Lib.hid hT; have HB := Lib.hid hb; clear hT hb)
  go_ret2
  exact ⟨rfl, HT.out, HB.out⟩
end Go.Proofs.Ytakgjakcbpdefaa
