/- Revoke, Drop. -/
import Derived.Test.YtakgjakcbpdefaaCapK
namespace Go.Proofs.Ytakgjakcbpdefaa
open Go.RowKit Go.Sort
open Go.Maps (Keyed)

def idAt (L : List Cap) (k : Nat) : Int := (L.getD k nilC).id
/-- What is there behind the first k deletions. -/
def cutC (S L : List Cap) (k : Nat) : List Cap := S.filter (fun c => !(L.take k).any (fun d => d.id == c.id))
theorem cut_start (S L : List Cap) : cutC S L 0 = S := by unfold cutC; rw [List.filter_eq_self]; intro c _; rfl
theorem cut_step (S L : List Cap) (k : Nat) (hk : k < L.length) : (cutC S L k).filter (fun c => !(c.id == idAt L k)) = cutC S L (k + 1) := by
  unfold cutC
  rw [List.filter_filter]
  congr 1
  funext c
  rw [List.take_add_one, List.getElem?_eq_getElem hk]
  have e : idAt L k = (L[k]).id := by unfold idAt; rw [List.getD_eq_getElem?_getD, List.getElem?_eq_getElem hk]; rfl
  rw [e]
  simp only [Option.toList_some, List.any_append, List.any_cons, List.any_nil, Bool.or_false, Bool.not_or]
  rw [Bool.and_comm]
  congr 2
  by_cases h : c.id = (L[k]).id
  · rw [h]
  · have h1 : (c.id == (L[k]).id) = false := by simpa using h
    have h2 : ((L[k]).id == c.id) = false := by simpa using (fun e => h e.symm)
    rw [h1, h2]
theorem cut_end (S L : List Cap) (hp : S.Pairwise (fun c d => c.id < d.id)) (id : Int) (h : L.Perm (goneC S id)) : cutC S L L.length = leftC S id := by
  unfold cutC leftC
  rw [List.take_length]
  refine List.filter_congr fun c hc => ?_
  congr 1
  rw [Bool.eq_iff_iff, List.any_eq_true]
  constructor
  · rintro ⟨d, hd, e⟩
    have hd' := h.mem_iff.1 hd
    unfold goneC at hd'
    obtain ⟨h1, h2⟩ := List.mem_filter.1 hd'
    rw [← eq_of_beq e]; exact h2
  · intro hu
    exact ⟨c, h.mem_iff.2 (List.mem_filter.2 ⟨hc, hu⟩), by simp⟩
theorem cut_sorted (S L : List Cap) (k : Nat) (hp : S.Pairwise (fun c d => c.id < d.id)) : (cutC S L k).Pairwise (fun c d => c.id < d.id) := hp.sublist List.filter_sublist

/-- A table that is being cut. -/
structure CutAt (w0 w : World) (t b : Nat) (T : Tab) (L : List Cap) (k : Nat) : Prop where
  tab : w.heap[t]? = some (.cells #[.map (some b), .int .i64 (T.last : Int)] 61 (0, 0))
  map : ∃ D : DataW Unit, w.ownsMap Try.prog 2 capE b T.last D ∧ MapIs D (cutC T.caps L k)
  turned : w0.grownBy w (some b)

set_option maxRecDepth 100000 in
set_option maxHeartbeats 2000000 in
theorem revoke_yes {w : World} {t b : Nat} {T : Tab} (h : TabAt w t b T) (hl : T.last ≤ 1000) (a id : Int) (hw : (Lit.int .i64 id).wf = true) (h0 : ownE T.caps a id = 0) :
    Calls Try.prog 21 #[.pointer (some ⟨t, 0, none⟩), .int .i64 a, .int .i64 id] w (MadeOut w t b ⟨⟨leftC T.caps id, T.last⟩, ((goneC T.caps id).length : Int), 0⟩) := by
  have H := Lib.hid h
  have HO := Lib.hid (own_ok h a id hw h0)
  have HLEN := Lib.hid (show T.caps.length ≤ 1000 from Nat.le_trans h.ok.len hl)
  have HD := fun W (hW : Below w.heap.size w W) => Lib.hid (derived_any (h.step hW) hl id)
  have HLAST := Lib.hid hl
  clear h hw h0 hl
  go_enter Try.func21, Try.ntmps21
  go_wp2_with fail
  refine HO.out.mono ?_
  rintro e w1 ⟨rfl, hb1⟩
  have b1 := Lib.hid (hb1.alloc hb1.size (.cells (capL (getC T.caps id)).toArray 43))
  unfold capL at b1
  generalize getC T.caps id = c at b1 ⊢
  clear hb1
  unfold capV
  go_wp2_with fail
  refine (HD _ b1.out).out.mono ?_
  rintro e w2 ⟨v, L, rfl, hrow, hperm, hb2⟩
  have BL2 := Lib.hid (b1.out.trans (hb2.mono b1.out.size))
  have HP := Lib.hid hperm
  have HN := Lib.hid (show L.length ≤ 1000 by have := hperm.length_eq; have h2 := List.length_filter_le (fun c : Cap => isUnder T.caps id c.id) T.caps; have := HLEN.out; unfold goneC at *; omega)
  clear HD HO hperm
  obtain ⟨h1, ⟨rfl, h2⟩ | ⟨g, cap, cur, rfl, h3, h4, h5, h6, h7, h8⟩⟩ := hrow
  · have HZ : goneC T.caps id = [] := by
      have := HP.out; rw [List.length_eq_zero_iff.1 h2] at this; exact this.nil_eq.symm
    have HL : leftC T.caps id = T.caps := by
      unfold leftC; rw [List.filter_eq_self]; intro d hd
      unfold goneC at HZ; rw [List.filter_eq_nil_iff] at HZ
      simpa using HZ d hd
    have HM := Lib.hid (show ∀ w', w2 = w' → MadeOut w t b ⟨⟨leftC T.caps id, T.last⟩, ((goneC T.caps id).length : Int), 0⟩ (.returned (.tuple #[.int .i64 0, .int .i64 0])) w' from fun w' e => by
      subst e; rw [HL, HZ]; exact ⟨rfl, H.out.step BL2.out, Turned.of_below BL2.out⟩)
    clear h1 HZ HL HP
    go_wp2_with fail
    refine wp_loop_rounds 1 ?_
    rw [rounds_succ]
    go_wp2_with fail
    go_ret2
    exact HM.out _ rfl
  · have hgb : g ≠ b := by have := H.out.hb; have := b1.out.size; omega
    have HT2 := Lib.hid ((BL2.out.block t H.out.ht).trans H.out.tab)
    have hcell := Lib.hid (show ∀ k, k < L.length → w2.cell? ⟨g, k, none⟩ = some (.int .i64 (idAt L k)) from fun k hk => by
      rw [cell_of_row _ _ _ _ _ _ h4]
      have e : (cur.toList.take (L.length * 1))[k]? = some (.int .i64 (idAt L k)) := by
        rw [h8, List.getElem?_map, List.getElem?_eq_getElem hk]
        unfold idAt; rw [List.getD_eq_getElem?_getD, List.getElem?_eq_getElem hk]; rfl
      rw [List.getElem?_take_of_lt (by omega)] at e
      simpa using e)
    have hg2 := (Array.getElem?_eq_some_iff.1 h4).1
    have HWF := Lib.hid (show ∀ k, k < L.length → (Lit.int .i64 (idAt L k)).wf = true from fun k hk => by
      have hm : L[k] ∈ T.caps := (List.mem_filter.1 (HP.out.mem_iff.1 (List.getElem_mem hk))).1
      have e : idAt L k = (L[k]).id := by unfold idAt; rw [List.getD_eq_getElem?_getD, List.getElem?_eq_getElem hk]; rfl
      have := (H.out.ok.ok _ hm).i1
      have := (H.out.ok.ok _ hm).i2
      have := HLAST.out
      rw [e]; simp [Lit.wf]; exact ⟨by show (-9223372036854775808 : Int) ≤ _; omega, by omega⟩)
    have HSTART := Lib.hid (show CutAt w2 w2 t b T L 0 from ⟨HT2.out, by rw [cut_start]; obtain ⟨D, d1, d2⟩ := H.out.map; exact ⟨D, ownsMap_eq d1 (BL2.out.block b H.out.hb), d2⟩, World.grownBy.refl w2 _⟩)
    have hn : (L.length : Int) ≤ 1000 := by have := HN.out; omega
    clear h1 h3 h4 h5 h6 h7 h8
    go_wp2_with fail
    go_loopw [28] (fun i wr => ∃ k : Nat, i = .int .i64 k ∧ k ≤ L.length ∧ CutAt w2 wr t b T L k) (fun i _ => L.length - (intOf i).toNat)
    case atStart => exact ⟨0, rfl, Nat.zero_le _, HSTART.out⟩
    case round =>
      obtain ⟨k, rfl, hk, hcut⟩ := hrel
      have HC := Lib.hid hcut
      clear hcut
      by_cases hlt : k < L.length
      · have hlt' : (k : Int) < L.length := by omega
        obtain ⟨D, hown, hD⟩ := HC.out.map
        have HD := Lib.hid hD
        have HOW := Lib.hid hown
        have c0 : wr.cell? ⟨t, 0, none⟩ = some (.map (some b)) := by rw [cell_of_row _ _ _ _ _ _ HC.out.tab]; rfl
        have ck : wr.cell? ⟨g, k, none⟩ = some (.int .i64 (idAt L k)) := by
          rw [← hcell.out k hlt]; unfold World.cell?; rw [HC.out.turned.block g hg2 (fun e => hgb (Option.some.inj e))]
        clear hD hown
        go_wp2_with (at_delete; refine wpList_delete_own _ rfl _ _ 59 2 rfl 43 Try.kid Try.underlying59 capE b T.last D rfl HOW.out _ (.int .i64 (idAt L k)) rfl (Maps.keyOf_int_mk Try.underlying2 (HWF.out k hlt)) ?_; intro w3 hown3 hturn3)
        go_roundw
        case rel =>
          refine ⟨k + 1, by go_num, hlt, ?_, ⟨_, hown3, by rw [← cut_step _ _ _ hlt]; exact HD.out.del (cut_sorted _ _ _ H.out.ok.up) _⟩, HC.out.turned.trans hturn3.grown⟩
          exact (hturn3.grown.block t (Array.getElem?_eq_some_iff.1 HC.out.tab).1 (fun e => H.out.ne (Option.some.inj e))).trans HC.out.tab
        case measure => simp [intOf]; omega
      · have hge : ¬ (k : Int) < L.length := by omega
        go_wp2_with fail
        go_ret2
        have ek : k = L.length := by omega
        have hend := cut_end T.caps L H.out.ok.up id HP.out
        refine ⟨by rw [← HP.out.length_eq]; rfl, ⟨left_ok H.out.ok id, HC.out.tab, ?_⟩, (Turned.of_below BL2.out).trans (Turned.of_grown HC.out.turned)⟩
        have := HC.out.map
        rw [ek, hend] at this
        exact this
theorem Revoke_any {w : World} {t b : Nat} {T : Tab} (h : TabAt w t b T) (hl : T.last ≤ 1000) (a id : Int) (hw : (Lit.int .i64 id).wf = true) :
    Calls Try.prog 21 #[.pointer (some ⟨t, 0, none⟩), .int .i64 a, .int .i64 id] w (MadeOut w t b (revokeO T a id)) := by
  unfold revokeO
  split
  · rename_i h0; exact revoke_yes h hl a id hw h0
  · rename_i h0
    have H := Lib.hid h
    have HO := Lib.hid (own_any h a id hw)
    have hz : (ownE T.caps a id != 0) = true := by simpa [bne] using h0
    generalize ownE T.caps a id = x at HO hz
    clear h hw h0
    go_enter Try.func21, Try.ntmps21
    go_wp2_with (go_at_call 45; refine HO.out.mono ?_; rintro e w1 ⟨⟨c, rfl, -⟩, hb1⟩; have b1 := Lib.hid hb1; clear hb1; unfold capV)
    go_ret2
    have hb := b1.out.alloc b1.out.size (.cells #[.int .i64 c.id, .int .i64 c.parent, .int .i64 c.account, .int .i64 c.maker, .int .i64 c.kind, .int .i64 c.object, .int .i64 c.rights] 43)
    exact ⟨rfl, H.out.step hb, Turned.of_below hb⟩
theorem find_left {T : Tab} (h : TabOk T) {id : Int} (hi : 1 ≤ id) : (goneC T.caps id).length ≤ T.last := Nat.le_trans (List.length_filter_le _ _) h.len
set_option maxRecDepth 100000 in
set_option maxHeartbeats 2000000 in
theorem Drop_any {w : World} {t b : Nat} {T : Tab} (h : TabAt w t b T) (hl : T.last ≤ 1000) (a id : Int) (hw : (Lit.int .i64 id).wf = true) :
    Calls Try.prog 22 #[.pointer (some ⟨t, 0, none⟩), .int .i64 a, .int .i64 id] w (MadeOut w t b (dropO T a id)) := by
  have HR := Revoke_any h hl a id hw
  have HOK := Lib.hid (drop_ok h.ok id)
  have HN : ((goneC T.caps id).length : Int) ≤ 1000 := by have := List.length_filter_le (fun c : Cap => isUnder T.caps id c.id) T.caps; have := h.ok.len; unfold goneC; omega
  have HWF := Lib.hid hw
  unfold revokeO at HR
  unfold dropO
  by_cases h0 : ownE T.caps a id = 0
  · rw [if_pos h0] at HR ⊢
    have HR := Lib.hid HR
    clear h hl hw h0
    go_enter Try.func22, Try.ntmps22
    go_wp2_with fail
    refine HR.out.mono ?_
    rintro e w1 ⟨rfl, hT, hb⟩
    have HT := Lib.hid hT
    have HB := Lib.hid hb
    have c0 := hT.c0
    obtain ⟨D, hown, hD⟩ := hT.map
    have HD := Lib.hid hD
    have HOW := Lib.hid hown
    clear hT hb hD hown
    go_wp2_with (at_delete; refine wpList_delete_own _ rfl _ _ 59 2 rfl 43 Try.kid Try.underlying59 capE b T.last D rfl HOW.out _ (.int .i64 id) rfl (Maps.keyOf_int_mk Try.underlying2 HWF.out) ?_; intro w3 hown3 hturn3)
    go_ret2
    refine ⟨rfl, ⟨HOK.out, (hturn3.grown.block t HT.out.ht (fun e => HT.out.ne (Option.some.inj e))).trans HT.out.tab, _, hown3, HD.out.del HT.out.ok.up _⟩, HB.out.trans (Turned.of_grown hturn3.grown)⟩
  · rw [if_neg h0] at HR ⊢
    have hz : (ownE T.caps a id != 0) = true := by simpa [bne] using h0
    generalize ownE T.caps a id = x at HR hz
    have HR := Lib.hid HR
    clear h hl hw h0
    go_enter Try.func22, Try.ntmps22
    go_wp2_with (go_at_call 21; refine HR.out.mono ?_; rintro e w1 ⟨rfl, hT, hb⟩; have HT := Lib.hid hT; have HB := Lib.hid hb; clear hT hb)
    go_ret2
    exact ⟨rfl, HT.out, HB.out⟩
end Go.Proofs.Ytakgjakcbpdefaa
