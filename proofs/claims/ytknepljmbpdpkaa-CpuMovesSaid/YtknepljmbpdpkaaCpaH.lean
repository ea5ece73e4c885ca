/- The law CpuMoves, where Load is asked for a negative count. -/
import Derived.Test.YtknepljmbpdpkaaCpaFH
import Derived.Deep.QuietTactic
import Derived.BigQuiet
namespace Go.Proofs.Ytknepljmbpdpkaa
open Go.RowKit

set_option maxHeartbeats 8000000 in
set_option maxRecDepth 100000 in
theorem moves_neg_yes {w : World} {Ab Ar Ad : Option Addr} {l dl : List Int} {cb n cr cd : Nat} {ri : Nat → Int} (hl : SrcBytes w Ab l) (hl01 : ∀ v ∈ l, 0 ≤ v ∧ v < 256) (hr : IntsIn w Ar n ri) (hd : SrcBytes w Ad dl) (hd01 : ∀ v ∈ dl, 0 ≤ v ∧ v < 256) (hdn : Ad = none → dl.length = 0 ∧ cd = 0)
    (x r : Int) (x0 : 0 ≤ x) (x1 : x < 4294967296) (hd3 : dl.length ≤ 3000) (hE : newE l.length n ri = 0) (N : Int) (hN : N < 0) (hS : (mayT (mem0 l n ri) 2 dl.length x).2 = true) :
    Calls Try.prog 6 #[.slice Ab l.length cb, .slice Ar n cr, .int .u32 x, .int .i64 N, .int .i64 r, .slice Ad dl.length cd] w fun e w' => e = .returned (.bool true) ∧ Below w.heap.size w w' := by
  have hc : l.length ≤ 8192 ∧ n ≤ 32 ∧ anyWrong ri n = false ∧ l.length ≤ n * 256 := newE_zero hE
  obtain ⟨k1, k2, k3, k4⟩ := hc
  obtain ⟨i0, hi, hi0, hi1, hi2⟩ := info_parts Try.infoU8
  have HN := Lib.hid (new_yes8 hl hl01 hr cb cr k1 k2 k3 k4)
  have HS := Lib.hid hS
  have HDN := Lib.hid hdn
  have H01 := Lib.hid hd01
  have HR := Lib.hid hr
  have HD := Lib.hid hd
  obtain ⟨nb, hnb⟩ : ∃ nb, l.length = nb := ⟨_, rfl⟩
  obtain ⟨nd, hnd⟩ : ∃ nd, dl.length = nd := ⟨_, rfl⟩
  have HND := Lib.hid hnd
  rw [hnb] at HN ⊢
  rw [hnd] at hd3 HS HDN ⊢
  have hd3' : (nd : Int) ≤ 3000 := by omega
  have hN' : (N : Int) ≤ 3000 := by omega
  have hNd : decide (N < 0) = true := by simpa using hN
  clear hl hr hd hE hS hdn hd01 hl01 hnb hnd k1 k3 k4
  go_enter Try.func6, Try.ntmps6
  go_wp2_with ((first
    | (go_at_call 17; refine HN.out.mono ?_; rintro e w1 ⟨F, B, ra, rc, rfl, hf, gF, gB, gR, hb⟩; have HF := Lib.hid hf; have HB := Lib.hid hb; have HBB := Lib.hid gB; have HRG := Lib.hid gR; clear hf hb gF gB gR)
    | (go_at_call 14; refine (fbytes_any HF.out).mono ?_; rintro e w2 ⟨v2, rfl, ho, hne, hb⟩; obtain ⟨g, c2, rfl, hg1, hg2, hg3, hgc⟩ := own_some ho hne; have HO := Lib.hid ho; have HB2 := Lib.hid hb; clear ho hne hb hgc
       have hmv : MovAt w (w2.alloc (.cells #[.slice (some ⟨g, 0, none⟩) (n * 256) c2, .slice Ar n cr] 46)) F B ra rc (n * 256) w2.heap.size g c2 Ar cr (mem0 l n ri) (mem0 l n ri) Ad dl :=
         { fl := (HF.out.below HB2.out).below ((Below.refl _ w2).alloc (Nat.le_refl _) _)
           q := q_of_own (w := w2) (Ar := Ar) (cr := cr) (ri := ri) (m := mem0 l n ri) HF.out.ok rfl HO.out ((HR.out.below HB.out).below HB2.out) (fun i hi => by have hi : i < n := hi; show (if i < n then ri i else 0) = ri i; rw [if_pos hi]) 46
           d := ((HD.out.below HB.out).below HB2.out).below ((Below.refl _ w2).alloc (Nat.le_refl _) _)
           bw := Bl.alloc (Bl.step HB.out HB2.out) _
           i1 := fun hp => by
             obtain ⟨b, o, e, l1, c⟩ := HR.out hp
             exact ⟨b, o, e, l1, fun j hj => by have hj : j < n := hj; rw [show (mem0 l n ri).ri j = ri j by show (if j < n then ri j else 0) = ri j; rw [if_pos hj]]; exact c j hj⟩
           d1 := HD.out
           gB := HBB.out
           Bg := Nat.lt_of_lt_of_le HF.out.bl hg1
           Bp := Nat.lt_of_lt_of_le HF.out.bl (by have := HB2.out.size; exact this)
           Fg := Nat.lt_of_lt_of_le HF.out.fl hg1
           gp := hg2
           rg := fun b o e => Nat.lt_of_lt_of_le (HRG.out b o e).2 hg1
           fz := fun k => (World.frozen?_of_block (w := w2) (((Below.refl _ w2).alloc (Nat.le_refl _) _).block g hg2)).trans (own_fz HO.out k) }
       have hpp : w2.heap.size < (w2.alloc (.cells #[.slice (some ⟨g, 0, none⟩) (n * 256) c2, .slice Ar n cr] 46)).heap.size := by simp)
    | fail))
  change Calls _ _ _ (w2.alloc (.cells #[.slice (some ⟨g, 0, none⟩) (n * 256) c2, .slice Ar n cr] 46)) _
  obtain ⟨m, hm⟩ : ∃ m, mem0 l n ri = m := ⟨_, rfl⟩
  have hnp : m.np = n := by rw [← hm]; rfl
  rw [hm] at hmv HS
  generalize w2.alloc (.cells #[.slice (some ⟨g, 0, none⟩) (n * 256) c2, .slice Ar n cr] 46) = W at hmv hpp ⊢
  generalize w2.heap.size = p at hmv hpp ⊢
  change Calls _ _ #[ifV F, _, _, _] _ _
  clear hm HN HF HB HBB HRG HO HB2 hg1 hg2 hg3
  refine (load_neg F x N r hN).mono ?_
  rintro e V ⟨rfl, rfl⟩
  have HV5 := Lib.hid hmv
  clear hmv
  go_wp2_with (first
    | (at_builtin; refine app_opt8 rfl _ _ 23 rfl W.heap.size 5 i0 (.int .u8 0) 1 1 Try.underlying23 hi hi0 hi1 hi2 rfl (by decide) (.slice none 0 0) 0 [] rfl (World.ownsRow_nil ..) Ad nd cd (dl.map (Value.int .u8)) rfl HDN.out (by simp [HND.out]) (src_news HV5.out.d) (by intro v hv; obtain ⟨y, -, rfl⟩ := List.mem_map.1 hv; rfl) (by unfold maxLen; omega) (by omega) (Nat.le_refl _) ?_; intro v4 V4 ho4 hg4; have HB4 := Lib.hid (show Below W.heap.size W V4 from (Below.refl W.heap.size W).grown hg4 (Nat.le_refl _) (fun k e => by cases e)); have HO4 := Lib.hid ho4; have hz4 := HB4.out.size; clear ho4 hg4)
    | (at_builtin; refine wpList_append_own _ rfl _ _ 23 rfl W.heap.size 5 i0 (.int .u8 0) 1 1 Try.underlying23 hi hi0 hi1 hi2 rfl (by decide) v4 (0 + nd) ([] ++ dl.map (Value.int .u8)) rfl (HO4.out.alloc _) ⟨V4.heap.size, 0, none⟩ 1 1 [.int .u8 119] rfl rfl (one_cells V4 _ _) (by simp [Value.oneCell']) (by unfold maxLen; omega) (by omega) (by simp; omega) ?_; intro v5 V5 ho5 hg5 _; have HB5 := Lib.hid (show Below W.heap.size W V5 from (Bl.alloc HB4.out _).grown hg5 (by simp; omega) (fun k e => (HO4.out.lt k e).1)); obtain ⟨g5, k5, rfl, hg5a, hg5b, hg5c, hg5d⟩ := own_pos ho5 (by omega); have hz5 := HB5.out.size; have HV6 := Lib.hid (HV5.out.below HB5.out); have HG5 := Lib.hid hg5d; have hgl := HV5.out.glt; have hBg := HV5.out.Bg; have HST := store_yes8 HV6.out.fl x g5 0 k5 dl ⟨by omega, hg5b, fun j v hj => HG5.out j _ (row_head hj), H01.out⟩ x0 x1 (by rw [HND.out]; omega) (by rw [HND.out]; exact HS.out); rw [HND.out] at HST; have HST := Lib.hid HST; clear ho5 hg5 hg5d)
    | (go_at_call 20; refine HST.out.mono ?_; rintro e V7 ⟨rfl, hf7, ht7, hz7⟩; have HV7 := Lib.hid (HV6.out.stored hf7 ht7); have h11 := turned_keep ht7 hg5b (show g5 ≠ B by omega); have hg7 : g5 < V7.heap.size := Nat.lt_of_lt_of_le hg5b ht7.size; clear hf7 ht7; have HQ2 := qfirst_any HV7.out.q x 2 nd x0 x1 (by omega); rw [HS.out, mayT_fst HS.out] at HQ2; have cv1 := cv_row (w := V7) (l := dl) (n := nd) HND.out (g := g5) hg7 (fun j u hj => (h11 (0 + j)).trans (HG5.out j u hj)) k5; have cv2 := conv_string HV7.out.d cd; rw [HND.out] at cv2; have hs5 := str_fits dl (by rw [HND.out]; exact hd3); generalize strOfNums dl = sd at cv1 cv2 hs5)
    | (go_at_call 19; refine HQ2.mono ?_; rintro e w' ⟨rfl, rfl⟩))
  have HMS := Lib.hid (mayT_all x0 x1 HS.out)
  clear cv1 cv2 hs5 h11 HQ2
  go_loopw [25] (fun i wr => ∃ k : Nat, k ≤ nd ∧ i = .int .i64 k ∧ MovAt w wr F B ra rc (n * 256) p g c2 Ar cr (storeM m x dl) (storeM m x (dl.take k)) Ad dl) (fun i _ => nd - (intOf i).toNat)
  case atStart => exact ⟨0, Nat.zero_le _, rfl, HV7.out⟩
  case round =>
    obtain ⟨k, hk, rfl, hmv⟩ := hrel
    by_cases hlt : k < nd
    · have hlt' : decide (k < nd) = true := by simpa using hlt
      have hlt2 : (k : Int) < nd := by omega
      have hk2 : (k : Int) ≤ 3000 := by omega
      have hdl := HND.out
      obtain ⟨v, hv⟩ : ∃ v, dl[k]? = some v := ⟨_, List.getElem?_eq_getElem (by omega)⟩
      have HV01 := Lib.hid (H01.out v (List.mem_of_getElem? hv))
      obtain ⟨db, dof, hAd, -, hdc⟩ := hmv.d (by omega)
      have dc := hdc k v hv
      have hhas := may_has (HMS.out k hlt)
      have hy0 := m32_0 (x + (k : Int))
      have hy1 : m32 (x + (k : Int)) < (n : Int) * 256 := by unfold Mem8.has at hhas; rw [hnp] at hhas; simpa using hhas
      have hs1 : IntKind.u32.wrap (k : Int) = k := wrap_small k (by omega)
      have hs2 : IntKind.u32.wrap (x + (k : Int)) = m32 (x + (k : Int)) := wrap_m32 _
      have hnq : (storeM m x (dl.take k)).np = n := by rw [(storeM_np _ m x).1, hnp]
      have gq := hmv.q.c0
      rw [hnq] at gq
      have gi := hmv.cells (m32 (x + (k : Int))).toNat (by rw [hnq]; omega)
      have gf := hmv.fz (m32 (x + (k : Int))).toNat
      have HT := Lib.hid (storeM_take m x dl k v hv x0 x1)
      have HNX := Lib.hid (hmv.setq (m32 (x + (k : Int))) (by rw [hnq]; omega) v HV01.out.1 HV01.out.2)
      rw [← HT.out] at HNX
      generalize m32 (x + (k : Int)) = y at hy0 hy1 hs2 gi gf HNX
      clear hmv hhas hdc hv HT hnq
      subst hAd
      go_wp2
      go_region
      go_wp2
      go_roundw
      case rel => exact ⟨k + 1, hlt, by go_num, HNX.out.drew⟩
      case measure => simp [intOf]; omega
    · obtain rfl : k = nd := by omega
      have hlt' : decide (k < k) = false := by simp
      rw [List.take_of_length_le (by have := HND.out; omega)] at hmv
      have hMn : (storeM m x dl).np = n := by rw [(storeM_np _ m x).1, hnp]
      generalize storeM m x dl = M at hmv hMn
      have q0 := hmv.q.c0
      rw [hMn] at q0
      have cvd := conv_q hmv.drew hMn
      have hpl := hmv.q.pl
      have HM9 := Lib.hid hmv
      clear hmv
      go_wp2
      go_region_with ((first
        | (go_at_call 14; refine (fbytes_any HM9.out.drew.fl).mono ?_; rintro e w8 ⟨v8, rfl, ho, hne, hb⟩; rw [hMn] at ho; obtain ⟨g8, c8, rfl, h81, h82, h83, hgc⟩ := own_some ho hne; have q8 := (hb.cell (p := ⟨p, 0, none⟩) hpl).trans q0; have cv8 := conv_bytes (M := M) hMn h82 hgc c8; have cv9 := conv_q (HM9.out.drew.below hb) hMn; have HB8 := Lib.hid (HM9.out.drew.below hb).bw; clear ho hne hb hgc)
        | (go_at_call 10; refine (kn8_at HB8.out).mono ?_; rintro e w9 ⟨rfl, hb9⟩)))
      all_goals
        go_wp2
        go_ret
        exact ⟨rfl, hb9⟩
set_option maxHeartbeats 8000000 in
set_option maxRecDepth 100000 in
theorem moves_neg_no {w : World} {Ab Ar Ad : Option Addr} {l dl : List Int} {cb n cr cd : Nat} {ri : Nat → Int} (hl : SrcBytes w Ab l) (hl01 : ∀ v ∈ l, 0 ≤ v ∧ v < 256) (hr : IntsIn w Ar n ri) (hd : SrcBytes w Ad dl) (hd01 : ∀ v ∈ dl, 0 ≤ v ∧ v < 256) (hdn : Ad = none → dl.length = 0 ∧ cd = 0)
    (x r : Int) (x0 : 0 ≤ x) (x1 : x < 4294967296) (hd3 : dl.length ≤ 3000) (hE : newE l.length n ri = 0) (N : Int) (hN : N < 0) (hS : (mayT (mem0 l n ri) 2 dl.length x).2 = false) :
    Calls Try.prog 6 #[.slice Ab l.length cb, .slice Ar n cr, .int .u32 x, .int .i64 N, .int .i64 r, .slice Ad dl.length cd] w fun e w' => e = .returned (.bool true) ∧ Below w.heap.size w w' := by
  have hc : l.length ≤ 8192 ∧ n ≤ 32 ∧ anyWrong ri n = false ∧ l.length ≤ n * 256 := newE_zero hE
  obtain ⟨k1, k2, k3, k4⟩ := hc
  obtain ⟨i0, hi, hi0, hi1, hi2⟩ := info_parts Try.infoU8
  have HN := Lib.hid (new_yes8 hl hl01 hr cb cr k1 k2 k3 k4)
  have HS := Lib.hid hS
  have HDN := Lib.hid hdn
  have H01 := Lib.hid hd01
  have HR := Lib.hid hr
  have HD := Lib.hid hd
  obtain ⟨nb, hnb⟩ : ∃ nb, l.length = nb := ⟨_, rfl⟩
  obtain ⟨nd, hnd⟩ : ∃ nd, dl.length = nd := ⟨_, rfl⟩
  have HND := Lib.hid hnd
  rw [hnb] at HN ⊢
  rw [hnd] at hd3 HS HDN ⊢
  have hd3' : (nd : Int) ≤ 3000 := by omega
  have hN' : (N : Int) ≤ 3000 := by omega
  have hNd : decide (N < 0) = true := by simpa using hN
  clear hl hr hd hE hS hdn hd01 hl01 hnb hnd k1 k3 k4
  go_enter Try.func6, Try.ntmps6
  go_wp2_with ((first
    | (go_at_call 17; refine HN.out.mono ?_; rintro e w1 ⟨F, B, ra, rc, rfl, hf, gF, gB, gR, hb⟩; have HF := Lib.hid hf; have HB := Lib.hid hb; have HBB := Lib.hid gB; have HRG := Lib.hid gR; clear hf hb gF gB gR)
    | (go_at_call 14; refine (fbytes_any HF.out).mono ?_; rintro e w2 ⟨v2, rfl, ho, hne, hb⟩; obtain ⟨g, c2, rfl, hg1, hg2, hg3, hgc⟩ := own_some ho hne; have HO := Lib.hid ho; have HB2 := Lib.hid hb; clear ho hne hb hgc
       have hmv : MovAt w (w2.alloc (.cells #[.slice (some ⟨g, 0, none⟩) (n * 256) c2, .slice Ar n cr] 46)) F B ra rc (n * 256) w2.heap.size g c2 Ar cr (mem0 l n ri) (mem0 l n ri) Ad dl :=
         { fl := (HF.out.below HB2.out).below ((Below.refl _ w2).alloc (Nat.le_refl _) _)
           q := q_of_own (w := w2) (Ar := Ar) (cr := cr) (ri := ri) (m := mem0 l n ri) HF.out.ok rfl HO.out ((HR.out.below HB.out).below HB2.out) (fun i hi => by have hi : i < n := hi; show (if i < n then ri i else 0) = ri i; rw [if_pos hi]) 46
           d := ((HD.out.below HB.out).below HB2.out).below ((Below.refl _ w2).alloc (Nat.le_refl _) _)
           bw := Bl.alloc (Bl.step HB.out HB2.out) _
           i1 := fun hp => by
             obtain ⟨b, o, e, l1, c⟩ := HR.out hp
             exact ⟨b, o, e, l1, fun j hj => by have hj : j < n := hj; rw [show (mem0 l n ri).ri j = ri j by show (if j < n then ri j else 0) = ri j; rw [if_pos hj]]; exact c j hj⟩
           d1 := HD.out
           gB := HBB.out
           Bg := Nat.lt_of_lt_of_le HF.out.bl hg1
           Bp := Nat.lt_of_lt_of_le HF.out.bl (by have := HB2.out.size; exact this)
           Fg := Nat.lt_of_lt_of_le HF.out.fl hg1
           gp := hg2
           rg := fun b o e => Nat.lt_of_lt_of_le (HRG.out b o e).2 hg1
           fz := fun k => (World.frozen?_of_block (w := w2) (((Below.refl _ w2).alloc (Nat.le_refl _) _).block g hg2)).trans (own_fz HO.out k) }
       have hpp : w2.heap.size < (w2.alloc (.cells #[.slice (some ⟨g, 0, none⟩) (n * 256) c2, .slice Ar n cr] 46)).heap.size := by simp)
    | fail))
  change Calls _ _ _ (w2.alloc (.cells #[.slice (some ⟨g, 0, none⟩) (n * 256) c2, .slice Ar n cr] 46)) _
  obtain ⟨m, hm⟩ : ∃ m, mem0 l n ri = m := ⟨_, rfl⟩
  have hnp : m.np = n := by rw [← hm]; rfl
  rw [hm] at hmv HS
  generalize w2.alloc (.cells #[.slice (some ⟨g, 0, none⟩) (n * 256) c2, .slice Ar n cr] 46) = W at hmv hpp ⊢
  generalize w2.heap.size = p at hmv hpp ⊢
  change Calls _ _ #[ifV F, _, _, _] _ _
  clear hm HN HF HB HBB HRG HO HB2 hg1 hg2 hg3
  refine (load_neg F x N r hN).mono ?_
  rintro e V ⟨rfl, rfl⟩
  have HV5 := Lib.hid hmv
  clear hmv
  obtain ⟨y2, hy2⟩ : ∃ y2, (mayT m 2 nd x).1 = y2 := ⟨_, rfl⟩
  go_wp2_with (first
    | (at_builtin; refine app_opt8 rfl _ _ 23 rfl W.heap.size 5 i0 (.int .u8 0) 1 1 Try.underlying23 hi hi0 hi1 hi2 rfl (by decide) (.slice none 0 0) 0 [] rfl (World.ownsRow_nil ..) Ad nd cd (dl.map (Value.int .u8)) rfl HDN.out (by simp [HND.out]) (src_news HV5.out.d) (by intro v hv; obtain ⟨y, -, rfl⟩ := List.mem_map.1 hv; rfl) (by unfold maxLen; omega) (by omega) (Nat.le_refl _) ?_; intro v4 V4 ho4 hg4; have HB4 := Lib.hid (show Below W.heap.size W V4 from (Below.refl W.heap.size W).grown hg4 (Nat.le_refl _) (fun k e => by cases e)); have HO4 := Lib.hid ho4; have hz4 := HB4.out.size; clear ho4 hg4)
    | (at_builtin; refine wpList_append_own _ rfl _ _ 23 rfl W.heap.size 5 i0 (.int .u8 0) 1 1 Try.underlying23 hi hi0 hi1 hi2 rfl (by decide) v4 (0 + nd) ([] ++ dl.map (Value.int .u8)) rfl (HO4.out.alloc _) ⟨V4.heap.size, 0, none⟩ 1 1 [.int .u8 119] rfl rfl (one_cells V4 _ _) (by simp [Value.oneCell']) (by unfold maxLen; omega) (by omega) (by simp; omega) ?_; intro v5 V5 ho5 hg5 _; have HB5 := Lib.hid (show Below W.heap.size W V5 from (Bl.alloc HB4.out _).grown hg5 (by simp; omega) (fun k e => (HO4.out.lt k e).1)); obtain ⟨g5, k5, rfl, hg5a, hg5b, hg5c, hg5d⟩ := own_pos ho5 (by omega); have hz5 := HB5.out.size; have HV6 := Lib.hid (HV5.out.below HB5.out); have HG5 := Lib.hid hg5d; have hgl := HV5.out.glt; have hBg := HV5.out.Bg; clear ho5 hg5 hg5d)
    | (go_at_call 20; have hst := store_no8 HV6.out.fl x (some ⟨g5, 0, none⟩) nd k5 x0 x1 (by omega) HS.out; rw [hy2] at hst; refine hst.mono ?_; rintro e V7 ⟨rfl, rfl⟩; have HV7 := HV6; have h11 : ∀ o, V5.cell? ⟨g5, o, none⟩ = V5.cell? ⟨g5, o, none⟩ := fun _ => rfl; have hg7 := hg5b; have HQ2 := qfirst_any HV7.out.q x 2 nd x0 x1 (by omega); rw [HS.out, hy2] at HQ2; have cv1 := cv_row (w := V5) (l := dl) (n := nd) HND.out (g := g5) hg7 (fun j u hj => (h11 (0 + j)).trans (HG5.out j u hj)) k5; have cv2 := conv_string HV7.out.d cd; rw [HND.out] at cv2; have hs5 := str_fits dl (by rw [HND.out]; exact hd3); generalize strOfNums dl = sd at cv1 cv2 hs5)
    | (go_at_call 19; refine HQ2.mono ?_; rintro e w' ⟨rfl, rfl⟩))
  have hmv := HV7.out
  clear cv1 cv2 hs5 h11 HQ2
  have hMn : (m).np = n := hnp
  generalize m = M at hmv hMn
  have q0 := hmv.q.c0
  rw [hMn] at q0
  have cvd := conv_q hmv.drew hMn
  have hpl := hmv.q.pl
  have HM9 := Lib.hid hmv
  clear hmv
  go_wp2
  go_region_with ((first
    | (go_at_call 14; refine (fbytes_any HM9.out.drew.fl).mono ?_; rintro e w8 ⟨v8, rfl, ho, hne, hb⟩; rw [hMn] at ho; obtain ⟨g8, c8, rfl, h81, h82, h83, hgc⟩ := own_some ho hne; have q8 := (hb.cell (p := ⟨p, 0, none⟩) hpl).trans q0; have cv8 := conv_bytes (M := M) hMn h82 hgc c8; have cv9 := conv_q (HM9.out.drew.below hb) hMn; have HB8 := Lib.hid (HM9.out.drew.below hb).bw; clear ho hne hb hgc)
    | (go_at_call 10; refine (kn8_at HB8.out).mono ?_; rintro e w9 ⟨rfl, hb9⟩)))
  all_goals
    go_wp2
    go_ret
    exact ⟨rfl, hb9⟩
end Go.Proofs.Ytknepljmbpdpkaa
