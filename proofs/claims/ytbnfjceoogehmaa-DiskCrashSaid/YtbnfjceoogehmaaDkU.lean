/- DiskCrash. -/
import Derived.Test.YtbnfjceoogehmaaDkTb
namespace Go.Proofs.Ytbnfjceoogehmaa
open Go.RowKit Go.Shelf
open Go.Maps (Keyed)
attribute [local go_sem] Oper.semAt_some

def xobj (kd : Int) (X : Stp9) : Obj := .cells #[.int .i64 kd, .int .i64 X.a, .int .i64 X.b, .slice X.dA X.dl.length X.dc, .slice X.kA X.kl.length X.kc] 38
theorem five_of {w : World} {g : Nat} {a b c d e : Value} {t : TypeId} (h : w.heap[g]? = some (.cells #[a, b, c, d, e] t (0, 0))) :
    w.cell? ⟨g, 0, none⟩ = some a ∧ w.cell? ⟨g, 1, none⟩ = some b ∧ w.cell? ⟨g, 2, none⟩ = some c ∧ w.cell? ⟨g, 3, none⟩ = some d ∧ w.cell? ⟨g, 4, none⟩ = some e := by
  refine ⟨?_, ?_, ?_, ?_, ?_⟩ <;> (rw [cell_of_row _ _ _ _ _ _ h]; rfl)
section
variable {w wr : World} {d gw sz : Nat} {O : Nat → Prop} {L : Lay9} {s : Dk} {V : Nat → Value}
theorem cr_step (hb : Below w.heap.size w wr) (hd : DkAt wr O d L s) (hl : s.fl.length = sz) {j : Nat} (hwr : s.wr ≤ j) (hO : ∀ b, O b → w.heap.size ≤ b) (hv : WasAt wr w.heap.size O gw sz V (histS s)) {w' : World} (h : Below wr.heap.size wr w') : CrI w w' d gw sz (j + 1) :=
  ⟨O, L, s, V, hb.trans (h.mono hb.size), hd.step h, hl, by omega, hO, hv.step h⟩
theorem below_x (wr : World) (kd : Int) (X : Stp9) : Below wr.heap.size wr (wr.alloc (xobj kd X)) := (Below.refl _ wr).alloc (Nat.le_refl _) _
end
theorem byte_range {w : World} {A : Option Addr} {l : List Int} (h : ByteIn w A l) (hl : l.length = 128) : ∃ b o, A = some ⟨b, o, none⟩ ∧ w.rangeAt b o (secL l) ∧ b < w.heap.size := by
  obtain ⟨b, o, e, h0⟩ := h 0 _ (List.getElem?_eq_getElem (by omega))
  refine ⟨b, o, e, fun j v hj => ?_, World.block_lt_of_cell? w _ h0⟩
  unfold secL at hj
  rw [List.getElem?_map] at hj
  obtain ⟨x, hx, rfl⟩ := Option.map_eq_some_iff.1 hj
  obtain ⟨b', o', e', h1⟩ := h j x hx
  rw [e] at e'
  cases e'
  exact h1
theorem StrAt.sl {w : World} {v : Value} {l : List ByteArray} (h : StrAt w v l) : ∃ a n c, v = .slice a n c := by
  obtain ⟨g, off, cap, cur, rfl, -⟩ := h
  exact ⟨_, _, _, rfl⟩
theorem Try.infoStr9 : (Try.prog.info? 9).map (fun i => (i.zero, i.size, i.bytes)) = some (some (.string ByteArray.empty), 1, 16) := by kernel_rfl
set_option maxHeartbeats 16000000 in
set_option maxRecDepth 100000 in
theorem disk_crash_law (w : World) (n : Int) {A KA : Option Addr} {m : Nat} (c kc : Nat) {R : Nat → Stp9} {KL : List Kp} (hA : StepsIn9 w A m R) (hm : (m : Int) ≤ 9223372036854775807) (hK : KeepIn w KA KL) (hKw : ∀ x ∈ KL, wfK x) (hKn : (KL.length : Int) ≤ 9223372036854775807) :
    Calls Try.prog 6 #[.int .i64 n, .slice A m c, .slice KA KL.length kc] w fun e w' => e = .returned (.bool true) ∧ Below w.heap.size w w' := by
  have HA := Lib.hid hA
  have HK := Lib.hid hK
  have HKW := Lib.hid hKw
  obtain ⟨q, hq⟩ : ∃ q, KL.length = q := ⟨_, rfl⟩
  have HQ := Lib.hid hq
  rw [hq] at hKn ⊢
  clear hA hK hKw hq
  by_cases h1 : n < 1
  · go_enter Try.func6, Try.ntmps6
    go_wp2_with (go_at_call 11; refine (known_any9 w).mono ?_; rintro e w1 ⟨rfl, hb1⟩; have HB1 := Lib.hid hb1; clear hb1)
    go_ret
    exact ⟨rfl, HB1.out⟩
  · by_cases h16 : 16 < n
    · go_enter Try.func6, Try.ntmps6
      go_wp2_with (go_at_call 11; refine (known_any9 w).mono ?_; rintro e w1 ⟨rfl, hb1⟩; have HB1 := Lib.hid hb1; clear hb1)
      go_ret
      exact ⟨rfl, HB1.out⟩
    · obtain ⟨sz, rfl⟩ : ∃ sz : Nat, n = sz := ⟨n.toNat, by omega⟩
      go_enter Try.func6, Try.ntmps6
      go_wp2_with (go_at_call 11; refine (known_any9 w).mono ?_; rintro e w1 ⟨rfl, hb1⟩; have HB1 := Lib.hid hb1; clear hb1)
      go_at_call 12
      refine Calls.mono (much_any9 (HA.out.below HB1.out) hm c) ?_
      rintro e w2 ⟨bm, rfl, hb2⟩
      have HB2 := Lib.hid (HB1.out.trans (hb2.mono HB1.out.size))
      clear hb2 HB1
      cases bm with
      | true =>
        go_wp2
        go_ret
        exact ⟨rfl, HB2.out⟩
      | false =>
        by_cases h60 : (60 : Int) < q
        · go_wp2
          go_ret
          exact ⟨rfl, HB2.out⟩
        · go_wp2_with fail
          have hz1 : 1 ≤ sz := by omega
          have hz2 : sz ≤ 16 := by omega
          go_at_call 8
          refine Calls.mono (new_yes9 sz hz1 (by omega) w2) ?_
          rintro e w3 ⟨d, O3, L3, rfl, hd3, hO3, hb3⟩
          have s2 := HB2.out.size
          have HD3 := Lib.hid hd3
          have HO3 := Lib.hid (show ∀ k, O3 k → w.heap.size ≤ k from fun k hk => Nat.le_trans s2 (hO3 k hk))
          have HB3 := Lib.hid (HB2.out.trans (hb3.mono s2))
          clear hd3 hO3 hb3 HB2
          go_wp2_with (go_at_call 10; refine (num_any9 _ _).mono ?_; rintro e w' ⟨rfl, rfl⟩)
          obtain ⟨s0, hs0⟩ : ∃ s0, newD (List.replicate sz zeroS) 0 = s0 := ⟨_, rfl⟩
          have HL0 := Lib.hid (show s0.fl.length = sz from by rw [← hs0]; exact List.length_replicate)
          have HH0 := Lib.hid (show ∀ j, j < sz → histS s0 j = [strOfNums (fullS 0)] from fun j hj => by
            rw [← hs0]
            unfold histS newD
            dsimp only
            rw [List.getD_eq_getElem?_getD, List.getElem?_replicate, if_pos hj]
            rfl)
          rw [hs0] at HD3
          have HW0 := Lib.hid (show s0.wr = 0 from by rw [← hs0]; rfl)
          clear hs0
          have s3 := HB3.out.size
          obtain ⟨gw, hgw⟩ : ∃ gw, w3.heap.size = gw := ⟨_, rfl⟩
          have HGW := Lib.hid hgw
          rw [hgw] at s3 ⊢
          clear hgw
          obtain ⟨S00, h00⟩ : ∃ S, strS (fullS 0) = .string S := ⟨_, rfl⟩
          have h00' : S00 = strOfNums (fullS 0) := by unfold strS at h00; exact (Value.string.inj h00).symm
          have H00 := Lib.hid h00
          have H00' := Lib.hid h00'
          clear h00 h00'
          go_loopw [10] (fun i wr => ∃ k : Nat, k ≤ sz ∧ i = .int .i64 (k : Int) ∧ Below w.heap.size w wr ∧ DkAt wr O3 d L3 s0 ∧ ∃ V, WasAt wr w.heap.size O3 gw k V (histS s0)) (fun i _ => sz - (intOf i).toNat)
          case atStart =>
            refine ⟨0, Nat.zero_le _, rfl, HB3.out.alloc (by rw [HGW.out]; exact s3) _, HD3.out.step ((Below.refl _ w3).alloc (Nat.le_refl _) _), fun _ => .slice none 0 0, ⟨_, HGW.out ▸ heap_alloc_new w3 _, rfl, fun j hj => by omega⟩, fun e => ?_, s3, fun j hj => by omega, fun j k hj => by omega, fun i j k hi => by omega⟩
            have := HD3.out.lt _ e; have := HGW.out; omega
          case round =>
            obtain ⟨k, hk, rfl, hb, hd, V, hv⟩ := hrel
            have HB := Lib.hid hb
            have HD := Lib.hid hd
            have HV := Lib.hid hv
            have sr := hb.size
            clear hb hd hv
            by_cases hlt : k < sz
            · have hlt' : (k : Int) < sz := by omega
              go_wp2_with fail
              go_at_call 19
              refine Calls.mono (sector_any9 0 wr) ?_
              rintro e w5 ⟨g, kk, rfl, hg5, hr5, hb5⟩
              have hcv := conv_sec hr5 (fullS_ok (by decide) (by decide)) kk
              rw [H00.out] at hcv
              have HB5 := Lib.hid hb5
              have HV5 := Lib.hid (HV.out.step hb5)
              have s5 := hb5.size
              obtain ⟨⟨v5, hc5⟩, hf5⟩ : (∃ v, (w5.alloc (.cells #[.string S00] 9)).cell? ⟨gw, k, none⟩ = some v) ∧ (w5.alloc (.cells #[.string S00] 9)).frozen? ⟨gw, k, none⟩ = false := by
                obtain ⟨row, r1, r2, -⟩ := (HV5.out.step ((Below.refl _ w5).alloc (Nat.le_refl _) (.cells #[.string S00] 9))).row
                exact ⟨⟨row[k]'(by omega), by rw [cell_of_row _ _ _ _ _ _ r1]; exact Array.getElem?_eq_getElem (by omega)⟩, frozen_of_row _ _ _ _ _ r1⟩
              clear hr5 hb5
              go_wp2
              go_roundw
              case rel =>
                have b55 : Below w5.heap.size w5 (w5.alloc (.cells #[.string S00] 9)) := (Below.refl _ w5).alloc (Nat.le_refl _) _
                have hbw : Below w.heap.size w (w5.alloc (.cells #[.string S00] 9)) := (HB.out.trans (HB5.out.mono sr)).alloc (by omega) _
                have hgO : ¬ O3 gw := HV5.out.gO
                refine ⟨k + 1, hlt, by go_num, hbw.setCell (by show w.heap.size ≤ gw; exact s3) _, ((HD.out.step HB5.out).step b55).keep (by simp [World.setCell]) (fun r hr => heap_setCell_other _ ⟨gw, k, none⟩ r _ (fun e => hgO ((show r = gw from e) ▸ hr))), _,
                  HV5.out.more (by omega) ⟨w5.heap.size, 0, 1, _, by rw [HH0.out k hlt]; rfl, by rw [HH0.out k hlt]; exact Nat.le_refl _, by unfold maxLen; omega, heap_alloc_new w5 _, by simp, fun j u hj => ?_⟩ (by simp) (Below.heap_alloc w5 _ gw HV5.out.gl) (fun b e => ?_) (fun b hb => Below.heap_alloc w5 _ b hb)⟩
                · rw [HH0.out k hlt] at hj
                  have : j = 0 := by have := (List.getElem?_eq_some_iff.1 hj).1; simp at this; exact this
                  subst this
                  cases hj
                  rw [← H00'.out]; rfl
                · cases e
                  refine ⟨Nat.le_refl _, ?_, fun e2 => ?_⟩
                  · show w.heap.size ≤ w5.heap.size; omega
                  · exact absurd ((HD.out.step HB5.out).lt _ e2) (Nat.lt_irrefl _)
              case measure => simp [intOf]; omega
            · have hlt' : ¬ (k : Int) < sz := by omega
              obtain rfl : k = sz := by omega
              go_wp2
              go_loopw [11] (fun i wr => ∃ j : Nat, j ≤ m ∧ i = .int .i64 (j : Int) ∧ CrI w wr d gw k j) (fun i _ => m - (intOf i).toNat)
              case atStart => exact ⟨0, Nat.zero_le _, rfl, O3, L3, s0, V, HB.out, HD.out, HL0.out, by rw [HW0.out]; exact Nat.le_refl _, HO3.out, HV.out⟩
              case round =>
                obtain ⟨j, hj, rfl, O, L, s, V, hb, hd, hl, hwr, hO, hv⟩ := hrel
                have HB := Lib.hid hb
                have HD := Lib.hid hd
                have HL := Lib.hid hl
                have HWR := Lib.hid hwr
                have HO := Lib.hid hO
                have HV := Lib.hid hv
                have sr := hb.size
                clear hb hd hl hwr hO hv
                by_cases hgo : j < m ∧ j < 40
                · obtain ⟨hlt, h40⟩ := hgo
                  have hlt' : (j : Int) < m := by omega
                  · have h40' : (j : Int) < 40 := by omega
                    obtain ⟨hf, sb, so, rfl, c0, c1, c2, c3, c4⟩ := (HA.out.below HB.out) j hlt
                    obtain ⟨X, hX⟩ : ∃ X, R j = X := ⟨_, rfl⟩
                    rw [hX] at hf c0 c1 c2 c3 c4
                    have HF := Lib.hid hf
                    have HF0 := Lib.hid (show X.fits w from hX ▸ (HA.out j hlt).1)
                    obtain ⟨kd, hkd⟩ : ∃ kd, X.kd = kd := ⟨_, rfl⟩
                    rw [hkd] at c0
                    clear hf hX hkd
                    by_cases hk1 : kd = 1
                    · subst hk1
                      have hrx := heap_alloc_new wr (xobj 1 X)
                      have HRX := Lib.hid hrx
                      clear hrx
                      go_wp2_with fail
                      by_cases hok : s.has X.a = true ∧ X.dl.length = 128
                      · obtain ⟨ia, hia, hil⟩ := Dk.has_iff hok.1
                        have hf0 := HF0.out
                        have hdl := hok.2
                        obtain ⟨bg, bo, edA, hrg, hbg⟩ := byte_range hf0.dat hdl
                        have HOKD := Lib.hid (show SecOk X.dl from ⟨hdl, hf0.d01⟩)
                        have HBG := Lib.hid hbg
                        have bx := below_x wr 1 X
                        have hbwx := HB.out.trans (bx.mono sr)
                        have hrg6 : (wr.alloc (xobj 1 X)).rangeAt bg bo (secL X.dl) := fun i v hi => (hbwx.cell (p := ⟨bg, bo + i, none⟩) hbg).trans (hrg i v hi)
                        have exo : xobj 1 X = .cells #[.int .i64 1, .int .i64 (ia : Int), .int .i64 X.b, .slice (some ⟨bg, bo, none⟩) 128 X.dc, .slice X.kA X.kl.length X.kc] 38 := by unfold xobj; rw [hia, edA, hdl]
                        rw [hia, edA, hdl]
                        have hcall := write_yes9 (HD.out.step bx) ia hil bg bo X.dc X.dl HOKD.out hrg6 (fun e => by have := HO.out _ e; omega) (by have := HWR.out; omega)
                        rw [exo] at hcall
                        go_at_call 20
                        refine Calls.mono hcall ?_
                        rintro e w7 ⟨rfl, O7, L7, hd7, hO7, ht7⟩
                        clear hcall
                        rw [← exo] at hO7 ht7
                        obtain ⟨gx, hgx⟩ : ∃ gx, wr.heap.size = gx := ⟨_, rfl⟩
                        have hgxO : ¬ O gx := fun e => by have := HD.out.lt _ e; omega
                        have hxr := HRX.out
                        rw [hgx] at hxr
                        have hx7 := (ht7.block gx (by simp; omega) hgxO).trans hxr
                        unfold xobj at hx7
                        rw [hia, edA, hdl] at hx7
                        have HX7 := Lib.hid hx7
                        have hv7 := (HV.out.step bx).turn ht7 (O' := O7) (fun b hb => hO7 b hb)
                        have HV7 := Lib.hid hv7
                        have HD7 := Lib.hid hd7
                        have hO7w : ∀ b, O7 b → w.heap.size ≤ b := fun b hb => (hO7 b hb).elim (HO.out b) (fun e => by have := bx.size; omega)
                        have HO7 := Lib.hid hO7w
                        have hb7 := hbwx.trans (ht7.below (by have := bx.size; omega) HO.out)
                        have HB7 := Lib.hid hb7
                        have HRG7 := Lib.hid (show w7.rangeAt bg bo (secL X.dl) from fun i v hi => (hb7.cell (p := ⟨bg, bo + i, none⟩) hbg).trans (hrg i v hi))
                        have hs7 := hb7.size
                        have hgx7 : gx < w7.heap.size := by have := ht7.size; simp at this; omega
                        have hik : ia < k := by have := HL.out; omega
                        have HIK := Lib.hid hik
                        obtain ⟨S, hS⟩ : ∃ S, strOfNums X.dl = S := ⟨_, rfl⟩
                        have HSTR := Lib.hid (show strS X.dl = .string S from by rw [← hS]; rfl)
                        have HSS := Lib.hid hS
                        obtain ⟨g, off, cap, cur, hVi, hnc, hcm, hcur, hcsz, hel⟩ := hv7.str ia hik
                        obtain ⟨N, hN⟩ : ∃ N, (histS s ia).length = N := ⟨_, rfl⟩
                        have hN' : N ≤ 41 := by
                          rw [← hN]; unfold histS
                          have := HD.out.ok.pl ia; have := HWR.out
                          simp; omega
                        rw [hN] at hVi hnc
                        have hgb : g < w7.heap.size ∧ g ≠ gw ∧ w.heap.size ≤ g ∧ g ≠ gx := by
                          have h1 := hv7.vl hik (by rw [hVi]; rfl : (V ia).ownBlock = some g)
                          have h2 := HV.out.vl hik (by rw [hVi]; rfl : (V ia).ownBlock = some g)
                          have h3 := HV.out.own ia g hik (by rw [hVi]; rfl)
                          exact ⟨h1.1, h1.2, h3.1, by omega⟩
                        have hgwx : gw ≠ gx ∧ gw < w7.heap.size := by have := HV.out.gl; exact ⟨by omega, by omega⟩
                        have hVo : ∀ b, (V ia).ownBlock ≠ some b ↔ g ≠ b := fun b => by rw [hVi]; show some g ≠ some b ↔ _; simp
                        have HSK : ∀ W : World, (∀ b, b < w7.heap.size → b ≠ gw → (V ia).ownBlock ≠ some b → W.heap[b]? = w7.heap[b]?) → W.cell? ⟨gx, 1, none⟩ = some (.int .i64 (ia : Int)) ∧ W.cell? ⟨gx, 3, none⟩ = some (.slice (some ⟨bg, bo, none⟩) 128 X.dc) ∧ W.rangeAt bg bo (secL X.dl) := fun W hW => by
                          have e1 := (hW gx hgx7 (fun e => hgwx.1 e.symm) ((hVo gx).2 hgb.2.2.2)).trans HX7.out
                          obtain ⟨-, y1, -, y3, -⟩ := five_of e1
                          exact ⟨y1, y3, fun i v hi => (World.cell?_of_block (a := ⟨bg, bo + i, none⟩) (hW bg (by have := HBG.out; omega) (by have := HBG.out; have := HV7.out.gB; omega) ((hVo bg).2 (by have := HBG.out; omega)))).trans (HRG7.out i v hi)⟩
                        have HX0 : ∀ W : World, (∀ b, b < w7.heap.size → b ≠ gw → (V ia).ownBlock ≠ some b → W.heap[b]? = w7.heap[b]?) → Hid (W.cell? ⟨gx, 0, none⟩ = some (.int .i64 1)) := fun W hW => Lib.hid (by
                          have e1 := (hW gx hgx7 (fun e => hgwx.1 e.symm) ((hVo gx).2 hgb.2.2.2)).trans HX7.out
                          exact (five_of e1).1)
                        have hrow := hv7.row
                        have HWC : ∀ W : World, (∀ b, b < w7.heap.size → W.heap[b]? = w7.heap[b]?) → Hid (W.cell? ⟨gw, ia, none⟩ = some (.slice (some ⟨g, off, none⟩) N cap)) := fun W hW => Lib.hid (by
                          rw [← hVi]; exact (World.cell?_of_block (a := ⟨gw, ia, none⟩) (hW gw hgwx.2)).trans (HV7.out.cell HIK.out).1)
                        have HST : ∀ W : World, (∀ b, b < w7.heap.size → (V ia).ownBlock ≠ some b → W.heap[b]? = w7.heap[b]?) → Hid (W.cell? ⟨gw, ia, none⟩ = some (.slice (some ⟨g, off, none⟩) N cap) ∧ W.frozen? ⟨gw, ia, none⟩ = false) := fun W hW => Lib.hid (by
                          have e1 := hW gw hgwx.2 ((hVo gw).2 hgb.2.1)
                          exact ⟨by rw [← hVi]; exact (World.cell?_of_block (a := ⟨gw, ia, none⟩) e1).trans (HV7.out.cell HIK.out).1, (World.frozen?_of_block (a := ⟨gw, ia, none⟩) e1).trans (HV7.out.cell HIK.out).2⟩)
                        obtain ⟨i0, hi0, hz0, hz1, hz2⟩ := info_parts Try.infoStr9
                        have hz2 : i0.bytes = 16 := hz2
                        have HVI := Lib.hid hVi
                        have HN := Lib.hid hN
                        have HCM := Lib.hid hcm
                        have HCUR := Lib.hid hcur
                        have HCSZ := Lib.hid hcsz
                        have HEL := Lib.hid hel
                        have HS7 := Lib.hid hs7
                        have HNEW := Lib.hid (World.news_of_block (heap_alloc_new w7.drew (.cells #[.string S] 9)))
                        have HSP : N + 1 ≤ cap → Hid (∀ i, i < [Value.string S].length → ((w7.drew.alloc (.cells #[.string S] 9)).cell? ⟨g, off + N * 1 + i, none⟩).isSome = true ∧ (w7.drew.alloc (.cells #[.string S] 9)).frozen? ⟨g, off + N * 1 + i, none⟩ = false) := fun hr => Lib.hid (fun i hi => by
                          obtain rfl : i = 0 := by simp at hi; exact hi
                          have h1 : (w7.drew.alloc (.cells #[.string S] 9)).heap[g]? = some (.cells cur 9 (0, 0)) := (Below.heap_alloc w7.drew _ g hgb.1).trans HCUR.out
                          have := HCSZ.out
                          exact ⟨by rw [cell_of_row _ _ _ _ _ _ h1, Array.getElem?_eq_getElem (by omega)]; rfl, frozen_of_row _ _ _ _ _ h1⟩)
                        have HLEN := Lib.hid (show ((histS s ia).map Value.string).length = N * 1 by rw [List.length_map, hN, Nat.mul_one])
                        have HOLD := Lib.hid (show ∀ b, some (⟨g, off, none⟩ : Addr) = some b → ∀ i u, ((histS s ia).map Value.string)[i]? = some u → (w7.drew.alloc (.cells #[.string S] 9)).cell? (b.add i) = some u from fun b e i u hi => by
                          cases e
                          have h1 : (w7.drew.alloc (.cells #[.string S] 9)).heap[g]? = some (.cells cur 9 (0, 0)) := (Below.heap_alloc w7.drew _ g hgb.1).trans HCUR.out
                          rw [List.getElem?_map] at hi
                          obtain ⟨y, hy, rfl⟩ := Option.map_eq_some_iff.1 hi
                          rw [Addr.add_lit, cell_of_row _ _ _ _ _ _ h1]
                          exact HEL.out i y hy)
                        have HLP := Lib.hid (show (s.push ia X.dl).fl.length = k from HL.out)
                        have HWP := Lib.hid (show (s.push ia X.dl).wr ≤ j + 1 from Nat.succ_le_succ HWR.out)
                        have HHP := Lib.hid (show histS (s.push ia X.dl) = updH (histS s) ia (histS s ia ++ [S]) from funext fun i => by rw [histS_push, hS])
                        have hi16 : (ia : Int) < 16 := by omega
                        have hx7' := five_of hx7
                        obtain ⟨x0, x1, x2, x3, x4⟩ := hx7'
                        rw [hgx]
                        clear hVi hN hcm hcur hcsz hel hS hv7 hd7 hO7w hb7 hrow hx7 hxr hrg hrg6 hbwx bx exo hf0 hok hO7 ht7 hbg edA
                        go_wp2_with (go_at_call 10; refine (num_any9 _ _).mono ?_; rintro e w' ⟨rfl, rfl⟩)
                        refine wp_region_noPanic ?_
                        refine wp_region_held_drew (S := fun W => W.cell? ⟨gx, 1, none⟩ = some (.int .i64 (ia : Int)) ∧ W.cell? ⟨gx, 3, none⟩ = some (.slice (some ⟨bg, bo, none⟩) 128 X.dc) ∧ W.rangeAt bg bo (secL X.dl)) (by kernel_rfl) ?_ (fun hHeld => ?_)
                        · exact HSK w7.drew (fun b _ _ _ => rfl)
                        refine wpAnyH_take (i := 0) (v := ?_) rfl (by kernel_rfl) (by kernel_rfl) (by kernel_rfl) (fun _ _ _ h => h) (Or.inl ⟨by rfl, ?_⟩) (by assumption) ?_
                        rotate_left
                        · (intro w hSw; obtain ⟨hS1, hS2, hS3⟩ := hSw; have hcv := conv_sec hS3 HOKD.out X.dc; rw [HSTR.out] at hcv; (try simp only [List.getElem_toArray, List.getElem_cons_zero]); go_simp; try (with_reducible rfl))
                        try simp only [Act.put, List.getElem_toArray, List.getElem_cons_zero, List.setIfInBounds_toArray, List.set_cons_zero, List.set_cons_succ]
                        refine wpAnyH_take (i := 1) (v := ?_) rfl (by kernel_rfl) (by kernel_rfl) (by kernel_rfl) (fun _ _ _ h => h) (Or.inl ⟨by rfl, ?_⟩) (by assumption) ?_
                        rotate_left
                        · (intro w hSw; obtain ⟨hS1, hS2, hS3⟩ := hSw; have hcv := conv_sec hS3 HOKD.out X.dc; rw [HSTR.out] at hcv; (try simp only [List.getElem_toArray, List.getElem_cons_zero, List.getElem_cons_succ]); go_simp; try (with_reducible rfl))
                        try simp only [Act.put, List.getElem_toArray, List.getElem_cons_zero, List.getElem_cons_succ, List.setIfInBounds_toArray, List.set_cons_zero, List.set_cons_succ]
                        refine wpAnyH_take (i := 2) (v := ?_) rfl (by kernel_rfl) (by kernel_rfl) (by kernel_rfl) (fun _ _ _ h => h) (Or.inl ⟨by rfl, ?_⟩) (by assumption) ?_
                        rotate_left
                        · (intro w hSw; obtain ⟨hS1, hS2, hS3⟩ := hSw; have hcv := conv_sec hS3 HOKD.out X.dc; rw [HSTR.out] at hcv; (try simp only [List.getElem_toArray, List.getElem_cons_zero, List.getElem_cons_succ]); go_simp; try (with_reducible rfl))
                        try simp only [Act.put, List.getElem_toArray, List.getElem_cons_zero, List.getElem_cons_succ, List.setIfInBounds_toArray, List.set_cons_zero, List.set_cons_succ]
                        refine wpAnyH_take (i := 3) (v := ?_) rfl (by kernel_rfl) (by kernel_rfl) (by kernel_rfl) (fun _ _ _ h => h) (Or.inl ⟨by rfl, ?_⟩) (by assumption) ?_
                        rotate_left
                        · (intro w hSw; obtain ⟨hS1, hS2, hS3⟩ := hSw; have hcv := conv_sec hS3 HOKD.out X.dc; rw [HSTR.out] at hcv; (try simp only [List.getElem_toArray, List.getElem_cons_zero, List.getElem_cons_succ]); go_simp; try (with_reducible rfl))
                        try simp only [Act.put, List.getElem_toArray, List.getElem_cons_zero, List.getElem_cons_succ, List.setIfInBounds_toArray, List.set_cons_zero, List.set_cons_succ]
                        refine wpAnyH_take (i := 4) (v := ?_) rfl (by kernel_rfl) (by kernel_rfl) (by kernel_rfl) (fun _ _ _ h => h) (Or.inl ⟨by rfl, ?_⟩) (by assumption) ?_
                        rotate_left
                        · (intro w hSw; obtain ⟨hS1, hS2, hS3⟩ := hSw; have hcv := conv_sec hS3 HOKD.out X.dc; rw [HSTR.out] at hcv; (try simp only [List.getElem_toArray, List.getElem_cons_zero, List.getElem_cons_succ]); go_simp; try (with_reducible rfl))
                        try simp only [Act.put, List.getElem_toArray, List.getElem_cons_zero, List.getElem_cons_succ, List.setIfInBounds_toArray, List.set_cons_zero, List.set_cons_succ]
                        refine wpAnyH_take (i := 6) (v := ?_) rfl (by kernel_rfl) (by kernel_rfl) (by kernel_rfl) (fun _ _ _ h => h) (Or.inl ⟨by rfl, ?_⟩) (by assumption) ?_
                        rotate_left
                        · (intro w hSw; obtain ⟨hS1, hS2, hS3⟩ := hSw; have hcv := conv_sec hS3 HOKD.out X.dc; rw [HSTR.out] at hcv; (try simp only [List.getElem_toArray, List.getElem_cons_zero, List.getElem_cons_succ]); go_simp; try (with_reducible rfl))
                        try simp only [Act.put, List.getElem_toArray, List.getElem_cons_zero, List.getElem_cons_succ, List.setIfInBounds_toArray, List.set_cons_zero, List.set_cons_succ]
                        refine wpAnyH_take (i := 7) (v := ?_) rfl (by kernel_rfl) (by kernel_rfl) (by kernel_rfl) (fun _ _ _ h => h) (Or.inl ⟨by rfl, ?_⟩) (by assumption) ?_
                        rotate_left
                        · (intro w hSw; obtain ⟨hS1, hS2, hS3⟩ := hSw; have hcv := conv_sec hS3 HOKD.out X.dc; rw [HSTR.out] at hcv; (try simp only [List.getElem_toArray, List.getElem_cons_zero, List.getElem_cons_succ]); go_simp; try (with_reducible rfl))
                        try simp only [Act.put, List.getElem_toArray, List.getElem_cons_zero, List.getElem_cons_succ, List.setIfInBounds_toArray, List.set_cons_zero, List.set_cons_succ]
                        refine wpAnyH_take (i := 8) (v := ?_) rfl (by kernel_rfl) (by kernel_rfl) (by kernel_rfl) (fun _ _ _ h => h) (Or.inl ⟨by rfl, ?_⟩) (by assumption) ?_
                        rotate_left
                        · (intro w hSw; obtain ⟨hS1, hS2, hS3⟩ := hSw; have hcv := conv_sec hS3 HOKD.out X.dc; rw [HSTR.out] at hcv; (try simp only [List.getElem_toArray, List.getElem_cons_zero, List.getElem_cons_succ]); go_simp; try (with_reducible rfl))
                        try simp only [Act.put, List.getElem_toArray, List.getElem_cons_zero, List.getElem_cons_succ, List.setIfInBounds_toArray, List.set_cons_zero, List.set_cons_succ]
                        refine wpAnyH_ready (rs := [5, 9]) (by kernel_rfl) (by simp) ?_
                        refine (AllReadyH.cons rfl (fun K hK => ?_) (AllReadyH.cons rfl (fun K hK => ?_) AllReadyH.nil))
                        · (try simp only [List.getElem_toArray, List.getElem_cons_zero, List.getElem_cons_succ])
                          have hwc := (HWC w7.drew (fun b hb => rfl)).out
                          go_simp
                          refine hK.out _ _ hHeld (fun hHeld => ?_)
                          clear hK K hwc
                          try simp only [Act.put, List.getElem_toArray, List.getElem_cons_zero, List.getElem_cons_succ, List.setIfInBounds_toArray, List.set_cons_zero, List.set_cons_succ]
                          refine wpAnyH_ready (rs := [9]) (by kernel_rfl) (by simp) ?_
                          refine AllReadyH.cons rfl (fun K hK => ?_) AllReadyH.nil
                          (try simp only [List.getElem_toArray, List.getElem_cons_zero, List.getElem_cons_succ])
                          go_simp
                          refine hK.out _ _ (HSK (w7.alloc (.cells #[.string S] 9)).drew (fun b hb _ _ => Below.heap_alloc w7.drew _ b hb)) (fun hHeld => ?_)
                          clear hK K
                          try simp only [Act.put, List.getElem_toArray, List.getElem_cons_zero, List.getElem_cons_succ, List.setIfInBounds_toArray, List.set_cons_zero, List.set_cons_succ]
                          by_cases hroom : N + 1 ≤ cap
                          · refine wpAnyH_ready (rs := [10]) (by kernel_rfl) (by simp) ?_
                            refine AllReadyH.cons rfl (fun K hK => ?_) AllReadyH.nil
                            refine step_append_room rfl _ _ 47 rfl 9 i0 1 Try.underlying47 hi0 hz1 g off N cap rfl ⟨w7.heap.size, 0, none⟩ 1 1 [.string S] rfl rfl (HNEW).out (by simp [Value.oneCell']) hroom (HSP hroom).out ?_
                            have HAPP : Hid (AppAt w w7 ((w7.alloc (.cells #[.string S] 9)).drew.setCells g (off + N * 1) [Value.string S]) O7 V ia (.slice (some ⟨g, off, none⟩) (N + 1) cap) (histS s ia ++ [S])) := Lib.hid (app_room (w := w) (O7 := O7) (S := S) HVI.out HN.out hroom HCM.out HCUR.out HCSZ.out HEL.out)
                            generalize (w7.alloc (.cells #[.string S] 9)).drew.setCells g (off + N * 1) [Value.string S] = Wc at HAPP ⊢
                            refine hK.out _ _ (HSK Wc (fun b hb _ hv => HAPP.out.blk b hb hv)) (fun hHeld => ?_)
                            clear hK K
                            try simp only [Act.put, List.getElem_toArray, List.getElem_cons_zero, List.getElem_cons_succ, List.setIfInBounds_toArray, List.set_cons_zero, List.set_cons_succ]
                            refine wpAnyH_take (i := 11) (v := ?_) rfl (by kernel_rfl) (by kernel_rfl) (by kernel_rfl) (fun _ _ _ h => h) (Or.inl ⟨by rfl, ?_⟩) (by assumption) ?_
                            rotate_left
                            · (intro w hSw; obtain ⟨hS1, hS2, hS3⟩ := hSw; have hcv := conv_sec hS3 HOKD.out X.dc; rw [HSTR.out] at hcv; (try simp only [List.getElem_toArray, List.getElem_cons_zero, List.getElem_cons_succ]); go_simp; try (with_reducible rfl))
                            try simp only [Act.put, List.getElem_toArray, List.getElem_cons_zero, List.getElem_cons_succ, List.setIfInBounds_toArray, List.set_cons_zero, List.set_cons_succ]
                            refine wpAnyH_ready (rs := [12]) (by kernel_rfl) (by simp) ?_
                            refine AllReadyH.cons rfl (fun K hK => ?_) AllReadyH.nil
                            (try simp only [List.getElem_toArray, List.getElem_cons_zero, List.getElem_cons_succ])
                            have hst := (HST Wc (fun b hb hv => HAPP.out.blk b hb hv)).out
                            obtain ⟨hst1, hst2⟩ := hst
                            go_simp
                            refine hK.out _ _ (HSK _ (fun b hb hgw hv => (heap_setCell_other Wc ⟨gw, ia, none⟩ b _ hgw).trans (HAPP.out.blk b hb hv))) (fun hHeld => ?_)
                            clear hK K hst1 hst2
                            try simp only [Act.put, List.getElem_toArray, List.getElem_cons_zero, List.getElem_cons_succ, List.setIfInBounds_toArray, List.set_cons_zero, List.set_cons_succ]
                            refine wpAnyH_done (by kernel_rfl) ?_ _
                            refine NoPanic.normal ?_
                            have hx0 := (HX0 (Wc.setCell ⟨gw, ia, none⟩ (.slice (some ⟨g, off, none⟩) (N + 1) cap)) (fun b hb hgw hv => (heap_setCell_other Wc ⟨gw, ia, none⟩ b _ hgw).trans (HAPP.out.blk b hb hv))).out
                            go_wp2
                            go_roundw
                            case rel => exact ⟨j + 1, hlt, by go_num, app_end HB7.out HD7.out HLP.out HWP.out HO7.out HV7.out HIK.out HAPP.out HHP.out⟩
                            case measure => simp [intOf]; omega
                          · have hfull : cap < N + 1 := by omega
                            refine wpAnyH_ready (rs := [10]) (by kernel_rfl) (by simp) ?_
                            refine AllReadyH.cons rfl (fun K hK => ?_) AllReadyH.nil
                            refine step_append_grows rfl _ _ 47 rfl 9 i0 (.string ByteArray.empty) 1 16 Try.underlying47 hi0 hz0 hz1 hz2 rfl (by decide) (some ⟨g, off, none⟩) N cap ((histS s ia).map Value.string) rfl (fun e => by cases e) HLEN.out (HOLD).out ⟨w7.heap.size, 0, none⟩ 1 1 [.string S] rfl rfl (HNEW).out (by simp [Value.oneCell']) hfull (by unfold maxLen; omega) (by omega) ?_
                            intro v' Wc ho hg
                            have HAPP := Lib.hid (app_full (w := w) (O7 := O7) (V := V) HN.out HS7.out (fun b hb => HD7.out.lt b hb) ho hg)
                            obtain ⟨ga, gn, gc, rfl⟩ := HAPP.out.str.sl
                            clear ho hg
                            refine hK.out _ _ (HSK Wc (fun b hb _ hv => HAPP.out.blk b hb hv)) (fun hHeld => ?_)
                            clear hK K
                            try simp only [Act.put, List.getElem_toArray, List.getElem_cons_zero, List.getElem_cons_succ, List.setIfInBounds_toArray, List.set_cons_zero, List.set_cons_succ]
                            refine wpAnyH_take (i := 11) (v := ?_) rfl (by kernel_rfl) (by kernel_rfl) (by kernel_rfl) (fun _ _ _ h => h) (Or.inl ⟨by rfl, ?_⟩) (by assumption) ?_
                            rotate_left
                            · (intro w hSw; obtain ⟨hS1, hS2, hS3⟩ := hSw; have hcv := conv_sec hS3 HOKD.out X.dc; rw [HSTR.out] at hcv; (try simp only [List.getElem_toArray, List.getElem_cons_zero, List.getElem_cons_succ]); go_simp; try (with_reducible rfl))
                            try simp only [Act.put, List.getElem_toArray, List.getElem_cons_zero, List.getElem_cons_succ, List.setIfInBounds_toArray, List.set_cons_zero, List.set_cons_succ]
                            refine wpAnyH_ready (rs := [12]) (by kernel_rfl) (by simp) ?_
                            refine AllReadyH.cons rfl (fun K hK => ?_) AllReadyH.nil
                            (try simp only [List.getElem_toArray, List.getElem_cons_zero, List.getElem_cons_succ])
                            have hst := (HST Wc (fun b hb hv => HAPP.out.blk b hb hv)).out
                            obtain ⟨hst1, hst2⟩ := hst
                            go_simp
                            refine hK.out _ _ (HSK _ (fun b hb hgw hv => (heap_setCell_other Wc ⟨gw, ia, none⟩ b _ hgw).trans (HAPP.out.blk b hb hv))) (fun hHeld => ?_)
                            clear hK K hst1 hst2
                            try simp only [Act.put, List.getElem_toArray, List.getElem_cons_zero, List.getElem_cons_succ, List.setIfInBounds_toArray, List.set_cons_zero, List.set_cons_succ]
                            refine wpAnyH_done (by kernel_rfl) ?_ _
                            refine NoPanic.normal ?_
                            have hx0 := (HX0 (Wc.setCell ⟨gw, ia, none⟩ (.slice ga gn gc)) (fun b hb hgw hv => (heap_setCell_other Wc ⟨gw, ia, none⟩ b _ hgw).trans (HAPP.out.blk b hb hv))).out
                            go_wp2
                            go_roundw
                            case rel => exact ⟨j + 1, hlt, by go_num, app_end HB7.out HD7.out HLP.out HWP.out HO7.out HV7.out HIK.out HAPP.out HHP.out⟩
                            case measure => simp [intOf]; omega
                        · (try simp only [List.getElem_toArray, List.getElem_cons_zero, List.getElem_cons_succ])
                          go_simp
                          refine hK.out _ _ (HSK (w7.alloc (.cells #[.string S] 9)).drew (fun b hb _ _ => Below.heap_alloc w7.drew _ b hb)) (fun hHeld => ?_)
                          clear hK K
                          try simp only [Act.put, List.getElem_toArray, List.getElem_cons_zero, List.getElem_cons_succ, List.setIfInBounds_toArray, List.set_cons_zero, List.set_cons_succ]
                          refine wpAnyH_ready (rs := [5]) (by kernel_rfl) (by simp) ?_
                          refine AllReadyH.cons rfl (fun K hK => ?_) AllReadyH.nil
                          (try simp only [List.getElem_toArray, List.getElem_cons_zero, List.getElem_cons_succ])
                          have hwc := (HWC (w7.alloc (.cells #[.string S] 9)).drew (fun b hb => Below.heap_alloc w7.drew _ b hb)).out
                          go_simp
                          refine hK.out _ _ hHeld (fun hHeld => ?_)
                          clear hK K hwc
                          try simp only [Act.put, List.getElem_toArray, List.getElem_cons_zero, List.getElem_cons_succ, List.setIfInBounds_toArray, List.set_cons_zero, List.set_cons_succ]
                          by_cases hroom : N + 1 ≤ cap
                          · refine wpAnyH_ready (rs := [10]) (by kernel_rfl) (by simp) ?_
                            refine AllReadyH.cons rfl (fun K hK => ?_) AllReadyH.nil
                            refine step_append_room rfl _ _ 47 rfl 9 i0 1 Try.underlying47 hi0 hz1 g off N cap rfl ⟨w7.heap.size, 0, none⟩ 1 1 [.string S] rfl rfl (HNEW).out (by simp [Value.oneCell']) hroom (HSP hroom).out ?_
                            have HAPP : Hid (AppAt w w7 ((w7.alloc (.cells #[.string S] 9)).drew.setCells g (off + N * 1) [Value.string S]) O7 V ia (.slice (some ⟨g, off, none⟩) (N + 1) cap) (histS s ia ++ [S])) := Lib.hid (app_room (w := w) (O7 := O7) (S := S) HVI.out HN.out hroom HCM.out HCUR.out HCSZ.out HEL.out)
                            generalize (w7.alloc (.cells #[.string S] 9)).drew.setCells g (off + N * 1) [Value.string S] = Wc at HAPP ⊢
                            refine hK.out _ _ (HSK Wc (fun b hb _ hv => HAPP.out.blk b hb hv)) (fun hHeld => ?_)
                            clear hK K
                            try simp only [Act.put, List.getElem_toArray, List.getElem_cons_zero, List.getElem_cons_succ, List.setIfInBounds_toArray, List.set_cons_zero, List.set_cons_succ]
                            refine wpAnyH_take (i := 11) (v := ?_) rfl (by kernel_rfl) (by kernel_rfl) (by kernel_rfl) (fun _ _ _ h => h) (Or.inl ⟨by rfl, ?_⟩) (by assumption) ?_
                            rotate_left
                            · (intro w hSw; obtain ⟨hS1, hS2, hS3⟩ := hSw; have hcv := conv_sec hS3 HOKD.out X.dc; rw [HSTR.out] at hcv; (try simp only [List.getElem_toArray, List.getElem_cons_zero, List.getElem_cons_succ]); go_simp; try (with_reducible rfl))
                            try simp only [Act.put, List.getElem_toArray, List.getElem_cons_zero, List.getElem_cons_succ, List.setIfInBounds_toArray, List.set_cons_zero, List.set_cons_succ]
                            refine wpAnyH_ready (rs := [12]) (by kernel_rfl) (by simp) ?_
                            refine AllReadyH.cons rfl (fun K hK => ?_) AllReadyH.nil
                            (try simp only [List.getElem_toArray, List.getElem_cons_zero, List.getElem_cons_succ])
                            have hst := (HST Wc (fun b hb hv => HAPP.out.blk b hb hv)).out
                            obtain ⟨hst1, hst2⟩ := hst
                            go_simp
                            refine hK.out _ _ (HSK _ (fun b hb hgw hv => (heap_setCell_other Wc ⟨gw, ia, none⟩ b _ hgw).trans (HAPP.out.blk b hb hv))) (fun hHeld => ?_)
                            clear hK K hst1 hst2
                            try simp only [Act.put, List.getElem_toArray, List.getElem_cons_zero, List.getElem_cons_succ, List.setIfInBounds_toArray, List.set_cons_zero, List.set_cons_succ]
                            refine wpAnyH_done (by kernel_rfl) ?_ _
                            refine NoPanic.normal ?_
                            have hx0 := (HX0 (Wc.setCell ⟨gw, ia, none⟩ (.slice (some ⟨g, off, none⟩) (N + 1) cap)) (fun b hb hgw hv => (heap_setCell_other Wc ⟨gw, ia, none⟩ b _ hgw).trans (HAPP.out.blk b hb hv))).out
                            go_wp2
                            go_roundw
                            case rel => exact ⟨j + 1, hlt, by go_num, app_end HB7.out HD7.out HLP.out HWP.out HO7.out HV7.out HIK.out HAPP.out HHP.out⟩
                            case measure => simp [intOf]; omega
                          · have hfull : cap < N + 1 := by omega
                            refine wpAnyH_ready (rs := [10]) (by kernel_rfl) (by simp) ?_
                            refine AllReadyH.cons rfl (fun K hK => ?_) AllReadyH.nil
                            refine step_append_grows rfl _ _ 47 rfl 9 i0 (.string ByteArray.empty) 1 16 Try.underlying47 hi0 hz0 hz1 hz2 rfl (by decide) (some ⟨g, off, none⟩) N cap ((histS s ia).map Value.string) rfl (fun e => by cases e) HLEN.out (HOLD).out ⟨w7.heap.size, 0, none⟩ 1 1 [.string S] rfl rfl (HNEW).out (by simp [Value.oneCell']) hfull (by unfold maxLen; omega) (by omega) ?_
                            intro v' Wc ho hg
                            have HAPP := Lib.hid (app_full (w := w) (O7 := O7) (V := V) HN.out HS7.out (fun b hb => HD7.out.lt b hb) ho hg)
                            obtain ⟨ga, gn, gc, rfl⟩ := HAPP.out.str.sl
                            clear ho hg
                            refine hK.out _ _ (HSK Wc (fun b hb _ hv => HAPP.out.blk b hb hv)) (fun hHeld => ?_)
                            clear hK K
                            try simp only [Act.put, List.getElem_toArray, List.getElem_cons_zero, List.getElem_cons_succ, List.setIfInBounds_toArray, List.set_cons_zero, List.set_cons_succ]
                            refine wpAnyH_take (i := 11) (v := ?_) rfl (by kernel_rfl) (by kernel_rfl) (by kernel_rfl) (fun _ _ _ h => h) (Or.inl ⟨by rfl, ?_⟩) (by assumption) ?_
                            rotate_left
                            · (intro w hSw; obtain ⟨hS1, hS2, hS3⟩ := hSw; have hcv := conv_sec hS3 HOKD.out X.dc; rw [HSTR.out] at hcv; (try simp only [List.getElem_toArray, List.getElem_cons_zero, List.getElem_cons_succ]); go_simp; try (with_reducible rfl))
                            try simp only [Act.put, List.getElem_toArray, List.getElem_cons_zero, List.getElem_cons_succ, List.setIfInBounds_toArray, List.set_cons_zero, List.set_cons_succ]
                            refine wpAnyH_ready (rs := [12]) (by kernel_rfl) (by simp) ?_
                            refine AllReadyH.cons rfl (fun K hK => ?_) AllReadyH.nil
                            (try simp only [List.getElem_toArray, List.getElem_cons_zero, List.getElem_cons_succ])
                            have hst := (HST Wc (fun b hb hv => HAPP.out.blk b hb hv)).out
                            obtain ⟨hst1, hst2⟩ := hst
                            go_simp
                            refine hK.out _ _ (HSK _ (fun b hb hgw hv => (heap_setCell_other Wc ⟨gw, ia, none⟩ b _ hgw).trans (HAPP.out.blk b hb hv))) (fun hHeld => ?_)
                            clear hK K hst1 hst2
                            try simp only [Act.put, List.getElem_toArray, List.getElem_cons_zero, List.getElem_cons_succ, List.setIfInBounds_toArray, List.set_cons_zero, List.set_cons_succ]
                            refine wpAnyH_done (by kernel_rfl) ?_ _
                            refine NoPanic.normal ?_
                            have hx0 := (HX0 (Wc.setCell ⟨gw, ia, none⟩ (.slice ga gn gc)) (fun b hb hgw hv => (heap_setCell_other Wc ⟨gw, ia, none⟩ b _ hgw).trans (HAPP.out.blk b hb hv))).out
                            go_wp2
                            go_roundw
                            case rel => exact ⟨j + 1, hlt, by go_num, app_end HB7.out HD7.out HLP.out HWP.out HO7.out HV7.out HIK.out HAPP.out HHP.out⟩
                            case measure => simp [intOf]; omega
                      · go_at_call 20
                        have hw7 : Calls Try.prog 20 #[.pointer (some ⟨d, 0, none⟩), .int .i64 X.a, .slice X.dA X.dl.length X.dc] (wr.alloc (xobj 1 X)) fun e w' => e = .returned (.int .i64 2) ∧ wr.alloc (xobj 1 X) = w' := by
                          by_cases ha : s.has X.a = true
                          · exact write_len9 (HD.out.step (below_x wr 1 X)) X.a X.dA X.dl.length X.dc (fun e => hok ⟨ha, e⟩)
                          · exact write_out9 (HD.out.step (below_x wr 1 X)) X.a (by simpa using ha) _
                        refine Calls.mono hw7 ?_
                        rintro e w7 ⟨rfl, rfl⟩
                        have hx := five_of HRX.out
                        obtain ⟨x0, x1, x2, x3, x4⟩ := hx
                        have HBX := Lib.hid (below_x wr 1 X)
                        obtain ⟨w7, hw7⟩ : ∃ w7, wr.alloc (xobj 1 X) = w7 := ⟨_, rfl⟩
                        rw [hw7] at x0 x1 x2 x3 x4 HBX ⊢
                        clear hw7
                        go_wp2_with (go_at_call 10; refine (num_any9 _ _).mono ?_; rintro e w' ⟨rfl, rfl⟩)
                        go_roundw
                        case rel => exact ⟨j + 1, hlt, by go_num, cr_step HB.out HD.out HL.out HWR.out HO.out HV.out HBX.out⟩
                        case measure => simp [intOf]; omega
                    · by_cases hk2 : kd = 2
                      · subst hk2
                        have hrx := heap_alloc_new wr (xobj 2 X)
                        have HRX := Lib.hid hrx
                        clear hrx
                        have bx := below_x wr 2 X
                        have hf0 := HF0.out
                        go_wp2_with fail
                        go_at_call 21
                        by_cases hok : 0 ≤ X.b ∧ 0 ≤ X.a ∧ X.a + X.b ≤ (k : Int)
                        · obtain ⟨fa, hfa⟩ : ∃ fa : Nat, X.a = fa := ⟨X.a.toNat, by omega⟩
                          obtain ⟨fb, hfb⟩ : ∃ fb : Nat, X.b = fb := ⟨X.b.toNat, by omega⟩
                          have hab : fa + fb ≤ k := by omega
                          have exo : xobj 2 X = .cells #[.int .i64 2, .int .i64 (fa : Int), .int .i64 (fb : Int), .slice X.dA X.dl.length X.dc, .slice X.kA X.kl.length X.kc] 38 := by unfold xobj; rw [hfa, hfb]
                          rw [hfa, hfb]
                          have hcall := flush_yes9 (HD.out.step bx) fa fb (by have := HL.out; omega)
                          rw [exo] at hcall
                          refine Calls.mono hcall ?_
                          rintro e w7 ⟨rfl, L7, hd7, ht7⟩
                          clear hcall
                          rw [← exo] at ht7
                          obtain ⟨gx, hgx⟩ : ∃ gx, wr.heap.size = gx := ⟨_, rfl⟩
                          have hgxO : ¬ O gx := fun e => by have := HD.out.lt _ e; omega
                          have hxr := HRX.out
                          rw [hgx] at hxr
                          have hx7 := (ht7.block gx (by simp; omega) hgxO).trans (hxr.trans (congrArg some exo))
                          have hv7 := (HV.out.step bx).turn ht7 (O' := O) (fun b hb => .inl hb)
                          have hb7 := (HB.out.trans (bx.mono sr)).trans (ht7.below (by have := bx.size; omega) HO.out)
                          have HB7 := Lib.hid hb7
                          have HD7 := Lib.hid hd7
                          have HV7 := Lib.hid hv7
                          have HX7 := Lib.hid hx7
                          have HGX := Lib.hid (show gx ≠ gw by have := HV.out.gl; omega)
                          have HAB := Lib.hid hab
                          have hw1 : IntKind.i64.wrap ((fa : Int) + fb) = (fa : Int) + fb := IntWalk.i64_in _ (by omega)
                          obtain ⟨x0, x1, x2, x3, x4⟩ := five_of hx7
                          rw [hgx]
                          clear hxr hx7 hv7 hb7 hd7 ht7 exo hok hf0 bx
                          go_wp2_with (go_at_call 10; refine (num_any9 _ _).mono ?_; rintro e w' ⟨rfl, rfl⟩)
                          go_loopw [13] (fun z wq => ∃ i y : Nat, i ≤ fb ∧ fa + i = y ∧ z = .int .i64 (y : Int) ∧ Below w.heap.size w wq ∧ DkAt wq O d L7 (s.flushed fa fb) ∧ wq.heap[gx]? = w7.heap[gx]? ∧ ∃ V', WasAt wq w.heap.size O gw k V' (histS (s.flushed fa i))) (fun z _ => (fa + fb) - (intOf z).toNat)
                          case atStart => exact ⟨0, fa, Nat.zero_le _, rfl, rfl, HB7.out, HD7.out, rfl, V, HV7.out⟩
                          case round =>
                            obtain ⟨i, y, hi, hy, rfl, hbq, hdq, hxq, V', hvq⟩ := hrel
                            obtain ⟨x0, x1, x2, x3, x4⟩ := five_of (hxq.trans HX7.out)
                            have HBQ := Lib.hid hbq
                            have HDQ := Lib.hid hdq
                            have HXQ := Lib.hid hxq
                            have HVQ := Lib.hid hvq
                            clear hbq hdq hxq hvq
                            by_cases hlti : i < fb
                            · have hlti' : (y : Int) < (fa : Int) + fb := by omega
                              have hyk : y < k := by omega
                              have hy16 : (y : Int) < 16 := by omega
                              obtain ⟨g, off, cap, cur, hVi, hnc, hcm, hcur, hcsz, hel⟩ := HVQ.out.str y hyk
                              obtain ⟨hlast, hpos⟩ := histS_last (s.flushed fa i) y (by rw [Dk.flushed_len]; have := HL.out; omega)
                              obtain ⟨N, hN⟩ : ∃ N, (histS (s.flushed fa i) y).length = N + 1 := ⟨(histS (s.flushed fa i) y).length - 1, by omega⟩
                              rw [hN] at hVi hnc hlast
                              rw [Nat.add_sub_cancel] at hlast
                              have hwc := HVQ.out.cell hyk
                              obtain ⟨hwc1, hwc2⟩ := hwc
                              rw [hVi] at hwc1
                              have HAPP := Lib.hid (app_last (w := w) (O7 := O) (gw := 0) (sz := 0) hVi hN hnc hcm hcur hcsz hel hlast ⟨rfl, rfl⟩)
                              have hN9 : N + 1 ≤ 9223372036854775807 := by unfold maxLen at hcm; omega
                              have hsub : IntKind.i64.wrap (((N + 1 : Nat) : Int) - 1) = (N : Int) := by rw [IntWalk.i64_in _ (by omega)]; omega
                              have hncz : (N : Int) ≤ ((N + 1 : Nat) : Int) := by omega
                              obtain ⟨N1, hN1⟩ : ∃ N1, N + 1 = N1 := ⟨_, rfl⟩
                              rw [hN1] at hwc1 hsub hncz hnc
                              have hle : N ≤ N1 := by omega
                              clear hVi hN hcm hcur hcsz hel hlast hpos
                              go_wp2
                              go_region
                              rw [show N1 - N = 1 by omega]
                              have HWE := Lib.hid (was_end HBQ.out HDQ.out HVQ.out hyk HAPP.out)
                              have HXE := Lib.hid (heap_setCell_other wr.drew ⟨gw, y, none⟩ gx (.slice (some ⟨g, off + N, none⟩) 1 (cap - N)) HGX.out)
                              go_wp2
                              go_roundw
                              case rel =>
                                refine ⟨i + 1, y + 1, hlti, by omega, by go_num, HWE.out.1, HWE.out.2.1, HXE.out.trans HXQ.out, updV V' y (.slice (some ⟨g, off + N, none⟩) 1 (cap - N)), ?_⟩
                                have e : histS (s.flushed fa (i + 1)) = updH (histS (s.flushed fa i)) y [strOfNums ((s.flushed fa i).seen y)] := funext fun z => by
                                  rw [← hy]; exact histS_fl1 (s.flushed fa i) (fa + i) (by rw [Dk.flushed_len]; have := HL.out; have := HAB.out; omega) z
                                rw [e]
                                exact HWE.out.2.2
                              case measure => simp [intOf]; omega
                            · have hlti' : ¬ (y : Int) < (fa : Int) + fb := by omega
                              obtain rfl : i = fb := by omega
                              go_wp2
                              go_roundw
                              case rel => exact ⟨j + 1, hlt, by go_num, O, L7, _, V', HBQ.out, HDQ.out, by rw [Dk.flushed_len]; exact HL.out, by rw [flushed_wr]; have := HWR.out; omega, HO.out, HVQ.out⟩
                              case measure => simp [intOf]; omega
                        · have hcall := flush_bad9 (HD.out.step bx) X.a X.b (by have := hf0.wa; unfold inI at this; omega) (by have := hf0.wb; unfold inI at this; omega) (by have := HL.out; omega)
                          refine Calls.mono hcall ?_
                          rintro e w7 ⟨rfl, hw7⟩
                          have hx := five_of HRX.out
                          rw [hw7] at hx bx
                          obtain ⟨x0, x1, x2, x3, x4⟩ := hx
                          have HBX := Lib.hid bx
                          clear hcall bx hw7
                          go_wp2_with (go_at_call 10; refine (num_any9 _ _).mono ?_; rintro e w' ⟨rfl, rfl⟩)
                          go_roundw
                          case rel => exact ⟨j + 1, hlt, by go_num, cr_step HB.out HD.out HL.out HWR.out HO.out HV.out HBX.out⟩
                          case measure => simp [intOf]; omega
                      · have hkb1 : (kd == 1) = false := by simpa using hk1
                        have hkb2 : (kd == 2) = false := by simpa using hk2
                        go_wp2
                        go_roundw
                        case rel => exact ⟨j + 1, hlt, by go_num, cr_step HB.out HD.out HL.out HWR.out HO.out HV.out (below_x wr kd X)⟩
                        case measure => simp [intOf]; omega
                · have hfl : ∀ W O L, DkAt W O d L s → True := fun _ _ _ _ => trivial
                  clear hfl
                  have hgo' : (¬ (j : Int) < m) ∨ ((j : Int) < m ∧ ¬ (j : Int) < 40) := by omega
                  have hcr := crash_any9 HD.out KA KL kc (HK.out.below HB.out) HKW.out (by have := HQ.out; omega)
                  rw [HQ.out] at hcr
                  have HCR := Lib.hid hcr
                  clear hcr hgo
                  rcases hgo' with h0 | ⟨h0, h00⟩
                  all_goals
                    go_wp2_with fail
                    go_at_call 22
                    refine Calls.mono HCR.out ?_
                    rintro e w8 ho8
                    rcases ho8 with ⟨hall, p, rfl, cd, cO, cL, rfl, hc8, hcO, hb8⟩ | ⟨-, rfl, hb8⟩
                    · rw [HQ.out] at hall hc8
                      obtain ⟨cs, hcs⟩ : ∃ cs, s.crash KL q = cs := ⟨_, rfl⟩
                      rw [hcs] at hc8
                      have HCS := Lib.hid hcs
                      have HALL := Lib.hid hall
                      have HC8 := Lib.hid hc8
                      have HB8 := Lib.hid (HB.out.trans (hb8.mono sr))
                      have HD8 := Lib.hid (HD.out.step hb8)
                      have HV8 := Lib.hid (HV.out.step hb8)
                      have HPD := Lib.hid (show ∀ i, cs.pd i = [] from fun i => by rw [← hcs, (Dk.crash_len s KL q).2.1])
                      have HCL := Lib.hid (show cs.fl.length = k from by rw [← hcs, (Dk.crash_len s KL q).1]; exact HL.out)
                      have HIN := Lib.hid (show ∀ i, i < k → strOfNums (cs.fl.getD i []) ∈ histS s i from fun i hi => by
                        rw [← hcs]
                        exact crash_in HALL.out HQ.out.symm i (by have := HL.out; omega) q (Nat.le_refl _))
                      have HSEEN := Lib.hid (show ∀ i, cs.seen i = cs.fl.getD i [] from fun i => by rw [← hcs]; exact crash_seen s KL q i)
                      clear hall hc8 hcO hb8 hcs
                      go_wp2_with (go_at_call 10; refine (num_any9 _ _).mono ?_; rintro e w' ⟨rfl, rfl⟩)
                      go_at_call 22
                      refine Calls.mono (crash_ok9 HC8.out none [] 0 (keep_nil _ _) (fun x hx => (List.not_mem_nil hx).elim) 0 rfl (by omega) (ok_none cs)) ?_
                      rintro e w9 ⟨p, rfl, ad, aO, aL, rfl, ha9, -, hb9⟩
                      have hs8 := HB8.out.size
                      have HA9 := Lib.hid ha9
                      have HC9 := Lib.hid (HC8.out.step hb9)
                      have HD9 := Lib.hid (HD8.out.step hb9)
                      have HV9 := Lib.hid (HV8.out.step hb9)
                      have HB9 := Lib.hid (HB8.out.trans (hb9.mono hs8))
                      clear ha9 hb9 HC8 HD8 HV8 HB8
                      go_wp2_with (go_at_call 10; refine (num_any9 _ _).mono ?_; rintro e w' ⟨rfl, rfl⟩)
                      go_at_call 17
                      refine Calls.mono (same_none9 HA9.out HC9.out rfl (fun i => rfl) HPD.out) ?_
                      rintro e wA ⟨rfl, hbA⟩
                      have hs9 := HB9.out.size
                      have HCA := Lib.hid (HC9.out.step hbA)
                      have HDA := Lib.hid (HD9.out.step hbA)
                      have HVA := Lib.hid (HV9.out.step hbA)
                      have HBA := Lib.hid (HB9.out.trans (hbA.mono hs9))
                      clear hbA HC9 HD9 HV9 HB9 HA9
                      go_wp2_with fail
                      go_loopw [18] (fun z wq => ∃ i : Nat, i ≤ k ∧ z = .int .i64 (i : Int) ∧ Below wA.heap.size wA wq) (fun z _ => k - (intOf z).toNat)
                      case atStart => exact ⟨0, Nat.zero_le _, rfl, Below.refl _ _⟩
                      case round =>
                        obtain ⟨i, hi, rfl, hbq⟩ := hrel
                        have HBQ := Lib.hid hbq
                        clear hbq
                        by_cases hik : i < k
                        · have hik' : (i : Int) < k := by omega
                          have hi16 : (i : Int) < 16 := by omega
                          obtain ⟨g, off, cap, cur, hVi, hnc, hcm, hcur, hcsz, hel⟩ := HVA.out.str i hik
                          obtain ⟨H, hH⟩ : ∃ H, histS s i = H := ⟨_, rfl⟩
                          obtain ⟨N, hN⟩ : ∃ N, H.length = N := ⟨_, rfl⟩
                          obtain ⟨T, hT⟩ : ∃ T, strOfNums (cs.fl.getD i []) = T := ⟨_, rfl⟩
                          rw [hH, hN] at hVi hnc
                          rw [hH] at hel
                          have HT := Lib.hid (show strS (cs.fl.getD i []) = .string T by rw [← hT]; rfl)
                          have HMEM := Lib.hid (show T ∈ H by rw [← hT, ← hH]; exact HIN.out i hik)
                          have HN := Lib.hid hN
                          have hwc := (HVA.out.cell hik).1
                          rw [hVi] at hwc
                          have HWC := Lib.hid hwc
                          have HCUR := Lib.hid hcur
                          have HEL := Lib.hid hel
                          have hNm : (N : Int) ≤ 9223372036854775807 := by unfold maxLen at hcm; omega
                          clear hVi hnc hcm hcur hcsz hel hH hN hT hwc
                          go_wp2_with fail
                          go_loopw [19, 20] (fun f z wz => ∃ y : Nat, y ≤ N ∧ z = .int .i64 (y : Int) ∧ f = .bool ((H.take y).any (fun u => T.toList == u.toList)) ∧ Below wA.heap.size wA wz) (fun _ z _ => N - (intOf z).toNat)
                          case atStart => exact ⟨0, Nat.zero_le _, rfl, rfl, HBQ.out⟩
                          case round =>
                            obtain ⟨y, hy, rfl, rfl, hbz⟩ := hrel
                            have HBZ := Lib.hid hbz
                            have hg1 := (hbz.cell (p := ⟨gw, i, none⟩) (World.block_lt_of_cell? wA _ HWC.out)).trans HWC.out
                            clear hbz
                            by_cases hyN : y < N
                            · have hyN' : (y : Int) < N := by omega
                              obtain ⟨u, hu⟩ : ∃ u, H[y]? = some u := ⟨_, List.getElem?_eq_getElem (by rw [HN.out]; exact hyN)⟩
                              have HU := Lib.hid hu
                              have HTK := Lib.hid (show H.take (y + 1) = H.take y ++ [u] by rw [List.take_add_one, hu]; rfl)
                              have hcu : wA.cell? ⟨g, off + y, none⟩ = some (.string u) := by rw [cell_of_row _ _ _ _ _ _ HCUR.out]; exact HEL.out y u hu
                              have HSK : ∀ W : World, Below wA.heap.size wA W → W.cell? ⟨gw, i, none⟩ = some (.slice (some ⟨g, off, none⟩) N cap) ∧ W.cell? ⟨g, off + y, none⟩ = some (.string u) := fun W hb => ⟨(hb.cell (World.block_lt_of_cell? wA _ HWC.out)).trans HWC.out, (hb.cell (World.block_lt_of_cell? wA _ hcu)).trans hcu⟩
                              clear hu hcu
                              cases hF : (H.take y).any (fun u => T.toList == u.toList) with
                              | true =>
                                go_wp2
                                refine wp_region_noPanic ?_
                                refine wp_region_held_drew (S := fun _ => True) (by kernel_rfl) ?_ (fun hHeld => ?_)
                                · exact trivial
                                refine wpAnyH_take (i := 0) (v := ?_) rfl (by kernel_rfl) (by kernel_rfl) (by kernel_rfl) (fun _ _ _ h => h) (Or.inl ⟨by rfl, ?_⟩) (by assumption) ?_
                                rotate_left
                                · (intro w hSw; have hSc := hSw; (try simp only [List.getElem_toArray, List.getElem_cons_zero]); go_simp; try (with_reducible rfl))
                                try simp only [Act.put, List.getElem_toArray, List.getElem_cons_zero, List.setIfInBounds_toArray, List.set_cons_zero, List.set_cons_succ]
                                refine wpAnyH_take (i := 1) (v := ?_) rfl (by kernel_rfl) (by kernel_rfl) (by kernel_rfl) (fun _ _ _ h => h) (Or.inl ⟨by rfl, ?_⟩) (by assumption) ?_
                                rotate_left
                                · (intro w hSw; have hSc := hSw; (try simp only [List.getElem_toArray, List.getElem_cons_zero, List.getElem_cons_succ]); go_simp; try (with_reducible rfl))
                                try simp only [Act.put, List.getElem_toArray, List.getElem_cons_zero, List.getElem_cons_succ, List.setIfInBounds_toArray, List.set_cons_zero, List.set_cons_succ]
                                refine wpAnyH_take (i := 2) (v := undef) rfl (by kernel_rfl) (by kernel_rfl) (by kernel_rfl) (fun _ _ _ h => h) (Or.inr ⟨by rfl, rfl⟩) (by assumption) ?_
                                try simp only [Act.put, List.getElem_toArray, List.getElem_cons_zero, List.getElem_cons_succ, List.setIfInBounds_toArray, List.set_cons_zero, List.set_cons_succ]
                                refine wpAnyH_take (i := 3) (v := undef) rfl (by kernel_rfl) (by kernel_rfl) (by kernel_rfl) (fun _ _ _ h => h) (Or.inr ⟨by rfl, rfl⟩) (by assumption) ?_
                                try simp only [Act.put, List.getElem_toArray, List.getElem_cons_zero, List.getElem_cons_succ, List.setIfInBounds_toArray, List.set_cons_zero, List.set_cons_succ]
                                refine wpAnyH_take (i := 4) (v := undef) rfl (by kernel_rfl) (by kernel_rfl) (by kernel_rfl) (fun _ _ _ h => h) (Or.inr ⟨by rfl, rfl⟩) (by assumption) ?_
                                try simp only [Act.put, List.getElem_toArray, List.getElem_cons_zero, List.getElem_cons_succ, List.setIfInBounds_toArray, List.set_cons_zero, List.set_cons_succ]
                                refine wpAnyH_take (i := 5) (v := undef) rfl (by kernel_rfl) (by kernel_rfl) (by kernel_rfl) (fun _ _ _ h => h) (Or.inr ⟨by rfl, rfl⟩) (by assumption) ?_
                                try simp only [Act.put, List.getElem_toArray, List.getElem_cons_zero, List.getElem_cons_succ, List.setIfInBounds_toArray, List.set_cons_zero, List.set_cons_succ]
                                refine wpAnyH_take (i := 6) (v := undef) rfl (by kernel_rfl) (by kernel_rfl) (by kernel_rfl) (fun _ _ _ h => h) (Or.inr ⟨by rfl, rfl⟩) (by assumption) ?_
                                try simp only [Act.put, List.getElem_toArray, List.getElem_cons_zero, List.getElem_cons_succ, List.setIfInBounds_toArray, List.set_cons_zero, List.set_cons_succ]
                                refine wpAnyH_take (i := 7) (v := undef) rfl (by kernel_rfl) (by kernel_rfl) (by kernel_rfl) (fun _ _ _ h => h) (Or.inr ⟨by rfl, rfl⟩) (by assumption) ?_
                                try simp only [Act.put, List.getElem_toArray, List.getElem_cons_zero, List.getElem_cons_succ, List.setIfInBounds_toArray, List.set_cons_zero, List.set_cons_succ]
                                refine wpAnyH_take (i := 8) (v := undef) rfl (by kernel_rfl) (by kernel_rfl) (by kernel_rfl) (fun _ _ _ h => h) (Or.inr ⟨by rfl, rfl⟩) (by assumption) ?_
                                try simp only [Act.put, List.getElem_toArray, List.getElem_cons_zero, List.getElem_cons_succ, List.setIfInBounds_toArray, List.set_cons_zero, List.set_cons_succ]
                                refine wpAnyH_take (i := 9) (v := undef) rfl (by kernel_rfl) (by kernel_rfl) (by kernel_rfl) (fun _ _ _ h => h) (Or.inr ⟨by rfl, rfl⟩) (by assumption) ?_
                                try simp only [Act.put, List.getElem_toArray, List.getElem_cons_zero, List.getElem_cons_succ, List.setIfInBounds_toArray, List.set_cons_zero, List.set_cons_succ]
                                refine wpAnyH_take (i := 10) (v := undef) rfl (by kernel_rfl) (by kernel_rfl) (by kernel_rfl) (fun _ _ _ h => h) (Or.inr ⟨by rfl, rfl⟩) (by assumption) ?_
                                try simp only [Act.put, List.getElem_toArray, List.getElem_cons_zero, List.getElem_cons_succ, List.setIfInBounds_toArray, List.set_cons_zero, List.set_cons_succ]
                                refine wpAnyH_take (i := 11) (v := undef) rfl (by kernel_rfl) (by kernel_rfl) (by kernel_rfl) (fun _ _ _ h => h) (Or.inr ⟨by rfl, rfl⟩) (by assumption) ?_
                                try simp only [Act.put, List.getElem_toArray, List.getElem_cons_zero, List.getElem_cons_succ, List.setIfInBounds_toArray, List.set_cons_zero, List.set_cons_succ]
                                refine wpAnyH_take (i := 12) (v := ?_) rfl (by kernel_rfl) (by kernel_rfl) (by kernel_rfl) (fun _ _ _ h => h) (Or.inl ⟨by rfl, ?_⟩) (by assumption) ?_
                                rotate_left
                                · (intro w hSw; have hSc := hSw; (try simp only [List.getElem_toArray, List.getElem_cons_zero, List.getElem_cons_succ]); go_simp; try (with_reducible rfl))
                                try simp only [Act.put, List.getElem_toArray, List.getElem_cons_zero, List.getElem_cons_succ, List.setIfInBounds_toArray, List.set_cons_zero, List.set_cons_succ]
                                refine wpAnyH_take (i := 13) (v := ?_) rfl (by kernel_rfl) (by kernel_rfl) (by kernel_rfl) (fun _ _ _ h => h) (Or.inl ⟨by rfl, ?_⟩) (by assumption) ?_
                                rotate_left
                                · (intro w hSw; have hSc := hSw; (try simp only [List.getElem_toArray, List.getElem_cons_zero, List.getElem_cons_succ]); go_simp; try (with_reducible rfl))
                                try simp only [Act.put, List.getElem_toArray, List.getElem_cons_zero, List.getElem_cons_succ, List.setIfInBounds_toArray, List.set_cons_zero, List.set_cons_succ]
                                refine wpAnyH_done (by kernel_rfl) ?_ _
                                refine NoPanic.normal ?_
                                go_wp2
                                go_roundw
                                case rel => exact ⟨y + 1, hyN, by go_num, by rw [HTK.out, List.any_append, hF]; rfl, HBZ.out.drew⟩
                                case measure => simp [intOf]; omega
                              | false =>
                                go_wp2
                                refine wp_region_noPanic ?_
                                refine wp_region_held_drew (S := fun W => W.cell? ⟨gw, i, none⟩ = some (.slice (some ⟨g, off, none⟩) N cap) ∧ W.cell? ⟨g, off + y, none⟩ = some (.string u)) (by kernel_rfl) ?_ (fun hHeld => ?_)
                                · exact HSK _ (HBZ.out.drew)
                                refine wpAnyH_take (i := 0) (v := ?_) rfl (by kernel_rfl) (by kernel_rfl) (by kernel_rfl) (fun _ _ _ h => h) (Or.inl ⟨by rfl, ?_⟩) (by assumption) ?_
                                rotate_left
                                · (intro w hSw; obtain ⟨hS1, hS2⟩ := hSw; (try simp only [List.getElem_toArray, List.getElem_cons_zero]); go_simp; try (with_reducible rfl))
                                try simp only [Act.put, List.getElem_toArray, List.getElem_cons_zero, List.setIfInBounds_toArray, List.set_cons_zero, List.set_cons_succ]
                                refine wpAnyH_take (i := 1) (v := ?_) rfl (by kernel_rfl) (by kernel_rfl) (by kernel_rfl) (fun _ _ _ h => h) (Or.inl ⟨by rfl, ?_⟩) (by assumption) ?_
                                rotate_left
                                · (intro w hSw; obtain ⟨hS1, hS2⟩ := hSw; (try simp only [List.getElem_toArray, List.getElem_cons_zero, List.getElem_cons_succ]); go_simp; try (with_reducible rfl))
                                try simp only [Act.put, List.getElem_toArray, List.getElem_cons_zero, List.getElem_cons_succ, List.setIfInBounds_toArray, List.set_cons_zero, List.set_cons_succ]
                                refine wpAnyH_take (i := 2) (v := ?_) rfl (by kernel_rfl) (by kernel_rfl) (by kernel_rfl) (fun _ _ _ h => h) (Or.inl ⟨by rfl, ?_⟩) (by assumption) ?_
                                rotate_left
                                · (intro w hSw; obtain ⟨hS1, hS2⟩ := hSw; (try simp only [List.getElem_toArray, List.getElem_cons_zero, List.getElem_cons_succ]); go_simp; try (with_reducible rfl))
                                try simp only [Act.put, List.getElem_toArray, List.getElem_cons_zero, List.getElem_cons_succ, List.setIfInBounds_toArray, List.set_cons_zero, List.set_cons_succ]
                                refine wpAnyH_take (i := 3) (v := ?_) rfl (by kernel_rfl) (by kernel_rfl) (by kernel_rfl) (fun _ _ _ h => h) (Or.inl ⟨by rfl, ?_⟩) (by assumption) ?_
                                rotate_left
                                · (intro w hSw; obtain ⟨hS1, hS2⟩ := hSw; (try simp only [List.getElem_toArray, List.getElem_cons_zero, List.getElem_cons_succ]); go_simp; try (with_reducible rfl))
                                try simp only [Act.put, List.getElem_toArray, List.getElem_cons_zero, List.getElem_cons_succ, List.setIfInBounds_toArray, List.set_cons_zero, List.set_cons_succ]
                                refine wpAnyH_take (i := 5) (v := ?_) rfl (by kernel_rfl) (by kernel_rfl) (by kernel_rfl) (fun _ _ _ h => h) (Or.inl ⟨by rfl, ?_⟩) (by assumption) ?_
                                rotate_left
                                · (intro w hSw; obtain ⟨hS1, hS2⟩ := hSw; (try simp only [List.getElem_toArray, List.getElem_cons_zero, List.getElem_cons_succ]); go_simp; try (with_reducible rfl))
                                try simp only [Act.put, List.getElem_toArray, List.getElem_cons_zero, List.getElem_cons_succ, List.setIfInBounds_toArray, List.set_cons_zero, List.set_cons_succ]
                                refine wpAnyH_take (i := 6) (v := ?_) rfl (by kernel_rfl) (by kernel_rfl) (by kernel_rfl) (fun _ _ _ h => h) (Or.inl ⟨by rfl, ?_⟩) (by assumption) ?_
                                rotate_left
                                · (intro w hSw; obtain ⟨hS1, hS2⟩ := hSw; (try simp only [List.getElem_toArray, List.getElem_cons_zero, List.getElem_cons_succ]); go_simp; try (with_reducible rfl))
                                try simp only [Act.put, List.getElem_toArray, List.getElem_cons_zero, List.getElem_cons_succ, List.setIfInBounds_toArray, List.set_cons_zero, List.set_cons_succ]
                                refine wpAnyH_take (i := 7) (v := ?_) rfl (by kernel_rfl) (by kernel_rfl) (by kernel_rfl) (fun _ _ _ h => h) (Or.inl ⟨by rfl, ?_⟩) (by assumption) ?_
                                rotate_left
                                · (intro w hSw; obtain ⟨hS1, hS2⟩ := hSw; (try simp only [List.getElem_toArray, List.getElem_cons_zero, List.getElem_cons_succ]); go_simp; try (with_reducible rfl))
                                try simp only [Act.put, List.getElem_toArray, List.getElem_cons_zero, List.getElem_cons_succ, List.setIfInBounds_toArray, List.set_cons_zero, List.set_cons_succ]
                                refine wpAnyH_take (i := 8) (v := ?_) rfl (by kernel_rfl) (by kernel_rfl) (by kernel_rfl) (fun _ _ _ h => h) (Or.inl ⟨by rfl, ?_⟩) (by assumption) ?_
                                rotate_left
                                · (intro w hSw; obtain ⟨hS1, hS2⟩ := hSw; (try simp only [List.getElem_toArray, List.getElem_cons_zero, List.getElem_cons_succ]); go_simp; try (with_reducible rfl))
                                try simp only [Act.put, List.getElem_toArray, List.getElem_cons_zero, List.getElem_cons_succ, List.setIfInBounds_toArray, List.set_cons_zero, List.set_cons_succ]
                                refine wpAnyH_take (i := 9) (v := ?_) rfl (by kernel_rfl) (by kernel_rfl) (by kernel_rfl) (fun _ _ _ h => h) (Or.inl ⟨by rfl, ?_⟩) (by assumption) ?_
                                rotate_left
                                · (intro w hSw; obtain ⟨hS1, hS2⟩ := hSw; (try simp only [List.getElem_toArray, List.getElem_cons_zero, List.getElem_cons_succ]); go_simp; try (with_reducible rfl))
                                try simp only [Act.put, List.getElem_toArray, List.getElem_cons_zero, List.getElem_cons_succ, List.setIfInBounds_toArray, List.set_cons_zero, List.set_cons_succ]
                                refine wpAnyH_take (i := 10) (v := ?_) rfl (by kernel_rfl) (by kernel_rfl) (by kernel_rfl) (fun _ _ _ h => h) (Or.inl ⟨by rfl, ?_⟩) (by assumption) ?_
                                rotate_left
                                · (intro w hSw; obtain ⟨hS1, hS2⟩ := hSw; (try simp only [List.getElem_toArray, List.getElem_cons_zero, List.getElem_cons_succ]); go_simp; try (with_reducible rfl))
                                try simp only [Act.put, List.getElem_toArray, List.getElem_cons_zero, List.getElem_cons_succ, List.setIfInBounds_toArray, List.set_cons_zero, List.set_cons_succ]
                                refine wpAnyH_ready (rs := [4]) (by kernel_rfl) (by simp) ?_
                                refine AllReadyH.cons rfl (fun K hK => ?_) AllReadyH.nil
                                (try simp only [List.getElem_toArray, List.getElem_cons_zero, List.getElem_cons_succ]); go_simp
                                go_at_call 23; refine (reads_yes9 (HCA.out.step (HBZ.out.drew)) i (by have := HCL.out; omega)).mono ?_; rintro e wy ⟨rfl, hby⟩
                                rw [HSEEN.out, HT.out]
                                have HBY := Lib.hid (HBZ.out.drew.trans (hby.mono HBZ.out.size))
                                clear hby
                                try (go_wp2_with fail)
                                refine hK.out _ _ (HSK _ HBY.out) (fun hHeld => ?_)
                                clear hK K
                                try simp only [Act.put, List.getElem_toArray, List.getElem_cons_zero, List.getElem_cons_succ, List.setIfInBounds_toArray, List.set_cons_zero, List.set_cons_succ]
                                refine wpAnyH_take (i := 11) (v := ?_) rfl (by kernel_rfl) (by kernel_rfl) (by kernel_rfl) (fun _ _ _ h => h) (Or.inl ⟨by rfl, ?_⟩) (by assumption) ?_
                                rotate_left
                                · (intro w hSw; obtain ⟨hS1, hS2⟩ := hSw; (try simp only [List.getElem_toArray, List.getElem_cons_zero, List.getElem_cons_succ]); go_simp; try (with_reducible rfl))
                                try simp only [Act.put, List.getElem_toArray, List.getElem_cons_zero, List.getElem_cons_succ, List.setIfInBounds_toArray, List.set_cons_zero, List.set_cons_succ]
                                refine wpAnyH_take (i := 12) (v := ?_) rfl (by kernel_rfl) (by kernel_rfl) (by kernel_rfl) (fun _ _ _ h => h) (Or.inl ⟨by rfl, ?_⟩) (by assumption) ?_
                                rotate_left
                                · (intro w hSw; obtain ⟨hS1, hS2⟩ := hSw; (try simp only [List.getElem_toArray, List.getElem_cons_zero, List.getElem_cons_succ]); go_simp; try (with_reducible rfl))
                                try simp only [Act.put, List.getElem_toArray, List.getElem_cons_zero, List.getElem_cons_succ, List.setIfInBounds_toArray, List.set_cons_zero, List.set_cons_succ]
                                refine wpAnyH_take (i := 13) (v := ?_) rfl (by kernel_rfl) (by kernel_rfl) (by kernel_rfl) (fun _ _ _ h => h) (Or.inl ⟨by rfl, ?_⟩) (by assumption) ?_
                                rotate_left
                                · (intro w hSw; obtain ⟨hS1, hS2⟩ := hSw; (try simp only [List.getElem_toArray, List.getElem_cons_zero, List.getElem_cons_succ]); go_simp; try (with_reducible rfl))
                                try simp only [Act.put, List.getElem_toArray, List.getElem_cons_zero, List.getElem_cons_succ, List.setIfInBounds_toArray, List.set_cons_zero, List.set_cons_succ]
                                refine wpAnyH_done (by kernel_rfl) ?_ _
                                refine NoPanic.normal ?_
                                go_wp2
                                go_roundw
                                case rel => exact ⟨y + 1, hyN, by go_num, by rw [HTK.out, List.any_append, hF]; simp, HBY.out⟩
                                case measure => simp [intOf]; omega
                            · have hyN' : ¬ (y : Int) < N := by omega
                              obtain rfl : y = N := by omega
                              have hfound : (H.take y).any (fun u => T.toList == u.toList) = true := by
                                rw [List.take_of_length_le (by have := HN.out; omega), List.any_eq_true]
                                exact ⟨T, HMEM.out, by simp⟩
                              rw [hfound]
                              go_wp2
                              go_roundw
                              case rel => exact ⟨i + 1, hik, by go_num, HBZ.out⟩
                              case measure => simp [intOf]; omega
                        · have hik' : ¬ (i : Int) < k := by omega
                          obtain rfl : k = i := by omega
                          have HDT := Lib.hid (HDA.out.step HBQ.out)
                          have HBT := Lib.hid (HBA.out.trans (HBQ.out.mono HBA.out.size))
                          go_wp2_with fail
                          go_at_call 21
                          refine Calls.mono (flush_yes9 HDT.out 0 k (by rw [Nat.zero_add]; have := HL.out; omega)) ?_
                          rintro e wF ⟨rfl, LF, hdF, htF⟩
                          obtain ⟨sF, hsF⟩ : ∃ sF, s.flushed 0 k = sF := ⟨_, rfl⟩
                          have HPF := Lib.hid (show ∀ i, sF.pd i = [] from fun i => by rw [← hsF]; exact flushed_none HD.out.ok k HL.out i)
                          rw [hsF] at hdF
                          have HDF := Lib.hid hdF
                          have HBF := Lib.hid (HBT.out.trans (htF.below HBT.out.size HO.out))
                          have HLF := Lib.hid (show sF.fl.length = k by rw [← hsF, Dk.flushed_len]; exact HL.out)
                          clear hdF htF hsF
                          go_wp2_with (go_at_call 10; refine (num_any9 _ _).mono ?_; rintro e w' ⟨rfl, rfl⟩)
                          go_at_call 22
                          refine Calls.mono (crash_ok9 HDF.out none [] 0 (keep_nil _ _) (fun x hx => (List.not_mem_nil hx).elim) 0 rfl (by omega) (ok_none sF)) ?_
                          rintro e wG ⟨p, rfl, od, oO, oL, rfl, hoG, -, hbG⟩
                          have HOG := Lib.hid hoG
                          have HDG := Lib.hid (HDF.out.step hbG)
                          have hsFz := HBF.out.size
                          have HBG := Lib.hid (HBF.out.trans (hbG.mono hsFz))
                          have hsG := HBG.out.size
                          clear hoG hbG
                          obtain ⟨FB, hFB⟩ : ∃ FB, strOfNums (flat sF.fl) = FB := ⟨_, rfl⟩
                          have HFB := Lib.hid hFB
                          clear hFB
                          have hkk : 0 < k * 128 := by omega
                          go_wp2_with fail
                          refine wp_region_noPanic ?_
                          refine wp_region_held_drew (S := fun _ => True) (by kernel_rfl) ?_ (fun hHeld => ?_)
                          · exact trivial
                          refine wpAnyH_take (i := 0) (v := ?_) rfl (by kernel_rfl) (by kernel_rfl) (by kernel_rfl) (fun _ _ _ h => h) (Or.inl ⟨by rfl, ?_⟩) (by assumption) ?_
                          rotate_left
                          · (intro w hSw; have hSc := hSw; (try simp only [List.getElem_toArray, List.getElem_cons_zero]); go_simp; try (with_reducible rfl))
                          try simp only [Act.put, List.getElem_toArray, List.getElem_cons_zero, List.setIfInBounds_toArray, List.set_cons_zero, List.set_cons_succ]
                          refine wpAnyH_ready (rs := [1]) (by kernel_rfl) (by simp) ?_
                          refine AllReadyH.cons rfl (fun K hK => ?_) AllReadyH.nil
                          (try simp only [List.getElem_toArray, List.getElem_cons_zero, List.getElem_cons_succ]); go_simp
                          go_at_call 10; refine (num_any9 _ _).mono ?_; rintro e w' ⟨rfl, rfl⟩
                          try (go_wp2_with fail)
                          refine hK.out _ _ (trivial) (fun hHeld => ?_)
                          clear hK K
                          try simp only [Act.put, List.getElem_toArray, List.getElem_cons_zero, List.getElem_cons_succ, List.setIfInBounds_toArray, List.set_cons_zero, List.set_cons_succ]
                          refine wpAnyH_take (i := 2) (v := ?_) rfl (by kernel_rfl) (by kernel_rfl) (by kernel_rfl) (fun _ _ _ h => h) (Or.inl ⟨by rfl, ?_⟩) (by assumption) ?_
                          rotate_left
                          · (intro w hSw; have hSc := hSw; (try simp only [List.getElem_toArray, List.getElem_cons_zero, List.getElem_cons_succ]); go_simp; try (with_reducible rfl))
                          try simp only [Act.put, List.getElem_toArray, List.getElem_cons_zero, List.getElem_cons_succ, List.setIfInBounds_toArray, List.set_cons_zero, List.set_cons_succ]
                          refine wpAnyH_take (i := 3) (v := ?_) rfl (by kernel_rfl) (by kernel_rfl) (by kernel_rfl) (fun _ _ _ h => h) (Or.inl ⟨by rfl, ?_⟩) (by assumption) ?_
                          rotate_left
                          · (intro w hSw; have hSc := hSw; (try simp only [List.getElem_toArray, List.getElem_cons_zero, List.getElem_cons_succ]); go_simp; try (with_reducible rfl))
                          try simp only [Act.put, List.getElem_toArray, List.getElem_cons_zero, List.getElem_cons_succ, List.setIfInBounds_toArray, List.set_cons_zero, List.set_cons_succ]
                          refine wpAnyH_take (i := 4) (v := ?_) rfl (by kernel_rfl) (by kernel_rfl) (by kernel_rfl) (fun _ _ _ h => h) (Or.inl ⟨by rfl, ?_⟩) (by assumption) ?_
                          rotate_left
                          · (intro w hSw; have hSc := hSw; (try simp only [List.getElem_toArray, List.getElem_cons_zero, List.getElem_cons_succ]); go_simp; try (with_reducible rfl))
                          try simp only [Act.put, List.getElem_toArray, List.getElem_cons_zero, List.getElem_cons_succ, List.setIfInBounds_toArray, List.set_cons_zero, List.set_cons_succ]
                          refine wpAnyH_take (i := 5) (v := ?_) rfl (by kernel_rfl) (by kernel_rfl) (by kernel_rfl) (fun _ _ _ h => h) (Or.inl ⟨by rfl, ?_⟩) (by assumption) ?_
                          rotate_left
                          · (intro w hSw; have hSc := hSw; (try simp only [List.getElem_toArray, List.getElem_cons_zero, List.getElem_cons_succ]); go_simp; try (with_reducible rfl))
                          try simp only [Act.put, List.getElem_toArray, List.getElem_cons_zero, List.getElem_cons_succ, List.setIfInBounds_toArray, List.set_cons_zero, List.set_cons_succ]
                          refine wpAnyH_ready (rs := [6]) (by kernel_rfl) (by simp) ?_
                          refine AllReadyH.cons rfl (fun K hK => ?_) AllReadyH.nil
                          (try simp only [List.getElem_toArray, List.getElem_cons_zero, List.getElem_cons_succ]); go_simp
                          go_at_call 17; refine (same_none9 (HOG.out.step ((Below.refl _ wG).drew)) (HDG.out.step ((Below.refl _ wG).drew)) rfl (fun i => rfl) HPF.out).mono ?_; rintro e wH ⟨rfl, hbH⟩
                          have HBH := Lib.hid (show Below wG.heap.size wG wH from (Below.refl _ wG).drew.trans hbH)
                          have HOH := Lib.hid (HOG.out.step HBH.out)
                          have HDH := Lib.hid (HDG.out.step HBH.out)
                          clear hbH
                          try (go_wp2_with fail)
                          refine hK.out _ _ (trivial) (fun hHeld => ?_)
                          clear hK K
                          try simp only [Act.put, List.getElem_toArray, List.getElem_cons_zero, List.getElem_cons_succ, List.setIfInBounds_toArray, List.set_cons_zero, List.set_cons_succ]
                          refine wpAnyH_take (i := 7) (v := ?_) rfl (by kernel_rfl) (by kernel_rfl) (by kernel_rfl) (fun _ _ _ h => h) (Or.inl ⟨by rfl, ?_⟩) (by assumption) ?_
                          rotate_left
                          · (intro w hSw; have hSc := hSw; (try simp only [List.getElem_toArray, List.getElem_cons_zero, List.getElem_cons_succ]); go_simp; try (with_reducible rfl))
                          try simp only [Act.put, List.getElem_toArray, List.getElem_cons_zero, List.getElem_cons_succ, List.setIfInBounds_toArray, List.set_cons_zero, List.set_cons_succ]
                          refine wpAnyH_take (i := 8) (v := ?_) rfl (by kernel_rfl) (by kernel_rfl) (by kernel_rfl) (fun _ _ _ h => h) (Or.inl ⟨by rfl, ?_⟩) (by assumption) ?_
                          rotate_left
                          · (intro w hSw; have hSc := hSw; (try simp only [List.getElem_toArray, List.getElem_cons_zero, List.getElem_cons_succ]); go_simp; try (with_reducible rfl))
                          try simp only [Act.put, List.getElem_toArray, List.getElem_cons_zero, List.getElem_cons_succ, List.setIfInBounds_toArray, List.set_cons_zero, List.set_cons_succ]
                          refine wpAnyH_take (i := 9) (v := ?_) rfl (by kernel_rfl) (by kernel_rfl) (by kernel_rfl) (fun _ _ _ h => h) (Or.inl ⟨by rfl, ?_⟩) (by assumption) ?_
                          rotate_left
                          · (intro w hSw; have hSc := hSw; (try simp only [List.getElem_toArray, List.getElem_cons_zero, List.getElem_cons_succ]); go_simp; try (with_reducible rfl))
                          try simp only [Act.put, List.getElem_toArray, List.getElem_cons_zero, List.getElem_cons_succ, List.setIfInBounds_toArray, List.set_cons_zero, List.set_cons_succ]
                          refine wpAnyH_take (i := 12) (v := ?_) rfl (by kernel_rfl) (by kernel_rfl) (by kernel_rfl) (fun _ _ _ h => h) (Or.inl ⟨by rfl, ?_⟩) (by assumption) ?_
                          rotate_left
                          · (intro w hSw; have hSc := hSw; (try simp only [List.getElem_toArray, List.getElem_cons_zero, List.getElem_cons_succ]); go_simp; try (with_reducible rfl))
                          try simp only [Act.put, List.getElem_toArray, List.getElem_cons_zero, List.getElem_cons_succ, List.setIfInBounds_toArray, List.set_cons_zero, List.set_cons_succ]
                          refine wpAnyH_ready (rs := [10]) (by kernel_rfl) (by simp) ?_
                          refine AllReadyH.cons rfl (fun K hK => ?_) AllReadyH.nil
                          (try simp only [List.getElem_toArray, List.getElem_cons_zero, List.getElem_cons_succ]); go_simp
                          go_at_call 24; refine (bytes_any9 HOH.out).mono ?_; rintro e wI ⟨vI, rfl, hvI, hbI⟩
                          have HBI := Lib.hid hbI
                          have HVI := Lib.hid (show wI.ownsRow wH.heap.size 5 1 vI (k * 128) (rowV sF.fl) from by have := hvI; rw [show (sF.crash [] 0).fl = sF.fl from rfl, HLF.out] at this; exact this)
                          clear hbI hvI
                          try (go_wp2_with fail)
                          refine hK.out _ _ (trivial) (fun hHeld => ?_)
                          clear hK K
                          try simp only [Act.put, List.getElem_toArray, List.getElem_cons_zero, List.getElem_cons_succ, List.setIfInBounds_toArray, List.set_cons_zero, List.set_cons_succ]
                          refine wpAnyH_ready (rs := [11, 13]) (by kernel_rfl) (by simp) ?_
                          refine (AllReadyH.cons rfl (fun K hK => ?_) (AllReadyH.cons rfl (fun K hK => ?_) AllReadyH.nil))
                          · (try simp only [List.getElem_toArray, List.getElem_cons_zero, List.getElem_cons_succ])
                            have hcv := conv_flat HVI.out hkk
                            rw [HFB.out] at hcv
                            go_simp
                            refine hK.out _ _ trivial (fun hHeld => ?_)
                            clear hK K hcv
                            try simp only [Act.put, List.getElem_toArray, List.getElem_cons_zero, List.getElem_cons_succ, List.setIfInBounds_toArray, List.set_cons_zero, List.set_cons_succ]
                            refine wpAnyH_ready (rs := [13]) (by kernel_rfl) (by simp) ?_
                            refine AllReadyH.cons rfl (fun K hK => ?_) AllReadyH.nil
                            (try simp only [List.getElem_toArray, List.getElem_cons_zero, List.getElem_cons_succ]); go_simp
                            go_at_call 24; refine (bytes_any9 (HDH.out.step HBI.out)).mono ?_; rintro e wJ ⟨vJ, rfl, hvJ, hbJ⟩
                            have HBJ := Lib.hid hbJ
                            have HVJ := Lib.hid (show wJ.ownsRow wI.heap.size 5 1 vJ (k * 128) (rowV sF.fl) from by have := hvJ; rw [HLF.out] at this; exact this)
                            have HVIJ := Lib.hid (owns_eq HVI.out (fun g e => hbJ.block g (HVI.out.lt g e).2))
                            clear hbJ hvJ
                            try (go_wp2_with fail)
                            refine hK.out _ _ trivial (fun hHeld => ?_)
                            clear hK K
                            try simp only [Act.put, List.getElem_toArray, List.getElem_cons_zero, List.getElem_cons_succ, List.setIfInBounds_toArray, List.set_cons_zero, List.set_cons_succ]
                            refine wpAnyH_ready (rs := [14]) (by kernel_rfl) (by simp) ?_
                            refine AllReadyH.cons rfl (fun K hK => ?_) AllReadyH.nil
                            (try simp only [List.getElem_toArray, List.getElem_cons_zero, List.getElem_cons_succ])
                            have hcv := conv_flat HVJ.out hkk
                            rw [HFB.out] at hcv
                            go_simp
                            refine hK.out _ _ trivial (fun hHeld => ?_)
                            clear hK K hcv
                            try simp only [Act.put, List.getElem_toArray, List.getElem_cons_zero, List.getElem_cons_succ, List.setIfInBounds_toArray, List.set_cons_zero, List.set_cons_succ]
                            refine wpAnyH_take (i := 15) (v := ?_) rfl (by kernel_rfl) (by kernel_rfl) (by kernel_rfl) (fun _ _ _ h => h) (Or.inl ⟨by rfl, ?_⟩) (by assumption) ?_
                            rotate_left
                            · (intro w hSw; have hSc := hSw; (try simp only [List.getElem_toArray, List.getElem_cons_zero, List.getElem_cons_succ]); go_simp; try (with_reducible rfl))
                            try simp only [Act.put, List.getElem_toArray, List.getElem_cons_zero, List.getElem_cons_succ, List.setIfInBounds_toArray, List.set_cons_zero, List.set_cons_succ]
                            refine wpAnyH_take (i := 16) (v := ?_) rfl (by kernel_rfl) (by kernel_rfl) (by kernel_rfl) (fun _ _ _ h => h) (Or.inl ⟨by rfl, ?_⟩) (by assumption) ?_
                            rotate_left
                            · (intro w hSw; have hSc := hSw; (try simp only [List.getElem_toArray, List.getElem_cons_zero, List.getElem_cons_succ]); go_simp; try (with_reducible rfl))
                            try simp only [Act.put, List.getElem_toArray, List.getElem_cons_zero, List.getElem_cons_succ, List.setIfInBounds_toArray, List.set_cons_zero, List.set_cons_succ]
                            refine wpAnyH_take (i := 17) (v := ?_) rfl (by kernel_rfl) (by kernel_rfl) (by kernel_rfl) (fun _ _ _ h => h) (Or.inl ⟨by rfl, ?_⟩) (by assumption) ?_
                            rotate_left
                            · (intro w hSw; have hSc := hSw; (try simp only [List.getElem_toArray, List.getElem_cons_zero, List.getElem_cons_succ]); go_simp; try (with_reducible rfl))
                            try simp only [Act.put, List.getElem_toArray, List.getElem_cons_zero, List.getElem_cons_succ, List.setIfInBounds_toArray, List.set_cons_zero, List.set_cons_succ]
                            refine wpAnyH_done (by kernel_rfl) ?_ _
                            refine NoPanic.normal ?_
                            go_wp2
                            go_ret
                            exact ⟨rfl, HBG.out.trans ((HBH.out.trans ((HBI.out.trans (HBJ.out.mono HBI.out.size)).mono HBH.out.size)).mono hsG)⟩
                          · (try simp only [List.getElem_toArray, List.getElem_cons_zero, List.getElem_cons_succ]); go_simp
                            go_at_call 24; refine (bytes_any9 (HDH.out.step HBI.out)).mono ?_; rintro e wJ ⟨vJ, rfl, hvJ, hbJ⟩
                            have HBJ := Lib.hid hbJ
                            have HVJ := Lib.hid (show wJ.ownsRow wI.heap.size 5 1 vJ (k * 128) (rowV sF.fl) from by have := hvJ; rw [HLF.out] at this; exact this)
                            have HVIJ := Lib.hid (owns_eq HVI.out (fun g e => hbJ.block g (HVI.out.lt g e).2))
                            clear hbJ hvJ
                            try (go_wp2_with fail)
                            refine hK.out _ _ trivial (fun hHeld => ?_)
                            clear hK K
                            try simp only [Act.put, List.getElem_toArray, List.getElem_cons_zero, List.getElem_cons_succ, List.setIfInBounds_toArray, List.set_cons_zero, List.set_cons_succ]
                            refine wpAnyH_ready (rs := [11, 14]) (by kernel_rfl) (by simp) ?_
                            refine (AllReadyH.cons rfl (fun K hK => ?_) (AllReadyH.cons rfl (fun K hK => ?_) AllReadyH.nil))
                            · (try simp only [List.getElem_toArray, List.getElem_cons_zero, List.getElem_cons_succ])
                              have hcv := conv_flat HVIJ.out hkk
                              rw [HFB.out] at hcv
                              go_simp
                              refine hK.out _ _ trivial (fun hHeld => ?_)
                              clear hK K hcv
                              try simp only [Act.put, List.getElem_toArray, List.getElem_cons_zero, List.getElem_cons_succ, List.setIfInBounds_toArray, List.set_cons_zero, List.set_cons_succ]
                              refine wpAnyH_ready (rs := [14]) (by kernel_rfl) (by simp) ?_
                              refine AllReadyH.cons rfl (fun K hK => ?_) AllReadyH.nil
                              (try simp only [List.getElem_toArray, List.getElem_cons_zero, List.getElem_cons_succ])
                              have hcv := conv_flat HVJ.out hkk
                              rw [HFB.out] at hcv
                              go_simp
                              refine hK.out _ _ trivial (fun hHeld => ?_)
                              clear hK K hcv
                              try simp only [Act.put, List.getElem_toArray, List.getElem_cons_zero, List.getElem_cons_succ, List.setIfInBounds_toArray, List.set_cons_zero, List.set_cons_succ]
                              refine wpAnyH_take (i := 15) (v := ?_) rfl (by kernel_rfl) (by kernel_rfl) (by kernel_rfl) (fun _ _ _ h => h) (Or.inl ⟨by rfl, ?_⟩) (by assumption) ?_
                              rotate_left
                              · (intro w hSw; have hSc := hSw; (try simp only [List.getElem_toArray, List.getElem_cons_zero, List.getElem_cons_succ]); go_simp; try (with_reducible rfl))
                              try simp only [Act.put, List.getElem_toArray, List.getElem_cons_zero, List.getElem_cons_succ, List.setIfInBounds_toArray, List.set_cons_zero, List.set_cons_succ]
                              refine wpAnyH_take (i := 16) (v := ?_) rfl (by kernel_rfl) (by kernel_rfl) (by kernel_rfl) (fun _ _ _ h => h) (Or.inl ⟨by rfl, ?_⟩) (by assumption) ?_
                              rotate_left
                              · (intro w hSw; have hSc := hSw; (try simp only [List.getElem_toArray, List.getElem_cons_zero, List.getElem_cons_succ]); go_simp; try (with_reducible rfl))
                              try simp only [Act.put, List.getElem_toArray, List.getElem_cons_zero, List.getElem_cons_succ, List.setIfInBounds_toArray, List.set_cons_zero, List.set_cons_succ]
                              refine wpAnyH_take (i := 17) (v := ?_) rfl (by kernel_rfl) (by kernel_rfl) (by kernel_rfl) (fun _ _ _ h => h) (Or.inl ⟨by rfl, ?_⟩) (by assumption) ?_
                              rotate_left
                              · (intro w hSw; have hSc := hSw; (try simp only [List.getElem_toArray, List.getElem_cons_zero, List.getElem_cons_succ]); go_simp; try (with_reducible rfl))
                              try simp only [Act.put, List.getElem_toArray, List.getElem_cons_zero, List.getElem_cons_succ, List.setIfInBounds_toArray, List.set_cons_zero, List.set_cons_succ]
                              refine wpAnyH_done (by kernel_rfl) ?_ _
                              refine NoPanic.normal ?_
                              go_wp2
                              go_ret
                              exact ⟨rfl, HBG.out.trans ((HBH.out.trans ((HBI.out.trans (HBJ.out.mono HBI.out.size)).mono HBH.out.size)).mono hsG)⟩
                            · (try simp only [List.getElem_toArray, List.getElem_cons_zero, List.getElem_cons_succ])
                              have hcv := conv_flat HVJ.out hkk
                              rw [HFB.out] at hcv
                              go_simp
                              refine hK.out _ _ trivial (fun hHeld => ?_)
                              clear hK K hcv
                              try simp only [Act.put, List.getElem_toArray, List.getElem_cons_zero, List.getElem_cons_succ, List.setIfInBounds_toArray, List.set_cons_zero, List.set_cons_succ]
                              refine wpAnyH_ready (rs := [11]) (by kernel_rfl) (by simp) ?_
                              refine AllReadyH.cons rfl (fun K hK => ?_) AllReadyH.nil
                              (try simp only [List.getElem_toArray, List.getElem_cons_zero, List.getElem_cons_succ])
                              have hcv := conv_flat HVIJ.out hkk
                              rw [HFB.out] at hcv
                              go_simp
                              refine hK.out _ _ trivial (fun hHeld => ?_)
                              clear hK K hcv
                              try simp only [Act.put, List.getElem_toArray, List.getElem_cons_zero, List.getElem_cons_succ, List.setIfInBounds_toArray, List.set_cons_zero, List.set_cons_succ]
                              refine wpAnyH_take (i := 15) (v := ?_) rfl (by kernel_rfl) (by kernel_rfl) (by kernel_rfl) (fun _ _ _ h => h) (Or.inl ⟨by rfl, ?_⟩) (by assumption) ?_
                              rotate_left
                              · (intro w hSw; have hSc := hSw; (try simp only [List.getElem_toArray, List.getElem_cons_zero, List.getElem_cons_succ]); go_simp; try (with_reducible rfl))
                              try simp only [Act.put, List.getElem_toArray, List.getElem_cons_zero, List.getElem_cons_succ, List.setIfInBounds_toArray, List.set_cons_zero, List.set_cons_succ]
                              refine wpAnyH_take (i := 16) (v := ?_) rfl (by kernel_rfl) (by kernel_rfl) (by kernel_rfl) (fun _ _ _ h => h) (Or.inl ⟨by rfl, ?_⟩) (by assumption) ?_
                              rotate_left
                              · (intro w hSw; have hSc := hSw; (try simp only [List.getElem_toArray, List.getElem_cons_zero, List.getElem_cons_succ]); go_simp; try (with_reducible rfl))
                              try simp only [Act.put, List.getElem_toArray, List.getElem_cons_zero, List.getElem_cons_succ, List.setIfInBounds_toArray, List.set_cons_zero, List.set_cons_succ]
                              refine wpAnyH_take (i := 17) (v := ?_) rfl (by kernel_rfl) (by kernel_rfl) (by kernel_rfl) (fun _ _ _ h => h) (Or.inl ⟨by rfl, ?_⟩) (by assumption) ?_
                              rotate_left
                              · (intro w hSw; have hSc := hSw; (try simp only [List.getElem_toArray, List.getElem_cons_zero, List.getElem_cons_succ]); go_simp; try (with_reducible rfl))
                              try simp only [Act.put, List.getElem_toArray, List.getElem_cons_zero, List.getElem_cons_succ, List.setIfInBounds_toArray, List.set_cons_zero, List.set_cons_succ]
                              refine wpAnyH_done (by kernel_rfl) ?_ _
                              refine NoPanic.normal ?_
                              go_wp2
                              go_ret
                              exact ⟨rfl, HBG.out.trans ((HBH.out.trans ((HBI.out.trans (HBJ.out.mono HBI.out.size)).mono HBH.out.size)).mono hsG)⟩
                    · have HDT := Lib.hid (HD.out.step hb8)
                      have HBT := Lib.hid (HB.out.trans (hb8.mono sr))
                      clear hb8
                      go_wp2_with (go_at_call 10; refine (num_any9 _ _).mono ?_; rintro e w' ⟨rfl, rfl⟩)
                      go_at_call 21
                      refine Calls.mono (flush_yes9 HDT.out 0 k (by rw [Nat.zero_add]; have := HL.out; omega)) ?_
                      rintro e wF ⟨rfl, LF, hdF, htF⟩
                      obtain ⟨sF, hsF⟩ : ∃ sF, s.flushed 0 k = sF := ⟨_, rfl⟩
                      have HPF := Lib.hid (show ∀ i, sF.pd i = [] from fun i => by rw [← hsF]; exact flushed_none HD.out.ok k HL.out i)
                      rw [hsF] at hdF
                      have HDF := Lib.hid hdF
                      have HBF := Lib.hid (HBT.out.trans (htF.below HBT.out.size HO.out))
                      have HLF := Lib.hid (show sF.fl.length = k by rw [← hsF, Dk.flushed_len]; exact HL.out)
                      clear hdF htF hsF
                      go_wp2_with (go_at_call 10; refine (num_any9 _ _).mono ?_; rintro e w' ⟨rfl, rfl⟩)
                      go_at_call 22
                      refine Calls.mono (crash_ok9 HDF.out none [] 0 (keep_nil _ _) (fun x hx => (List.not_mem_nil hx).elim) 0 rfl (by omega) (ok_none sF)) ?_
                      rintro e wG ⟨p, rfl, od, oO, oL, rfl, hoG, -, hbG⟩
                      have HOG := Lib.hid hoG
                      have HDG := Lib.hid (HDF.out.step hbG)
                      have hsFz := HBF.out.size
                      have HBG := Lib.hid (HBF.out.trans (hbG.mono hsFz))
                      have hsG := HBG.out.size
                      clear hoG hbG
                      obtain ⟨FB, hFB⟩ : ∃ FB, strOfNums (flat sF.fl) = FB := ⟨_, rfl⟩
                      have HFB := Lib.hid hFB
                      clear hFB
                      have hkk : 0 < k * 128 := by omega
                      go_wp2_with fail
                      refine wp_region_noPanic ?_
                      refine wp_region_held_drew (S := fun _ => True) (by kernel_rfl) ?_ (fun hHeld => ?_)
                      · exact trivial
                      refine wpAnyH_take (i := 0) (v := ?_) rfl (by kernel_rfl) (by kernel_rfl) (by kernel_rfl) (fun _ _ _ h => h) (Or.inl ⟨by rfl, ?_⟩) (by assumption) ?_
                      rotate_left
                      · (intro w hSw; have hSc := hSw; (try simp only [List.getElem_toArray, List.getElem_cons_zero]); go_simp; try (with_reducible rfl))
                      try simp only [Act.put, List.getElem_toArray, List.getElem_cons_zero, List.setIfInBounds_toArray, List.set_cons_zero, List.set_cons_succ]
                      refine wpAnyH_ready (rs := [1]) (by kernel_rfl) (by simp) ?_
                      refine AllReadyH.cons rfl (fun K hK => ?_) AllReadyH.nil
                      (try simp only [List.getElem_toArray, List.getElem_cons_zero, List.getElem_cons_succ]); go_simp
                      go_at_call 10; refine (num_any9 _ _).mono ?_; rintro e w' ⟨rfl, rfl⟩
                      try (go_wp2_with fail)
                      refine hK.out _ _ (trivial) (fun hHeld => ?_)
                      clear hK K
                      try simp only [Act.put, List.getElem_toArray, List.getElem_cons_zero, List.getElem_cons_succ, List.setIfInBounds_toArray, List.set_cons_zero, List.set_cons_succ]
                      refine wpAnyH_take (i := 2) (v := ?_) rfl (by kernel_rfl) (by kernel_rfl) (by kernel_rfl) (fun _ _ _ h => h) (Or.inl ⟨by rfl, ?_⟩) (by assumption) ?_
                      rotate_left
                      · (intro w hSw; have hSc := hSw; (try simp only [List.getElem_toArray, List.getElem_cons_zero, List.getElem_cons_succ]); go_simp; try (with_reducible rfl))
                      try simp only [Act.put, List.getElem_toArray, List.getElem_cons_zero, List.getElem_cons_succ, List.setIfInBounds_toArray, List.set_cons_zero, List.set_cons_succ]
                      refine wpAnyH_take (i := 3) (v := ?_) rfl (by kernel_rfl) (by kernel_rfl) (by kernel_rfl) (fun _ _ _ h => h) (Or.inl ⟨by rfl, ?_⟩) (by assumption) ?_
                      rotate_left
                      · (intro w hSw; have hSc := hSw; (try simp only [List.getElem_toArray, List.getElem_cons_zero, List.getElem_cons_succ]); go_simp; try (with_reducible rfl))
                      try simp only [Act.put, List.getElem_toArray, List.getElem_cons_zero, List.getElem_cons_succ, List.setIfInBounds_toArray, List.set_cons_zero, List.set_cons_succ]
                      refine wpAnyH_take (i := 4) (v := ?_) rfl (by kernel_rfl) (by kernel_rfl) (by kernel_rfl) (fun _ _ _ h => h) (Or.inl ⟨by rfl, ?_⟩) (by assumption) ?_
                      rotate_left
                      · (intro w hSw; have hSc := hSw; (try simp only [List.getElem_toArray, List.getElem_cons_zero, List.getElem_cons_succ]); go_simp; try (with_reducible rfl))
                      try simp only [Act.put, List.getElem_toArray, List.getElem_cons_zero, List.getElem_cons_succ, List.setIfInBounds_toArray, List.set_cons_zero, List.set_cons_succ]
                      refine wpAnyH_take (i := 5) (v := ?_) rfl (by kernel_rfl) (by kernel_rfl) (by kernel_rfl) (fun _ _ _ h => h) (Or.inl ⟨by rfl, ?_⟩) (by assumption) ?_
                      rotate_left
                      · (intro w hSw; have hSc := hSw; (try simp only [List.getElem_toArray, List.getElem_cons_zero, List.getElem_cons_succ]); go_simp; try (with_reducible rfl))
                      try simp only [Act.put, List.getElem_toArray, List.getElem_cons_zero, List.getElem_cons_succ, List.setIfInBounds_toArray, List.set_cons_zero, List.set_cons_succ]
                      refine wpAnyH_ready (rs := [6]) (by kernel_rfl) (by simp) ?_
                      refine AllReadyH.cons rfl (fun K hK => ?_) AllReadyH.nil
                      (try simp only [List.getElem_toArray, List.getElem_cons_zero, List.getElem_cons_succ]); go_simp
                      go_at_call 17; refine (same_none9 (HOG.out.step ((Below.refl _ wG).drew)) (HDG.out.step ((Below.refl _ wG).drew)) rfl (fun i => rfl) HPF.out).mono ?_; rintro e wH ⟨rfl, hbH⟩
                      have HBH := Lib.hid (show Below wG.heap.size wG wH from (Below.refl _ wG).drew.trans hbH)
                      have HOH := Lib.hid (HOG.out.step HBH.out)
                      have HDH := Lib.hid (HDG.out.step HBH.out)
                      clear hbH
                      try (go_wp2_with fail)
                      refine hK.out _ _ (trivial) (fun hHeld => ?_)
                      clear hK K
                      try simp only [Act.put, List.getElem_toArray, List.getElem_cons_zero, List.getElem_cons_succ, List.setIfInBounds_toArray, List.set_cons_zero, List.set_cons_succ]
                      refine wpAnyH_take (i := 7) (v := ?_) rfl (by kernel_rfl) (by kernel_rfl) (by kernel_rfl) (fun _ _ _ h => h) (Or.inl ⟨by rfl, ?_⟩) (by assumption) ?_
                      rotate_left
                      · (intro w hSw; have hSc := hSw; (try simp only [List.getElem_toArray, List.getElem_cons_zero, List.getElem_cons_succ]); go_simp; try (with_reducible rfl))
                      try simp only [Act.put, List.getElem_toArray, List.getElem_cons_zero, List.getElem_cons_succ, List.setIfInBounds_toArray, List.set_cons_zero, List.set_cons_succ]
                      refine wpAnyH_take (i := 8) (v := ?_) rfl (by kernel_rfl) (by kernel_rfl) (by kernel_rfl) (fun _ _ _ h => h) (Or.inl ⟨by rfl, ?_⟩) (by assumption) ?_
                      rotate_left
                      · (intro w hSw; have hSc := hSw; (try simp only [List.getElem_toArray, List.getElem_cons_zero, List.getElem_cons_succ]); go_simp; try (with_reducible rfl))
                      try simp only [Act.put, List.getElem_toArray, List.getElem_cons_zero, List.getElem_cons_succ, List.setIfInBounds_toArray, List.set_cons_zero, List.set_cons_succ]
                      refine wpAnyH_take (i := 9) (v := ?_) rfl (by kernel_rfl) (by kernel_rfl) (by kernel_rfl) (fun _ _ _ h => h) (Or.inl ⟨by rfl, ?_⟩) (by assumption) ?_
                      rotate_left
                      · (intro w hSw; have hSc := hSw; (try simp only [List.getElem_toArray, List.getElem_cons_zero, List.getElem_cons_succ]); go_simp; try (with_reducible rfl))
                      try simp only [Act.put, List.getElem_toArray, List.getElem_cons_zero, List.getElem_cons_succ, List.setIfInBounds_toArray, List.set_cons_zero, List.set_cons_succ]
                      refine wpAnyH_take (i := 12) (v := ?_) rfl (by kernel_rfl) (by kernel_rfl) (by kernel_rfl) (fun _ _ _ h => h) (Or.inl ⟨by rfl, ?_⟩) (by assumption) ?_
                      rotate_left
                      · (intro w hSw; have hSc := hSw; (try simp only [List.getElem_toArray, List.getElem_cons_zero, List.getElem_cons_succ]); go_simp; try (with_reducible rfl))
                      try simp only [Act.put, List.getElem_toArray, List.getElem_cons_zero, List.getElem_cons_succ, List.setIfInBounds_toArray, List.set_cons_zero, List.set_cons_succ]
                      refine wpAnyH_ready (rs := [10]) (by kernel_rfl) (by simp) ?_
                      refine AllReadyH.cons rfl (fun K hK => ?_) AllReadyH.nil
                      (try simp only [List.getElem_toArray, List.getElem_cons_zero, List.getElem_cons_succ]); go_simp
                      go_at_call 24; refine (bytes_any9 HOH.out).mono ?_; rintro e wI ⟨vI, rfl, hvI, hbI⟩
                      have HBI := Lib.hid hbI
                      have HVI := Lib.hid (show wI.ownsRow wH.heap.size 5 1 vI (k * 128) (rowV sF.fl) from by have := hvI; rw [show (sF.crash [] 0).fl = sF.fl from rfl, HLF.out] at this; exact this)
                      clear hbI hvI
                      try (go_wp2_with fail)
                      refine hK.out _ _ (trivial) (fun hHeld => ?_)
                      clear hK K
                      try simp only [Act.put, List.getElem_toArray, List.getElem_cons_zero, List.getElem_cons_succ, List.setIfInBounds_toArray, List.set_cons_zero, List.set_cons_succ]
                      refine wpAnyH_ready (rs := [11, 13]) (by kernel_rfl) (by simp) ?_
                      refine (AllReadyH.cons rfl (fun K hK => ?_) (AllReadyH.cons rfl (fun K hK => ?_) AllReadyH.nil))
                      · (try simp only [List.getElem_toArray, List.getElem_cons_zero, List.getElem_cons_succ])
                        have hcv := conv_flat HVI.out hkk
                        rw [HFB.out] at hcv
                        go_simp
                        refine hK.out _ _ trivial (fun hHeld => ?_)
                        clear hK K hcv
                        try simp only [Act.put, List.getElem_toArray, List.getElem_cons_zero, List.getElem_cons_succ, List.setIfInBounds_toArray, List.set_cons_zero, List.set_cons_succ]
                        refine wpAnyH_ready (rs := [13]) (by kernel_rfl) (by simp) ?_
                        refine AllReadyH.cons rfl (fun K hK => ?_) AllReadyH.nil
                        (try simp only [List.getElem_toArray, List.getElem_cons_zero, List.getElem_cons_succ]); go_simp
                        go_at_call 24; refine (bytes_any9 (HDH.out.step HBI.out)).mono ?_; rintro e wJ ⟨vJ, rfl, hvJ, hbJ⟩
                        have HBJ := Lib.hid hbJ
                        have HVJ := Lib.hid (show wJ.ownsRow wI.heap.size 5 1 vJ (k * 128) (rowV sF.fl) from by have := hvJ; rw [HLF.out] at this; exact this)
                        have HVIJ := Lib.hid (owns_eq HVI.out (fun g e => hbJ.block g (HVI.out.lt g e).2))
                        clear hbJ hvJ
                        try (go_wp2_with fail)
                        refine hK.out _ _ trivial (fun hHeld => ?_)
                        clear hK K
                        try simp only [Act.put, List.getElem_toArray, List.getElem_cons_zero, List.getElem_cons_succ, List.setIfInBounds_toArray, List.set_cons_zero, List.set_cons_succ]
                        refine wpAnyH_ready (rs := [14]) (by kernel_rfl) (by simp) ?_
                        refine AllReadyH.cons rfl (fun K hK => ?_) AllReadyH.nil
                        (try simp only [List.getElem_toArray, List.getElem_cons_zero, List.getElem_cons_succ])
                        have hcv := conv_flat HVJ.out hkk
                        rw [HFB.out] at hcv
                        go_simp
                        refine hK.out _ _ trivial (fun hHeld => ?_)
                        clear hK K hcv
                        try simp only [Act.put, List.getElem_toArray, List.getElem_cons_zero, List.getElem_cons_succ, List.setIfInBounds_toArray, List.set_cons_zero, List.set_cons_succ]
                        refine wpAnyH_take (i := 15) (v := ?_) rfl (by kernel_rfl) (by kernel_rfl) (by kernel_rfl) (fun _ _ _ h => h) (Or.inl ⟨by rfl, ?_⟩) (by assumption) ?_
                        rotate_left
                        · (intro w hSw; have hSc := hSw; (try simp only [List.getElem_toArray, List.getElem_cons_zero, List.getElem_cons_succ]); go_simp; try (with_reducible rfl))
                        try simp only [Act.put, List.getElem_toArray, List.getElem_cons_zero, List.getElem_cons_succ, List.setIfInBounds_toArray, List.set_cons_zero, List.set_cons_succ]
                        refine wpAnyH_take (i := 16) (v := ?_) rfl (by kernel_rfl) (by kernel_rfl) (by kernel_rfl) (fun _ _ _ h => h) (Or.inl ⟨by rfl, ?_⟩) (by assumption) ?_
                        rotate_left
                        · (intro w hSw; have hSc := hSw; (try simp only [List.getElem_toArray, List.getElem_cons_zero, List.getElem_cons_succ]); go_simp; try (with_reducible rfl))
                        try simp only [Act.put, List.getElem_toArray, List.getElem_cons_zero, List.getElem_cons_succ, List.setIfInBounds_toArray, List.set_cons_zero, List.set_cons_succ]
                        refine wpAnyH_take (i := 17) (v := ?_) rfl (by kernel_rfl) (by kernel_rfl) (by kernel_rfl) (fun _ _ _ h => h) (Or.inl ⟨by rfl, ?_⟩) (by assumption) ?_
                        rotate_left
                        · (intro w hSw; have hSc := hSw; (try simp only [List.getElem_toArray, List.getElem_cons_zero, List.getElem_cons_succ]); go_simp; try (with_reducible rfl))
                        try simp only [Act.put, List.getElem_toArray, List.getElem_cons_zero, List.getElem_cons_succ, List.setIfInBounds_toArray, List.set_cons_zero, List.set_cons_succ]
                        refine wpAnyH_done (by kernel_rfl) ?_ _
                        refine NoPanic.normal ?_
                        go_wp2
                        go_ret
                        exact ⟨rfl, HBG.out.trans ((HBH.out.trans ((HBI.out.trans (HBJ.out.mono HBI.out.size)).mono HBH.out.size)).mono hsG)⟩
                      · (try simp only [List.getElem_toArray, List.getElem_cons_zero, List.getElem_cons_succ]); go_simp
                        go_at_call 24; refine (bytes_any9 (HDH.out.step HBI.out)).mono ?_; rintro e wJ ⟨vJ, rfl, hvJ, hbJ⟩
                        have HBJ := Lib.hid hbJ
                        have HVJ := Lib.hid (show wJ.ownsRow wI.heap.size 5 1 vJ (k * 128) (rowV sF.fl) from by have := hvJ; rw [HLF.out] at this; exact this)
                        have HVIJ := Lib.hid (owns_eq HVI.out (fun g e => hbJ.block g (HVI.out.lt g e).2))
                        clear hbJ hvJ
                        try (go_wp2_with fail)
                        refine hK.out _ _ trivial (fun hHeld => ?_)
                        clear hK K
                        try simp only [Act.put, List.getElem_toArray, List.getElem_cons_zero, List.getElem_cons_succ, List.setIfInBounds_toArray, List.set_cons_zero, List.set_cons_succ]
                        refine wpAnyH_ready (rs := [11, 14]) (by kernel_rfl) (by simp) ?_
                        refine (AllReadyH.cons rfl (fun K hK => ?_) (AllReadyH.cons rfl (fun K hK => ?_) AllReadyH.nil))
                        · (try simp only [List.getElem_toArray, List.getElem_cons_zero, List.getElem_cons_succ])
                          have hcv := conv_flat HVIJ.out hkk
                          rw [HFB.out] at hcv
                          go_simp
                          refine hK.out _ _ trivial (fun hHeld => ?_)
                          clear hK K hcv
                          try simp only [Act.put, List.getElem_toArray, List.getElem_cons_zero, List.getElem_cons_succ, List.setIfInBounds_toArray, List.set_cons_zero, List.set_cons_succ]
                          refine wpAnyH_ready (rs := [14]) (by kernel_rfl) (by simp) ?_
                          refine AllReadyH.cons rfl (fun K hK => ?_) AllReadyH.nil
                          (try simp only [List.getElem_toArray, List.getElem_cons_zero, List.getElem_cons_succ])
                          have hcv := conv_flat HVJ.out hkk
                          rw [HFB.out] at hcv
                          go_simp
                          refine hK.out _ _ trivial (fun hHeld => ?_)
                          clear hK K hcv
                          try simp only [Act.put, List.getElem_toArray, List.getElem_cons_zero, List.getElem_cons_succ, List.setIfInBounds_toArray, List.set_cons_zero, List.set_cons_succ]
                          refine wpAnyH_take (i := 15) (v := ?_) rfl (by kernel_rfl) (by kernel_rfl) (by kernel_rfl) (fun _ _ _ h => h) (Or.inl ⟨by rfl, ?_⟩) (by assumption) ?_
                          rotate_left
                          · (intro w hSw; have hSc := hSw; (try simp only [List.getElem_toArray, List.getElem_cons_zero, List.getElem_cons_succ]); go_simp; try (with_reducible rfl))
                          try simp only [Act.put, List.getElem_toArray, List.getElem_cons_zero, List.getElem_cons_succ, List.setIfInBounds_toArray, List.set_cons_zero, List.set_cons_succ]
                          refine wpAnyH_take (i := 16) (v := ?_) rfl (by kernel_rfl) (by kernel_rfl) (by kernel_rfl) (fun _ _ _ h => h) (Or.inl ⟨by rfl, ?_⟩) (by assumption) ?_
                          rotate_left
                          · (intro w hSw; have hSc := hSw; (try simp only [List.getElem_toArray, List.getElem_cons_zero, List.getElem_cons_succ]); go_simp; try (with_reducible rfl))
                          try simp only [Act.put, List.getElem_toArray, List.getElem_cons_zero, List.getElem_cons_succ, List.setIfInBounds_toArray, List.set_cons_zero, List.set_cons_succ]
                          refine wpAnyH_take (i := 17) (v := ?_) rfl (by kernel_rfl) (by kernel_rfl) (by kernel_rfl) (fun _ _ _ h => h) (Or.inl ⟨by rfl, ?_⟩) (by assumption) ?_
                          rotate_left
                          · (intro w hSw; have hSc := hSw; (try simp only [List.getElem_toArray, List.getElem_cons_zero, List.getElem_cons_succ]); go_simp; try (with_reducible rfl))
                          try simp only [Act.put, List.getElem_toArray, List.getElem_cons_zero, List.getElem_cons_succ, List.setIfInBounds_toArray, List.set_cons_zero, List.set_cons_succ]
                          refine wpAnyH_done (by kernel_rfl) ?_ _
                          refine NoPanic.normal ?_
                          go_wp2
                          go_ret
                          exact ⟨rfl, HBG.out.trans ((HBH.out.trans ((HBI.out.trans (HBJ.out.mono HBI.out.size)).mono HBH.out.size)).mono hsG)⟩
                        · (try simp only [List.getElem_toArray, List.getElem_cons_zero, List.getElem_cons_succ])
                          have hcv := conv_flat HVJ.out hkk
                          rw [HFB.out] at hcv
                          go_simp
                          refine hK.out _ _ trivial (fun hHeld => ?_)
                          clear hK K hcv
                          try simp only [Act.put, List.getElem_toArray, List.getElem_cons_zero, List.getElem_cons_succ, List.setIfInBounds_toArray, List.set_cons_zero, List.set_cons_succ]
                          refine wpAnyH_ready (rs := [11]) (by kernel_rfl) (by simp) ?_
                          refine AllReadyH.cons rfl (fun K hK => ?_) AllReadyH.nil
                          (try simp only [List.getElem_toArray, List.getElem_cons_zero, List.getElem_cons_succ])
                          have hcv := conv_flat HVIJ.out hkk
                          rw [HFB.out] at hcv
                          go_simp
                          refine hK.out _ _ trivial (fun hHeld => ?_)
                          clear hK K hcv
                          try simp only [Act.put, List.getElem_toArray, List.getElem_cons_zero, List.getElem_cons_succ, List.setIfInBounds_toArray, List.set_cons_zero, List.set_cons_succ]
                          refine wpAnyH_take (i := 15) (v := ?_) rfl (by kernel_rfl) (by kernel_rfl) (by kernel_rfl) (fun _ _ _ h => h) (Or.inl ⟨by rfl, ?_⟩) (by assumption) ?_
                          rotate_left
                          · (intro w hSw; have hSc := hSw; (try simp only [List.getElem_toArray, List.getElem_cons_zero, List.getElem_cons_succ]); go_simp; try (with_reducible rfl))
                          try simp only [Act.put, List.getElem_toArray, List.getElem_cons_zero, List.getElem_cons_succ, List.setIfInBounds_toArray, List.set_cons_zero, List.set_cons_succ]
                          refine wpAnyH_take (i := 16) (v := ?_) rfl (by kernel_rfl) (by kernel_rfl) (by kernel_rfl) (fun _ _ _ h => h) (Or.inl ⟨by rfl, ?_⟩) (by assumption) ?_
                          rotate_left
                          · (intro w hSw; have hSc := hSw; (try simp only [List.getElem_toArray, List.getElem_cons_zero, List.getElem_cons_succ]); go_simp; try (with_reducible rfl))
                          try simp only [Act.put, List.getElem_toArray, List.getElem_cons_zero, List.getElem_cons_succ, List.setIfInBounds_toArray, List.set_cons_zero, List.set_cons_succ]
                          refine wpAnyH_take (i := 17) (v := ?_) rfl (by kernel_rfl) (by kernel_rfl) (by kernel_rfl) (fun _ _ _ h => h) (Or.inl ⟨by rfl, ?_⟩) (by assumption) ?_
                          rotate_left
                          · (intro w hSw; have hSc := hSw; (try simp only [List.getElem_toArray, List.getElem_cons_zero, List.getElem_cons_succ]); go_simp; try (with_reducible rfl))
                          try simp only [Act.put, List.getElem_toArray, List.getElem_cons_zero, List.getElem_cons_succ, List.setIfInBounds_toArray, List.set_cons_zero, List.set_cons_succ]
                          refine wpAnyH_done (by kernel_rfl) ?_ _
                          refine NoPanic.normal ?_
                          go_wp2
                          go_ret
                          exact ⟨rfl, HBG.out.trans ((HBH.out.trans ((HBI.out.trans (HBJ.out.mono HBI.out.size)).mono HBH.out.size)).mono hsG)⟩
end Go.Proofs.Ytbnfjceoogehmaa
