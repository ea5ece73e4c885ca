/- PortsOrder. -/
import Derived.Test.YtakpankipagndaaPoX2
import Derived.Test.YtakpankipagndaaPoW
namespace Go.Proofs.Ytakpankipagndaa
open Go.RowKit (wrap64)
open Go.RowKit
open Go.Maps (Keyed)
attribute [local go_sem] Oper.semAt_some

theorem ord_start {s : Ps} (hq : s = newPs [1]) {L : List Ts} (hm : mayF L = true) : (claimR s 0 L).2.1 = 0 ∧ OrdS (claimR s 0 L).2.2 [] := by
  subst hq
  have h1 : (newPs [1]).acc 0 = true := by decide +kernel
  have h2 : (newPs [1]).free 0 = some 0 := by decide +kernel
  unfold claimR
  rw [if_pos ⟨h1, hm⟩, h2]
  have hok := newPs_ok (qs := [1]) (by decide +kernel)
  refine ⟨rfl, ⟨⟨hok.q1, hok.q2, hok.q3, fun a n X hX => ?_, fun a n X hX => ?_⟩, rfl, newCl L, Ps.cl_same _ _ _ _, rfl⟩⟩
  · by_cases e : a = 0 ∧ n = ((0 : Nat) : Int)
    · rw [e.1, e.2]; exact ⟨h1, by decide, (show (0 : Int) < ((newPs [1]).qt 0 : Int) by decide +kernel)⟩
    · have h3 : ((newPs [1]).claimed 0 ((0 : Nat) : Int) L).c a n = some X := hX
      rw [Ps.cl_other _ _ _ _ e] at h3
      cases h3
  · by_cases e : a = 0 ∧ n = ((0 : Nat) : Int)
    · have h3 : ((newPs [1]).claimed 0 ((0 : Nat) : Int) L).c a n = some X := hX
      rw [e.1, e.2, Ps.cl_same] at h3
      cases h3
      exact newCl_ok hm
    · have h3 : ((newPs [1]).claimed 0 ((0 : Nat) : Int) L).c a n = some X := hX
      rw [Ps.cl_other _ _ _ _ e] at h3
      cases h3
theorem ord_bad {s : Ps} {L : List Ts} (hm : mayF L = false) : (claimR s 0 L).2.1 = 2 := by
  unfold claimR
  rw [if_neg (by rw [hm]; simp)]
set_option maxHeartbeats 32000000 in
set_option maxRecDepth 100000 in
theorem order_law12 (w : World) (Af : Option Addr) (cf : Nat) (Lf : List Ts) (hF : FlIn w Af Lf.length cf Lf) (hn : (Lf.length : Int) ≤ 9223372036854775807) (Ap : Option Addr) (mp cp : Nat) (Pl : List Pk12) (hP : PksIn w Ap Pl) (hm : Pl.length = mp) (hmn : (mp : Int) ≤ 9223372036854775807) (At : Option Addr) (mt ct : Nat) (ft : Nat → Bool) (hB : BoolsIn w At mt ft) (hnt : (mt : Int) ≤ 9223372036854775807) :
    Calls Try.prog 5 #[.slice Af Lf.length cf, .slice Ap mp cp, .slice At mt ct] w fun e w' => e = .returned (.bool true) ∧ Below w.heap.size w w' := by
  obtain ⟨i0, hi, hz0, hz1, hz2⟩ := info_parts Try.inStr12
  have HF := Lib.hid hF
  have HP := Lib.hid hP
  have HM := Lib.hid hm
  have HB := Lib.hid hB
  obtain ⟨nf, hnf⟩ : ∃ nf, Lf.length = nf := ⟨_, rfl⟩
  have HNF := Lib.hid hnf
  rw [hnf] at HF hn ⊢
  clear hF hP hm hB hnf
  by_cases h20 : (20 : Int) < nf
  · go_enter Try.func5, Try.ntmps5
    go_wp2_with (go_at_call 9; refine (known_any12 _).mono ?_; rintro e wk ⟨rfl, hb⟩; have HBK := Lib.hid hb; clear hb)
    go_ret
    exact ⟨rfl, HBK.out⟩
  by_cases h100 : (100 : Int) < mp
  · go_enter Try.func5, Try.ntmps5
    go_wp2_with (go_at_call 9; refine (known_any12 _).mono ?_; rintro e wk ⟨rfl, hb⟩; have HBK := Lib.hid hb; clear hb)
    go_ret
    exact ⟨rfl, HBK.out⟩
  go_enter Try.func5, Try.ntmps5
  go_wp2_with fail
  go_at_call 10
  have hba : Below w.heap.size w (w.alloc (.cells #[.int .i64 1] 3)) := (Below.refl _ w).alloc (Nat.le_refl _) _
  refine Calls.mono (begin_yes12 _ (some ⟨w.heap.size, 0, none⟩) [1] 1 1 rfl (ints_row12 (heap_alloc_new w _)) (fun e => by cases e) (by decide +kernel)) ?_
  rintro e w3 ⟨p, r1, O1, Q1, L1, RQ1, Y1, rfl, hp1⟩
  have HK := Lib.hid (show KnP w w3 p (newPs [1]) O1 Q1 L1 from ⟨hp1.po, fun k hk => Nat.le_trans hba.size (hp1.lo k hk), hba.trans (hp1.bl.mono hba.size)⟩)
  clear hp1 hba
  go_wp2_with fail
  go_at_call 17
  refine Calls.mono (side_claim HK.out.po 0 (HF.out.below HK.out.bl) hn (by decide)) ?_
  rintro e w4 ⟨rfl, k4⟩
  cases hmf : mayF Lf with
  | false =>
    rw [ord_bad hmf]
    obtain ⟨O', R', L', K4⟩ := HK.out.to k4
    have HB4 := Lib.hid K4.bl
    clear k4 K4 HK
    generalize (claimR (newPs [1]) 0 Lf).1 = cl1
    go_wp2_with (first
      | (go_at_call 18; refine (num_any12 _ _).mono ?_; rintro e w' ⟨rfl, rfl⟩)
      | (go_at_call 9; refine (known_any12 _).mono ?_; rintro e wk ⟨rfl, hb⟩; have HBK := Lib.hid (HB4.out.trans (hb.mono HB4.out.size)); clear hb))
    go_ret
    exact ⟨rfl, HBK.out⟩
  | true =>
    obtain ⟨hc1, hs1⟩ := ord_start rfl hmf
    rw [hc1]
    have HO0 := Lib.hid (show OrdAt w w4 p (claimR (newPs [1]) 0 Lf).2.2 [] [] (.slice none 0 0) (.slice none 0 0) from ord_to HK.out (World.ownsRow_nil _ _ _ _) (World.ownsRow_nil _ _ _ _) (fun k hk => by cases hk) (fun k hk => by cases hk) k4)
    have HS0 := Lib.hid hs1
    clear k4 HK hc1 hs1 hmf
    generalize (claimR (newPs [1]) 0 Lf).1 = cl1
    generalize (claimR (newPs [1]) 0 Lf).2.2 = s0 at HO0 HS0
    go_wp2_with (go_at_call 18; refine (num_any12 _ _).mono ?_; rintro e w' ⟨rfl, rfl⟩)
    go_loopw [12, 13, 14] (fun v u i W => ∃ (k : Nat) (s : Ps) (cm gt rg : List (List Nat)), i = .int .i64 (k : Int) ∧ k ≤ mp ∧ OrdAt w W p s cm gt v u ∧ OrdS s rg ∧ cm = gt ++ rg ∧ cm.length ≤ k) (fun _ _ i _ => mp - (intOf i).toNat)
    case atStart => exact ⟨0, s0, [], [], [], rfl, Nat.zero_le _, HO0.out, HS0.out, rfl, Nat.le_refl _⟩
    case round =>
      obtain ⟨k, s, cm, gt, rg, rfl, hk, ho, hs, he, hcl⟩ := hrel
      have HO := Lib.hid ho
      have HS := Lib.hid hs
      have HE := Lib.hid he
      have HCL := Lib.hid (show cm.length ≤ k + 1 by omega)
      have HCL0 := Lib.hid hcl
      clear ho hs he hcl HO0 HS0
      by_cases hlt : k < mp
      · have hlt' : (k : Int) < (mp : Int) := by omega
        obtain ⟨x, hx⟩ : ∃ x, Pl[k]? = some x := ⟨_, List.getElem?_eq_getElem (by rw [HM.out]; exact hlt)⟩
        obtain ⟨⟨hpk0, hpn⟩, b, o, rfl, hbl, hcell0⟩ := HP.out k x hx
        obtain ⟨xA, xc, xP⟩ := x
        dsimp only at hpk0 hpn hcell0
        have HPK := Lib.hid hpk0
        have HCW := Lib.hid (fun W (hb : Below w.heap.size w W) => (hb.cell (p := ⟨b, o + k, none⟩) hbl).trans hcell0)
        have hcell := HCW.out _ HO.out.bl
        have HFAR := Lib.hid (show ∀ b o z, xA = some ⟨b, o, z⟩ → xP ≠ [] → b < w.heap.size from fun b o z e hne => by
          obtain ⟨y, hy⟩ : ∃ y, xP[0]? = some y := by
            cases hp : xP with
            | nil => exact absurd hp hne
            | cons y _ => exact ⟨y, rfl⟩
          obtain ⟨-, b', o', e', hlt, -⟩ := hpk0.pk 0 y hy
          rw [e] at e'
          cases e'
          exact hlt)
        clear hx hcell0 hpk0 hbl
        by_cases h1 : (100 : Int) < (xP.length : Int)
        · go_wp2_with fail
          go_roundw
          case rel => exact ⟨k + 1, s, cm, gt, rg, by go_num, hlt, HO.out, HS.out, HE.out, HCL.out⟩
          case measure => simp [intOf]; omega
        · go_wp2_with fail
          go_at_call 19
          refine Calls.mono (ord_come HO.out (HPK.out.below HO.out.bl) HFAR.out) ?_
          rintro e w6 ⟨l6, rfl, ho6, hord6⟩
          have hcell6 := HCW.out _ hord6.bl
          have hcv6 := conv_pk (HPK.out.below hord6.bl).pk _ xc rfl
          obtain ⟨A6, c6, rfl, hca6⟩ := CaIn.of_own ho6
          rcases HS.out.come xP with ⟨q2, q3⟩ | ⟨q1, q2, q3⟩ | ⟨q1, q2, q3⟩
          · have HO := Lib.hid hord6
            have HS := Lib.hid q3
            rw [q2]
            clear hord6 q3 hca6 ho6 q2 hcell hcv6
            generalize (comeR s xP).1 = code at *
            generalize (comeR s xP).2.1 = s6 at *
            by_cases hcode : code = 0
            · subst hcode
              have hl8 := HS.out.len.2
              have HGL := Lib.hid (show gt.length ≤ 200 by have h1 := HCL.out; rw [HE.out, List.length_append] at h1; omega)
              have HLEN := Lib.hid HS.out.len.1
              have hl8' : ¬ (8 : Int) < (rg.length : Int) := by omega
              clear hl8
              by_cases hkt : k < mt
              · have hkt' : (k : Int) < (mt : Int) := by omega
                cases hft : ft k with
                | false =>
                  obtain ⟨bt, ot, rfl, hbl0, hbc0⟩ := HB.out k hkt
                  have HBC := Lib.hid (And.intro hbl0 hbc0)
                  rw [hft] at HBC
                  have HBCW := Lib.hid (fun W (hb : Below w.heap.size w W) => (hb.cell (p := ⟨bt, ot + k, none⟩) HBC.out.1).trans HBC.out.2)
                  clear hft hbl0 hbc0
                  have hbcw := HBCW.out _ HO.out.bl
                  go_wp2_with (first | (go_at_call 18; refine (num_any12 _ _).mono ?_; rintro e w' ⟨rfl, rfl⟩) | (go_at_call 20; refine (ord_len HO.out).mono ?_; rintro e w' ⟨rfl, rfl⟩; rw [HLEN.out]) | fail)
                  go_roundw
                  case rel => exact ⟨k + 1, _, _, _, _, by go_num, by omega, HO.out, HS.out, HE.out, HCL.out⟩
                  case measure => simp [intOf]; omega
                | true =>
                  obtain ⟨bt, ot, rfl, hbl0, hbc0⟩ := HB.out k hkt
                  have HBC := Lib.hid (And.intro hbl0 hbc0)
                  rw [hft] at HBC
                  have HBCW := Lib.hid (fun W (hb : Below w.heap.size w W) => (hb.cell (p := ⟨bt, ot + k, none⟩) HBC.out.1).trans HBC.out.2)
                  clear hft hbl0 hbc0
                  have hbcw := HBCW.out _ HO.out.bl
                  go_wp2_with (first | (go_at_call 18; refine (num_any12 _ _).mono ?_; rintro e w' ⟨rfl, rfl⟩) | (go_at_call 20; refine (ord_len HO.out).mono ?_; rintro e w' ⟨rfl, rfl⟩; rw [HLEN.out]) | fail)
                  go_at_call 21
                  refine Calls.mono (ord_take HO.out) ?_
                  rintro e w8 ⟨At8, ct8, rfl, hpk8, hord8⟩
                  have hcv8 := conv_pk hpk8 _ ct8 rfl
                  rcases HS.out.take with ⟨hr0, hc0, hp0, hs0⟩ | ⟨tP, rg2, hr0, hc0, hp0, hs0⟩
                  · have HO := Lib.hid hord8
                    have HS := Lib.hid hs0
                    have HE := Lib.hid (show cm = gt ++ [] from HE.out.trans (by rw [hr0]))
                    rw [hc0]
                    clear hord8 hs0 hr0 hc0 hpk8
                    go_wp2_with (go_at_call 18; refine (num_any12 _ _).mono ?_; rintro e w' ⟨rfl, rfl⟩)
                    go_roundw
                    case rel => exact ⟨k + 1, _, _, _, _, by go_num, by omega, HO.out, HS.out, HE.out, HCL.out⟩
                    case measure => simp [intOf]; omega
                  · have HO := Lib.hid hord8
                    have HS := Lib.hid hs0
                    have HE := Lib.hid (show cm = (gt ++ [tP]) ++ rg2 by rw [List.append_assoc]; show cm = gt ++ (tP :: rg2); rw [← hr0]; exact HE.out)
                    rw [hc0]
                    rw [hp0] at hcv8 ⊢
                    clear hord8 hs0 hr0 hc0 hpk8 hp0
                    go_wp2_with (first | (go_at_call 18; refine (num_any12 _ _).mono ?_; rintro e w' ⟨rfl, rfl⟩) | (at_builtin; refine wpList_append_lies _ rfl _ _ 48 rfl w.heap.size 9 i0 (.string ByteArray.empty) 1 16 Try.underlying48 hi hz0 hz1 hz2 rfl (by decide) _ _ _ rfl (HO.out.rowU.alloc _) ⟨w8.heap.size, 0, none⟩ 1 1 [.string (strP tP)] rfl rfl (cells_new w8 [.string (strP tP)] 9) (by simp; rfl) (by decide) (by have := HGL.out; unfold maxLen; omega) (by have := HGL.out; omega) (by have := HO.out.bl.size; rw [World.size_alloc]; omega) (w8.heap.size + 1) (by rw [World.size_alloc]) ?_; intro g9 cap9 w9 hown9 hgrow9 hat9 hgl9; have HO := Lib.hid (HO.out.appU (P := tP) hown9 hgrow9 hat9); clear hown9 hgrow9 hat9 hgl9))
                    go_roundw
                    case rel => exact ⟨k + 1, _, _, _, _, by go_num, by omega, HO.out, HS.out, HE.out, HCL.out⟩
                    case measure => simp [intOf]; omega
              · have hkt' : ¬ (k : Int) < (mt : Int) := by omega
                go_wp2_with (first | (go_at_call 18; refine (num_any12 _ _).mono ?_; rintro e w' ⟨rfl, rfl⟩) | (go_at_call 20; refine (ord_len HO.out).mono ?_; rintro e w' ⟨rfl, rfl⟩; rw [HLEN.out]) | fail)
                go_roundw
                case rel => exact ⟨k + 1, _, _, _, _, by go_num, by omega, HO.out, HS.out, HE.out, HCL.out⟩
                case measure => simp [intOf]; omega
            · have hcode' : (code == 0) = false := by simpa using hcode
              have hcode'' : decide (code = 0) = false := by simpa using hcode
              have hl8 := HS.out.len.2
              have HGL := Lib.hid (show gt.length ≤ 200 by have h1 := HCL.out; rw [HE.out, List.length_append] at h1; omega)
              have HLEN := Lib.hid HS.out.len.1
              have hl8' : ¬ (8 : Int) < (rg.length : Int) := by omega
              clear hl8
              by_cases hkt : k < mt
              · have hkt' : (k : Int) < (mt : Int) := by omega
                cases hft : ft k with
                | false =>
                  obtain ⟨bt, ot, rfl, hbl0, hbc0⟩ := HB.out k hkt
                  have HBC := Lib.hid (And.intro hbl0 hbc0)
                  rw [hft] at HBC
                  have HBCW := Lib.hid (fun W (hb : Below w.heap.size w W) => (hb.cell (p := ⟨bt, ot + k, none⟩) HBC.out.1).trans HBC.out.2)
                  clear hft hbl0 hbc0
                  have hbcw := HBCW.out _ HO.out.bl
                  go_wp2_with (first | (go_at_call 18; refine (num_any12 _ _).mono ?_; rintro e w' ⟨rfl, rfl⟩) | (go_at_call 20; refine (ord_len HO.out).mono ?_; rintro e w' ⟨rfl, rfl⟩; rw [HLEN.out]) | fail)
                  go_roundw
                  case rel => exact ⟨k + 1, _, _, _, _, by go_num, by omega, HO.out, HS.out, HE.out, HCL.out⟩
                  case measure => simp [intOf]; omega
                | true =>
                  obtain ⟨bt, ot, rfl, hbl0, hbc0⟩ := HB.out k hkt
                  have HBC := Lib.hid (And.intro hbl0 hbc0)
                  rw [hft] at HBC
                  have HBCW := Lib.hid (fun W (hb : Below w.heap.size w W) => (hb.cell (p := ⟨bt, ot + k, none⟩) HBC.out.1).trans HBC.out.2)
                  clear hft hbl0 hbc0
                  have hbcw := HBCW.out _ HO.out.bl
                  go_wp2_with (first | (go_at_call 18; refine (num_any12 _ _).mono ?_; rintro e w' ⟨rfl, rfl⟩) | (go_at_call 20; refine (ord_len HO.out).mono ?_; rintro e w' ⟨rfl, rfl⟩; rw [HLEN.out]) | fail)
                  go_at_call 21
                  refine Calls.mono (ord_take HO.out) ?_
                  rintro e w8 ⟨At8, ct8, rfl, hpk8, hord8⟩
                  have hcv8 := conv_pk hpk8 _ ct8 rfl
                  rcases HS.out.take with ⟨hr0, hc0, hp0, hs0⟩ | ⟨tP, rg2, hr0, hc0, hp0, hs0⟩
                  · have HO := Lib.hid hord8
                    have HS := Lib.hid hs0
                    have HE := Lib.hid (show cm = gt ++ [] from HE.out.trans (by rw [hr0]))
                    rw [hc0]
                    clear hord8 hs0 hr0 hc0 hpk8
                    go_wp2_with (go_at_call 18; refine (num_any12 _ _).mono ?_; rintro e w' ⟨rfl, rfl⟩)
                    go_roundw
                    case rel => exact ⟨k + 1, _, _, _, _, by go_num, by omega, HO.out, HS.out, HE.out, HCL.out⟩
                    case measure => simp [intOf]; omega
                  · have HO := Lib.hid hord8
                    have HS := Lib.hid hs0
                    have HE := Lib.hid (show cm = (gt ++ [tP]) ++ rg2 by rw [List.append_assoc]; show cm = gt ++ (tP :: rg2); rw [← hr0]; exact HE.out)
                    rw [hc0]
                    rw [hp0] at hcv8 ⊢
                    clear hord8 hs0 hr0 hc0 hpk8 hp0
                    go_wp2_with (first | (go_at_call 18; refine (num_any12 _ _).mono ?_; rintro e w' ⟨rfl, rfl⟩) | (at_builtin; refine wpList_append_lies _ rfl _ _ 48 rfl w.heap.size 9 i0 (.string ByteArray.empty) 1 16 Try.underlying48 hi hz0 hz1 hz2 rfl (by decide) _ _ _ rfl (HO.out.rowU.alloc _) ⟨w8.heap.size, 0, none⟩ 1 1 [.string (strP tP)] rfl rfl (cells_new w8 [.string (strP tP)] 9) (by simp; rfl) (by decide) (by have := HGL.out; unfold maxLen; omega) (by have := HGL.out; omega) (by have := HO.out.bl.size; rw [World.size_alloc]; omega) (w8.heap.size + 1) (by rw [World.size_alloc]) ?_; intro g9 cap9 w9 hown9 hgrow9 hat9 hgl9; have HO := Lib.hid (HO.out.appU (P := tP) hown9 hgrow9 hat9); clear hown9 hgrow9 hat9 hgl9))
                    go_roundw
                    case rel => exact ⟨k + 1, _, _, _, _, by go_num, by omega, HO.out, HS.out, HE.out, HCL.out⟩
                    case measure => simp [intOf]; omega
              · have hkt' : ¬ (k : Int) < (mt : Int) := by omega
                go_wp2_with (first | (go_at_call 18; refine (num_any12 _ _).mono ?_; rintro e w' ⟨rfl, rfl⟩) | (go_at_call 20; refine (ord_len HO.out).mono ?_; rintro e w' ⟨rfl, rfl⟩; rw [HLEN.out]) | fail)
                go_roundw
                case rel => exact ⟨k + 1, _, _, _, _, by go_num, by omega, HO.out, HS.out, HE.out, HCL.out⟩
                case measure => simp [intOf]; omega
          · obtain ⟨b6, o6, e6, -, g60, g61⟩ := hca6 0 (0, true) (by rw [q2]; rfl)
            subst e6
            rw [q2] at ho6 ⊢
            rw [q1]
            dsimp only at g61
            have HO := Lib.hid hord6
            have HS := Lib.hid q3
            clear hord6 q3 hca6 ho6 q2 q1 hcell hcv6 g60
            generalize (comeR s xP).2.1 = s6 at *
            have hl8 := HS.out.len.2
            have HGL := Lib.hid (show gt.length ≤ 200 by have h1 := HCL.out; rw [HE.out, List.length_append] at h1; omega)
            have HLEN := Lib.hid HS.out.len.1
            have hl8' : ¬ (8 : Int) < (rg.length : Int) := by omega
            clear hl8
            by_cases hkt : k < mt
            · have hkt' : (k : Int) < (mt : Int) := by omega
              cases hft : ft k with
              | false =>
                obtain ⟨bt, ot, rfl, hbl0, hbc0⟩ := HB.out k hkt
                have HBC := Lib.hid (And.intro hbl0 hbc0)
                rw [hft] at HBC
                have HBCW := Lib.hid (fun W (hb : Below w.heap.size w W) => (hb.cell (p := ⟨bt, ot + k, none⟩) HBC.out.1).trans HBC.out.2)
                clear hft hbl0 hbc0
                have hbcw := HBCW.out _ HO.out.bl
                go_wp2_with (first | (go_at_call 18; refine (num_any12 _ _).mono ?_; rintro e w' ⟨rfl, rfl⟩) | (go_at_call 20; refine (ord_len HO.out).mono ?_; rintro e w' ⟨rfl, rfl⟩; rw [HLEN.out]) | fail)
                go_roundw
                case rel => exact ⟨k + 1, _, _, _, _, by go_num, by omega, HO.out, HS.out, HE.out, HCL.out⟩
                case measure => simp [intOf]; omega
              | true =>
                obtain ⟨bt, ot, rfl, hbl0, hbc0⟩ := HB.out k hkt
                have HBC := Lib.hid (And.intro hbl0 hbc0)
                rw [hft] at HBC
                have HBCW := Lib.hid (fun W (hb : Below w.heap.size w W) => (hb.cell (p := ⟨bt, ot + k, none⟩) HBC.out.1).trans HBC.out.2)
                clear hft hbl0 hbc0
                have hbcw := HBCW.out _ HO.out.bl
                go_wp2_with (first | (go_at_call 18; refine (num_any12 _ _).mono ?_; rintro e w' ⟨rfl, rfl⟩) | (go_at_call 20; refine (ord_len HO.out).mono ?_; rintro e w' ⟨rfl, rfl⟩; rw [HLEN.out]) | fail)
                go_at_call 21
                refine Calls.mono (ord_take HO.out) ?_
                rintro e w8 ⟨At8, ct8, rfl, hpk8, hord8⟩
                have hcv8 := conv_pk hpk8 _ ct8 rfl
                rcases HS.out.take with ⟨hr0, hc0, hp0, hs0⟩ | ⟨tP, rg2, hr0, hc0, hp0, hs0⟩
                · have HO := Lib.hid hord8
                  have HS := Lib.hid hs0
                  have HE := Lib.hid (show cm = gt ++ [] from HE.out.trans (by rw [hr0]))
                  rw [hc0]
                  clear hord8 hs0 hr0 hc0 hpk8
                  go_wp2_with (go_at_call 18; refine (num_any12 _ _).mono ?_; rintro e w' ⟨rfl, rfl⟩)
                  go_roundw
                  case rel => exact ⟨k + 1, _, _, _, _, by go_num, by omega, HO.out, HS.out, HE.out, HCL.out⟩
                  case measure => simp [intOf]; omega
                · have HO := Lib.hid hord8
                  have HS := Lib.hid hs0
                  have HE := Lib.hid (show cm = (gt ++ [tP]) ++ rg2 by rw [List.append_assoc]; show cm = gt ++ (tP :: rg2); rw [← hr0]; exact HE.out)
                  rw [hc0]
                  rw [hp0] at hcv8 ⊢
                  clear hord8 hs0 hr0 hc0 hpk8 hp0
                  go_wp2_with (first | (go_at_call 18; refine (num_any12 _ _).mono ?_; rintro e w' ⟨rfl, rfl⟩) | (at_builtin; refine wpList_append_lies _ rfl _ _ 48 rfl w.heap.size 9 i0 (.string ByteArray.empty) 1 16 Try.underlying48 hi hz0 hz1 hz2 rfl (by decide) _ _ _ rfl (HO.out.rowU.alloc _) ⟨w8.heap.size, 0, none⟩ 1 1 [.string (strP tP)] rfl rfl (cells_new w8 [.string (strP tP)] 9) (by simp; rfl) (by decide) (by have := HGL.out; unfold maxLen; omega) (by have := HGL.out; omega) (by have := HO.out.bl.size; rw [World.size_alloc]; omega) (w8.heap.size + 1) (by rw [World.size_alloc]) ?_; intro g9 cap9 w9 hown9 hgrow9 hat9 hgl9; have HO := Lib.hid (HO.out.appU (P := tP) hown9 hgrow9 hat9); clear hown9 hgrow9 hat9 hgl9))
                  go_roundw
                  case rel => exact ⟨k + 1, _, _, _, _, by go_num, by omega, HO.out, HS.out, HE.out, HCL.out⟩
                  case measure => simp [intOf]; omega
            · have hkt' : ¬ (k : Int) < (mt : Int) := by omega
              go_wp2_with (first | (go_at_call 18; refine (num_any12 _ _).mono ?_; rintro e w' ⟨rfl, rfl⟩) | (go_at_call 20; refine (ord_len HO.out).mono ?_; rintro e w' ⟨rfl, rfl⟩; rw [HLEN.out]) | fail)
              go_roundw
              case rel => exact ⟨k + 1, _, _, _, _, by go_num, by omega, HO.out, HS.out, HE.out, HCL.out⟩
              case measure => simp [intOf]; omega
          · obtain ⟨b6, o6, e6, -, g60, g61⟩ := hca6 0 (0, false) (by rw [q2]; rfl)
            subst e6
            rw [q2] at ho6 ⊢
            rw [q1]
            dsimp only at g61
            have HO := Lib.hid hord6
            have HS := Lib.hid q3
            have HE := Lib.hid (show cm ++ [xP] = gt ++ (rg ++ [xP]) by rw [← List.append_assoc, ← HE.out])
            clear hord6 q3 hca6 ho6 q2 q1 hcell g60
            generalize (comeR s xP).2.1 = s6 at *
            generalize hrg : rg ++ [xP] = rg6 at *
            clear hrg
            have HCL := Lib.hid (show (cm ++ [xP]).length ≤ k + 1 by rw [List.length_append, List.length_singleton]; have := HCL0.out; omega)
            have hl8 := HS.out.len.2
            have HGL := Lib.hid (show gt.length ≤ 200 by have h1 := HCL.out; rw [HE.out, List.length_append] at h1; omega)
            have HLEN := Lib.hid HS.out.len.1
            have hl8' : ¬ (8 : Int) < (rg6.length : Int) := by omega
            clear hl8
            by_cases hkt : k < mt
            · have hkt' : (k : Int) < (mt : Int) := by omega
              cases hft : ft k with
              | false =>
                obtain ⟨bt, ot, rfl, hbl0, hbc0⟩ := HB.out k hkt
                have HBC := Lib.hid (And.intro hbl0 hbc0)
                rw [hft] at HBC
                have HBCW := Lib.hid (fun W (hb : Below w.heap.size w W) => (hb.cell (p := ⟨bt, ot + k, none⟩) HBC.out.1).trans HBC.out.2)
                clear hft hbl0 hbc0
                go_wp2_with (first | (go_at_call 18; refine (num_any12 _ _).mono ?_; rintro e w' ⟨rfl, rfl⟩) | (go_at_call 20; refine (ord_len HO.out).mono ?_; rintro e w' ⟨rfl, rfl⟩; rw [HLEN.out]) | (at_builtin; refine wpList_append_lies _ rfl _ _ 48 rfl w.heap.size 9 i0 (.string ByteArray.empty) 1 16 Try.underlying48 hi hz0 hz1 hz2 rfl (by decide) _ _ _ rfl (HO.out.rowV.alloc _) ⟨w6.heap.size, 0, none⟩ 1 1 [.string (strP xP)] rfl rfl (cells_new w6 [.string (strP xP)] 9) (by simp; rfl) (by decide) (by have := HCL0.out; unfold maxLen; omega) (by have := HCL0.out; omega) (by have := HO.out.bl.size; rw [World.size_alloc]; omega) (w6.heap.size + 1) (by rw [World.size_alloc]) ?_; intro g7 cap7 w7 hown7 hgrow7 hat7 hgl7; have HO := Lib.hid (HO.out.appV (P := xP) hown7 hgrow7 hat7); have hbcw := HBCW.out _ HO.out.bl; clear hown7 hgrow7 hat7 hgl7) | fail)
                go_roundw
                case rel => exact ⟨k + 1, _, _, _, _, by go_num, by omega, HO.out, HS.out, HE.out, HCL.out⟩
                case measure => simp [intOf]; omega
              | true =>
                obtain ⟨bt, ot, rfl, hbl0, hbc0⟩ := HB.out k hkt
                have HBC := Lib.hid (And.intro hbl0 hbc0)
                rw [hft] at HBC
                have HBCW := Lib.hid (fun W (hb : Below w.heap.size w W) => (hb.cell (p := ⟨bt, ot + k, none⟩) HBC.out.1).trans HBC.out.2)
                clear hft hbl0 hbc0
                go_wp2_with (first | (go_at_call 18; refine (num_any12 _ _).mono ?_; rintro e w' ⟨rfl, rfl⟩) | (go_at_call 20; refine (ord_len HO.out).mono ?_; rintro e w' ⟨rfl, rfl⟩; rw [HLEN.out]) | (at_builtin; refine wpList_append_lies _ rfl _ _ 48 rfl w.heap.size 9 i0 (.string ByteArray.empty) 1 16 Try.underlying48 hi hz0 hz1 hz2 rfl (by decide) _ _ _ rfl (HO.out.rowV.alloc _) ⟨w6.heap.size, 0, none⟩ 1 1 [.string (strP xP)] rfl rfl (cells_new w6 [.string (strP xP)] 9) (by simp; rfl) (by decide) (by have := HCL0.out; unfold maxLen; omega) (by have := HCL0.out; omega) (by have := HO.out.bl.size; rw [World.size_alloc]; omega) (w6.heap.size + 1) (by rw [World.size_alloc]) ?_; intro g7 cap7 w7 hown7 hgrow7 hat7 hgl7; have HO := Lib.hid (HO.out.appV (P := xP) hown7 hgrow7 hat7); have hbcw := HBCW.out _ HO.out.bl; clear hown7 hgrow7 hat7 hgl7) | fail)
                go_at_call 21
                refine Calls.mono (ord_take HO.out) ?_
                rintro e w8 ⟨At8, ct8, rfl, hpk8, hord8⟩
                have hcv8 := conv_pk hpk8 _ ct8 rfl
                rcases HS.out.take with ⟨hr0, hc0, hp0, hs0⟩ | ⟨tP, rg2, hr0, hc0, hp0, hs0⟩
                · have HO := Lib.hid hord8
                  have HS := Lib.hid hs0
                  have HE := Lib.hid (show (cm ++ [xP]) = gt ++ [] from HE.out.trans (by rw [hr0]))
                  rw [hc0]
                  clear hord8 hs0 hr0 hc0 hpk8
                  go_wp2_with (go_at_call 18; refine (num_any12 _ _).mono ?_; rintro e w' ⟨rfl, rfl⟩)
                  go_roundw
                  case rel => exact ⟨k + 1, _, _, _, _, by go_num, by omega, HO.out, HS.out, HE.out, HCL.out⟩
                  case measure => simp [intOf]; omega
                · have HO := Lib.hid hord8
                  have HS := Lib.hid hs0
                  have HE := Lib.hid (show (cm ++ [xP]) = (gt ++ [tP]) ++ rg2 by rw [List.append_assoc]; show (cm ++ [xP]) = gt ++ (tP :: rg2); rw [← hr0]; exact HE.out)
                  rw [hc0]
                  rw [hp0] at hcv8 ⊢
                  clear hord8 hs0 hr0 hc0 hpk8 hp0
                  go_wp2_with (first | (go_at_call 18; refine (num_any12 _ _).mono ?_; rintro e w' ⟨rfl, rfl⟩) | (at_builtin; refine wpList_append_lies _ rfl _ _ 48 rfl w.heap.size 9 i0 (.string ByteArray.empty) 1 16 Try.underlying48 hi hz0 hz1 hz2 rfl (by decide) _ _ _ rfl (HO.out.rowU.alloc _) ⟨w8.heap.size, 0, none⟩ 1 1 [.string (strP tP)] rfl rfl (cells_new w8 [.string (strP tP)] 9) (by simp; rfl) (by decide) (by have := HGL.out; unfold maxLen; omega) (by have := HGL.out; omega) (by have := HO.out.bl.size; rw [World.size_alloc]; omega) (w8.heap.size + 1) (by rw [World.size_alloc]) ?_; intro g9 cap9 w9 hown9 hgrow9 hat9 hgl9; have HO := Lib.hid (HO.out.appU (P := tP) hown9 hgrow9 hat9); clear hown9 hgrow9 hat9 hgl9))
                  go_roundw
                  case rel => exact ⟨k + 1, _, _, _, _, by go_num, by omega, HO.out, HS.out, HE.out, HCL.out⟩
                  case measure => simp [intOf]; omega
            · have hkt' : ¬ (k : Int) < (mt : Int) := by omega
              go_wp2_with (first | (go_at_call 18; refine (num_any12 _ _).mono ?_; rintro e w' ⟨rfl, rfl⟩) | (go_at_call 20; refine (ord_len HO.out).mono ?_; rintro e w' ⟨rfl, rfl⟩; rw [HLEN.out]) | (at_builtin; refine wpList_append_lies _ rfl _ _ 48 rfl w.heap.size 9 i0 (.string ByteArray.empty) 1 16 Try.underlying48 hi hz0 hz1 hz2 rfl (by decide) _ _ _ rfl (HO.out.rowV.alloc _) ⟨w6.heap.size, 0, none⟩ 1 1 [.string (strP xP)] rfl rfl (cells_new w6 [.string (strP xP)] 9) (by simp; rfl) (by decide) (by have := HCL0.out; unfold maxLen; omega) (by have := HCL0.out; omega) (by have := HO.out.bl.size; rw [World.size_alloc]; omega) (w6.heap.size + 1) (by rw [World.size_alloc]) ?_; intro g7 cap7 w7 hown7 hgrow7 hat7 hgl7; have HO := Lib.hid (HO.out.appV (P := xP) hown7 hgrow7 hat7); clear hown7 hgrow7 hat7 hgl7) | fail)
              go_roundw
              case rel => exact ⟨k + 1, _, _, _, _, by go_num, by omega, HO.out, HS.out, HE.out, HCL.out⟩
              case measure => simp [intOf]; omega
      · have hlt' : ¬ (k : Int) < (mp : Int) := by omega
        go_wp2_with fail
        go_loopw [13, 19] (fun u i W => ∃ (j : Nat) (s : Ps) (gt rg : List (List Nat)), i = .int .i64 (j : Int) ∧ j ≤ 9 ∧ OrdAt w W p s cm gt u12 u ∧ OrdS s rg ∧ cm = gt ++ rg ∧ rg.length ≤ 8 - j) (fun _ i _ => 9 - (intOf i).toNat)
        case atStart => exact ⟨0, s, gt, rg, rfl, by omega, HO.out, HS.out, HE.out, HS.out.len.2⟩
        case round =>
          obtain ⟨j, s2, gt2, rg2, rfl, hj, ho, hs, he, hl⟩ := hrel
          have HCC := Lib.hid (show cm.length ≤ 100 by have := HCL0.out; omega)
          clear HO HS HE HCL HCL0
          have HO := Lib.hid ho
          have HS := Lib.hid hs
          have HE := Lib.hid he
          have HJL := Lib.hid hl
          have HGL := Lib.hid (show gt2.length ≤ 200 by have h1 := HCC.out; rw [he, List.length_append] at h1; omega)
          clear ho hs he hl
          by_cases hj9 : j < 9
          · have hj9' : (j : Int) < 9 := by omega
            go_wp2_with fail
            go_at_call 21
            refine Calls.mono (ord_take HO.out) ?_
            rintro e w8 ⟨At8, ct8, rfl, hpk8, hord8⟩
            have hcv8 := conv_pk hpk8 _ ct8 rfl
            rcases HS.out.take with ⟨hr0, hc0, hp0, hs0⟩ | ⟨tP, rg3, hr0, hc0, hp0, hs0⟩
            · have HO := Lib.hid hord8
              have HS := Lib.hid hs0
              have HE := Lib.hid (show cm = gt2 ++ [] by rw [← hr0]; exact HE.out)
              rw [hc0]
              clear hord8 hs0 hr0 hc0 hpk8
              go_wp2_with (go_at_call 18; refine (num_any12 _ _).mono ?_; rintro e w' ⟨rfl, rfl⟩)
              go_roundw
              case rel => exact ⟨j + 1, _, _, _, by go_num, by omega, HO.out, HS.out, HE.out, Nat.zero_le _⟩
              case measure => simp [intOf]; omega
            · have HO := Lib.hid hord8
              have HS := Lib.hid hs0
              have HE := Lib.hid (show cm = (gt2 ++ [tP]) ++ rg3 by rw [List.append_assoc]; show cm = gt2 ++ (tP :: rg3); rw [← hr0]; exact HE.out)
              have HJL := Lib.hid (show rg3.length ≤ 8 - (j + 1) by have := HJL.out; rw [hr0, List.length_cons] at this; omega)
              rw [hc0]
              rw [hp0] at hcv8 ⊢
              clear hord8 hs0 hr0 hc0 hpk8 hp0
              go_wp2_with (first | (go_at_call 18; refine (num_any12 _ _).mono ?_; rintro e w' ⟨rfl, rfl⟩) | (at_builtin; refine wpList_append_lies _ rfl _ _ 48 rfl w.heap.size 9 i0 (.string ByteArray.empty) 1 16 Try.underlying48 hi hz0 hz1 hz2 rfl (by decide) _ _ _ rfl (HO.out.rowU.alloc _) ⟨w8.heap.size, 0, none⟩ 1 1 [.string (strP tP)] rfl rfl (cells_new w8 [.string (strP tP)] 9) (by simp; rfl) (by decide) (by have := HGL.out; unfold maxLen; omega) (by have := HGL.out; omega) (by have := HO.out.bl.size; rw [World.size_alloc]; omega) (w8.heap.size + 1) (by rw [World.size_alloc]) ?_; intro g9 cap9 w9 hown9 hgrow9 hat9 hgl9; have HO := Lib.hid (HO.out.appU (P := tP) hown9 hgrow9 hat9); clear hown9 hgrow9 hat9 hgl9))
              go_roundw
              case rel => exact ⟨j + 1, _, _, _, by go_num, by omega, HO.out, HS.out, HE.out, HJL.out⟩
              case measure => simp [intOf]; omega
          · have hj9' : ¬ (j : Int) < 9 := by omega
            have hr0 : rg2 = [] := List.eq_nil_of_length_eq_zero (by have := HJL.out; omega)
            have heq : cm = gt2 := by have := HE.out; rw [hr0, List.append_nil] at this; exact this
            subst heq
            have hrv := HO.out.rowV
            have hru := HO.out.rowU
            obtain ⟨Av, cv, ev, -, -⟩ := own_form hrv
            obtain ⟨Au, cu, eu, -, -⟩ := own_form hru
            subst ev
            subst eu
            have HRV := Lib.hid hrv
            have HRU := Lib.hid hru
            have HBL := Lib.hid HO.out.bl
            clear hrv hru HO HS HE HJL HGL hr0
            obtain ⟨n, hnn⟩ : ∃ n, cm.length = n := ⟨_, rfl⟩
            have HNN := Lib.hid hnn
            have hn100 : n ≤ 100 := by have := HCC.out; omega
            rw [hnn] at HRV HRU ⊢
            clear hnn
            go_wp2_with fail
            go_loopw [22] (fun i W => ∃ j : Nat, i = .int .i64 (j : Int) ∧ j ≤ n ∧ Below wr.heap.size wr W) (fun i _ => n - (intOf i).toNat)
            case atStart => exact ⟨0, rfl, Nat.zero_le _, Below.refl _ _⟩
            case round =>
              obtain ⟨j, rfl, hj, hb⟩ := hrel
              have HBW := Lib.hid hb
              clear hb
              by_cases hjn : j < n
              · have hjn' : (j : Int) < (n : Int) := by omega
                obtain ⟨P0, hP0⟩ : ∃ P0, cm[j]? = some P0 := ⟨_, List.getElem?_eq_getElem (by rw [HNN.out]; exact hjn)⟩
                obtain ⟨gv, rfl, hgv, hcv0⟩ := str_cell HRV.out hP0 HNN.out
                obtain ⟨gu, rfl, hgu, hcu0⟩ := str_cell HRU.out hP0 HNN.out
                have hcv := (HBW.out.cell (p := ⟨gv, j, none⟩) hgv).trans hcv0
                have hcu := (HBW.out.cell (p := ⟨gu, j, none⟩) hgu).trans hcu0
                clear hcv0 hcu0 hP0 hgv hgu
                go_wp2_with fail
                go_quiet (fail)
                all_goals
                  go_wp2_with fail
                  go_roundw
                  case rel => exact ⟨j + 1, by go_num, by omega, below_drewN HBW.out _⟩
                  case measure => simp [intOf]; omega
              · have hjn' : ¬ (j : Int) < (n : Int) := by omega
                have HBE := Lib.hid (HBL.out.trans (HBW.out.mono HBL.out.size))
                go_wp2_with (go_at_call 9; refine (known_any12 _).mono ?_; rintro e wk ⟨rfl, hb⟩; have HBK := Lib.hid (HBE.out.trans (hb.mono HBE.out.size)); clear hb)
                go_ret
                exact ⟨rfl, HBK.out⟩
end Go.Proofs.Ytakpankipagndaa
