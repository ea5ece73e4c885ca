/- The law CpuFlat, where there is such a memory. -/
import Derived.Test.YtknepljmbpdpkaaCpaA
import Derived.IntWalk
namespace Go.Proofs.Ytknepljmbpdpkaa
open Go.RowKit

def bytesI (m : Mem8) : List Int := (List.range (m.np * 256)).map fun k => m.bt k
theorem bytesI_len (m : Mem8) : (bytesI m).length = m.np * 256 := by simp [bytesI]
theorem bytesM_eq (m : Mem8) : bytesM m = (bytesI m).map (Value.int .u8) := by unfold bytesM bytesI; rw [List.map_map]; rfl
set_option maxRecDepth 100000 in
/-- The document's memory, made of the program's bytes. -/
theorem q_of_own {w : World} {B n : Nat} {a Ar : Option Addr} {k cr : Nat} {m : Mem8} {ri : Nat → Int} (hm : Mem8Ok m) (hn : m.np = n) (ho : w.ownsRow B 5 1 (.slice a (m.np * 256) k) (m.np * 256) (bytesM m)) (hr : IntsIn w Ar n ri) (hri : ∀ i, i < n → m.ri i = ri i) (t : TypeId) :
    QAt (w.alloc (.cells #[.slice a (m.np * 256) k, .slice Ar n cr] t)) w.heap.size a k Ar cr m := by
  subst hn
  have hc : ∀ o, (w.alloc (.cells #[.slice a (m.np * 256) k, .slice Ar m.np cr] t)).cell? ⟨w.heap.size, o, none⟩ = (#[.slice a (m.np * 256) k, .slice Ar m.np cr] : Array Value)[o]? := fun o => cell_of_row _ _ _ _ _ _ (heap_alloc_new w _)
  refine ⟨hm, hc 0, hc 1, by simp, fun hp => ?_, ?_⟩
  · obtain ⟨g, c, e, -, hg⟩ := ho.form (by omega)
    injection e with e1 e2 e3
    subst e1
    refine ⟨g, 0, rfl, by simp; omega, fun j hj => ?_⟩
    have := ho.cells (g := g) rfl j _ (bytesM_get m j hj)
    rw [Addr.add_lit] at this
    exact cell_alloc8 _ this
  · intro hp
    obtain ⟨b, o, e, l, c⟩ := hr hp
    exact ⟨b, o, e, by simp; omega, fun j hj => by rw [hri j hj]; exact cell_alloc8 _ (c j hj)⟩
theorem mem0_head {l : List Int} {n : Nat} {ri : Nat → Int} (h : l.length ≤ n * 256) : (bytesI (mem0 l n ri)).take l.length = l := by
  apply List.ext_getElem?
  intro i
  rw [List.getElem?_take]
  by_cases hi : i < l.length
  · rw [if_pos hi]
    unfold bytesI mem0
    rw [List.getElem?_map, List.getElem?_range (by simp only; omega)]
    simp [List.getElem?_eq_getElem hi]
  · rw [if_neg hi, List.getElem?_eq_none (by omega)]

theorem own_some {w : World} {B n : Nat} {v : Value} {xs : List Value} {e : TypeId} (h : w.ownsRow B e 1 v n xs) (hne : v ≠ .slice none 0 0) : ∃ g c, v = .slice (some ⟨g, 0, none⟩) n c ∧ B ≤ g ∧ g < w.heap.size ∧ n ≤ c ∧ ∀ (j : Nat) (u : Value), xs[j]? = some u → w.cell? ⟨g, 0 + j, none⟩ = some u := by
  rcases h.2 with ⟨e, -⟩ | ⟨g, cap, cur, e, hg, hc, hn, -⟩
  · exact absurd e hne
  · refine ⟨g, cap, e, hg, (Array.getElem?_eq_some_iff.1 hc).1, hn, fun j u hj => ?_⟩
    have := h.cells (g := g) (by rw [e]; rfl) j u hj
    rwa [Addr.add_lit] at this
theorem FlatAt.drewN {w : World} {F B : Nat} {ra : Option Addr} {rc bc : Nat} {m : Mem8} (h : FlatAt w F B ra rc bc m) (n : Nat) : FlatAt (w.drewN n) F B ra rc bc m := h.keep (Nat.le_refl _) (fun _ _ => rfl)
theorem QAt.drewN {w : World} {p cb cr : Nat} {A Ar : Option Addr} {m : Mem8} (h : QAt w p A cb Ar cr m) (n : Nat) : QAt (w.drewN n) p A cb Ar cr m := h.below ⟨rfl, rfl, rfl, Nat.le_refl _, fun _ _ => rfl⟩
def Mem8.getv (m : Mem8) (x : Int) : Int := if m.has x then m.bt x.toNat else 0
def Mem8.putv (m : Mem8) (x v : Int) : Mem8 := if m.has x then m.set x v else m
theorem get_all8 {w : World} {F B : Nat} {ra : Option Addr} {rc bc : Nat} {m : Mem8} (h : FlatAt w F B ra rc bc m) (x : Int) (h0 : 0 ≤ x) (h1 : x < 4294967296) :
    Calls Try.prog 24 #[.pointer (some ⟨F, 0, none⟩), .int .u32 x] w fun e w' => e = .returned (.int .u8 (m.getv x)) ∧ w = w' := by
  unfold Mem8.getv
  cases hh : m.has x with
  | true => exact get_any8 h x h0 h1 hh
  | false => exact get_none8 h x h0 h1 hh
/-- Set, in a memory that is the call's own. -/
theorem set_new {w0 w : World} {F B : Nat} {ra : Option Addr} {rc bc : Nat} {m : Mem8} (h : FlatAt w F B ra rc bc m) (hb : Below w0.heap.size w0 w) (hB : w0.heap.size ≤ B) (x v : Int) (h0 : 0 ≤ x) (h1 : x < 4294967296) (v0 : 0 ≤ v) (v1 : v < 256) :
    Calls Try.prog 23 #[.pointer (some ⟨F, 0, none⟩), .int .u32 x, .int .u8 v] w fun e w' => e = .returned (.tuple #[]) ∧ Below w0.heap.size w0 w' ∧ FlatAt w' F B ra rc bc (m.putv x v) := by
  unfold Mem8.putv
  cases hh : m.has x with
  | true =>
    refine (set_any8 h x v h0 h1 hh).mono ?_
    rintro e w' ⟨rfl, rfl⟩
    exact ⟨rfl, Bs hb hB _ _, h.set x.toNat (by unfold Mem8.has at hh; have : x < (m.np : Int) * 256 := (by simpa using hh); omega) v v0 v1⟩
  | false =>
    refine (set_none8 h x v h0 h1 hh).mono ?_
    rintro e w' ⟨rfl, rfl⟩
    exact ⟨rfl, hb, h⟩
set_option maxHeartbeats 4000000 in
set_option maxRecDepth 100000 in
theorem flat_yes {w : World} {Ab Ar : Option Addr} {l : List Int} {cb n cr : Nat} {ri : Nat → Int} (hl : SrcBytes w Ab l) (hl01 : ∀ v ∈ l, 0 ≤ v ∧ v < 256) (hr : IntsIn w Ar n ri) (x r v : Int) (x0 : 0 ≤ x) (x1 : x < 4294967296) (v0 : 0 ≤ v) (v1 : v < 256)
    (h1 : l.length ≤ 9000) (h2 : n ≤ 40) (hE : newE l.length n ri = 0) :
    Calls Try.prog 7 #[.slice Ab l.length cb, .slice Ar n cr, .int .u32 x, .int .i64 r, .int .u8 v] w fun e w' => e = .returned (.bool true) ∧ Below w.heap.size w w' := by
  have hc : l.length ≤ 8192 ∧ n ≤ 32 ∧ anyWrong ri n = false ∧ l.length ≤ n * 256 := by
    unfold newE at hE
    by_cases c1 : 8192 < l.length
    · rw [if_pos c1] at hE; cases hE
    · rw [if_neg c1] at hE
      by_cases c2 : 32 < n
      · rw [if_pos c2] at hE; cases hE
      · rw [if_neg c2] at hE
        cases hw : anyWrong ri n with
        | true => rw [hw, if_pos rfl] at hE; cases hE
        | false =>
          rw [hw, if_neg (by simp)] at hE
          by_cases c3 : n * 256 < l.length
          · rw [if_pos c3] at hE; cases hE
          · exact ⟨by omega, by omega, rfl, by omega⟩
  obtain ⟨k1, k2, k3, k4⟩ := hc
  have HN := Lib.hid (new_yes8 hl hl01 hr cb cr k1 k2 k3 k4)
  have hbn : ∀ k, k ≤ n → BadB ri n k = false := fun k hk => by
    unfold BadB
    rw [decide_eq_false (by omega), Bool.false_or]
    unfold anyWrong at k3 ⊢
    rw [List.any_eq_false] at k3 ⊢
    intro j hj
    exact k3 j (by simp at hj ⊢; omega)
  have HBN := Lib.hid hbn
  have HK3 := Lib.hid k3
  have HHD := Lib.hid (mem0_head (ri := ri) k4)
  obtain ⟨nb, hnb⟩ : ∃ nb, l.length = nb := ⟨_, rfl⟩
  have HNB := Lib.hid hnb
  have HS := Lib.hid hl
  rw [hnb] at HN h1 k1 k4 HHD ⊢
  have h1' : (nb : Int) ≤ 8192 := by omega
  have h2' : (n : Int) ≤ 32 := by omega
  have h4' : (nb : Int) ≤ (n : Int) * 256 := by omega
  have HR := Lib.hid hr
  clear hr hE hl hnb hbn k3
  go_enter Try.func7, Try.ntmps7
  go_wp2_with (go_at_call 17; refine HN.out.mono ?_; rintro e w1 ⟨F, B, ra, rc, rfl, hf, gF, gB, gR, hb⟩; have HF := Lib.hid hf; have HB := Lib.hid hb; have HBB := Lib.hid gB; have HRG := Lib.hid gR; clear hf hb gF gB gR)
  go_loop [13, 14] (fun bd i => ∃ k : Nat, k ≤ n ∧ i = .int .i64 k ∧ bd = .bool false) (fun _ i => n - (intOf i).toNat)
  case atStart => exact ⟨0, Nat.zero_le _, rfl, by rw [decide_eq_false (by omega)]⟩
  case round =>
    obtain ⟨k, hk, rfl, rfl⟩ := hrel
    by_cases hlt : k < n
    · have hlt' : decide (k < n) = true := by simpa using hlt
      have hlt2 : (k : Int) < n := by omega
      obtain ⟨b, o, rfl, hbl, hc⟩ := (HR.out.below HB.out) (by omega)
      have hcl := hc k hlt
      have hw : wrongB (ri k) = false := by
        have := HK3.out
        unfold anyWrong at this
        rw [List.any_eq_false] at this
        simpa using this k (by simpa using hlt)
      unfold wrongB at hw
      simp only [Bool.or_eq_false_iff, decide_eq_false_iff_not] at hw
      obtain ⟨y0, y7⟩ := hw
      obtain ⟨y, hy⟩ : ∃ y, ri k = y := ⟨_, rfl⟩
      rw [hy] at hcl y0 y7
      clear hc hy
      go_wp2
      go_round
      case rel => exact ⟨k + 1, hlt, by go_num, rfl⟩
      case measure => simp [intOf]; omega
    · obtain rfl : k = n := by omega
      have hlt' : decide (k < k) = false := by simp
      go_wp2_with (go_at_call 14; refine (fbytes_any HF.out).mono ?_; rintro e w2 ⟨v2, rfl, ho, hne, hb⟩; obtain ⟨g, c2, rfl, hg1, hg2, hg3, hgc⟩ := own_some ho hne; have HO := Lib.hid ho; have HGC := Lib.hid hgc; have HB2 := Lib.hid hb; clear ho hne hb hgc)
      have hq : QAt (w2.alloc (.cells #[.slice (some ⟨g, 0, none⟩) (k * 256) c2, .slice Ar k cr] 46)) w2.heap.size (some ⟨g, 0, none⟩) c2 Ar cr (mem0 l k ri) := q_of_own (w := w2) (Ar := Ar) (cr := cr) (ri := ri) (m := mem0 l k ri) HF.out.ok rfl HO.out ((HR.out.below HB.out).below HB2.out) (fun i hi => by have hi : i < k := hi; show (if i < k then ri i else 0) = ri i; rw [if_pos hi]) 46
      have hfw := (HF.out.below HB2.out).below ((Below.refl _ w2).alloc (Nat.le_refl _) (.cells #[.slice (some ⟨g, 0, none⟩) (k * 256) c2, .slice Ar k cr] 46))
      have hsw := ((HS.out.below HB.out).below HB2.out).below ((Below.refl _ w2).alloc (Nat.le_refl _) (.cells #[.slice (some ⟨g, 0, none⟩) (k * 256) c2, .slice Ar k cr] 46))
      have hbw : Below w.heap.size w (w2.alloc (.cells #[.slice (some ⟨g, 0, none⟩) (k * 256) c2, .slice Ar k cr] 46)) := Bl.alloc (Bl.step HB.out HB2.out) _
      have hgw : SrcBytes (w2.alloc (.cells #[.slice (some ⟨g, 0, none⟩) (k * 256) c2, .slice Ar k cr] 46)) (some ⟨g, 0, none⟩) l := fun hp => by
        refine ⟨g, 0, rfl, by simp; omega, fun j y hj => ?_⟩
        refine cell_alloc8 _ (HGC.out j _ ?_)
        have hjl := (List.getElem?_eq_some_iff.1 hj).1
        have hnb := HNB.out
        rw [bytesM_get _ j (by show j < k * 256; omega)]
        show some (Value.int .u8 (l.getD j 0)) = _
        rw [List.getD_eq_getElem?_getD, hj]; rfl
      change Code.wp _ _ _ _ (w2.alloc (.cells #[.slice (some ⟨g, 0, none⟩) (k * 256) c2, .slice Ar k cr] 46))
      have hpw : w2.heap.size < (w2.alloc (.cells #[.slice (some ⟨g, 0, none⟩) (k * 256) c2, .slice Ar k cr] 46)).heap.size := by simp
      generalize w2.alloc (.cells #[.slice (some ⟨g, 0, none⟩) (k * 256) c2, .slice Ar k cr] 46) = W at hq hfw hsw hbw hgw hpw ⊢
      generalize w2.heap.size = p at hq hpw ⊢
      have q0 : W.cell? ⟨p, 0, none⟩ = some (.slice (some ⟨g, 0, none⟩) (k * 256) c2) := hq.c0
      have cv1 : ∀ q, (convert 23 9 (.slice (some ⟨g, 0, none⟩) nb c2)).run Try.prog (W.drewN q) = .ok (.string (strOfNums l)) (W.drewN q) := fun q => by
        have := conv_string (hgw.below (w' := W.drewN q) ⟨rfl, rfl, rfl, Nat.le_refl _, fun _ _ => rfl⟩) c2
        rwa [HNB.out] at this
      have cv2 : ∀ q, (convert 23 9 (.slice Ab nb cb)).run Try.prog (W.drewN q) = .ok (.string (strOfNums l)) (W.drewN q) := fun q => by
        have := conv_string (hsw.below (w' := W.drewN q) ⟨rfl, rfl, rfl, Nat.le_refl _, fun _ _ => rfl⟩) cb
        rwa [HNB.out] at this
      have HQ := fun q => Lib.hid (hq.drewN q)
      have HFW := fun q => Lib.hid (hfw.drewN q)
      have HBW := Lib.hid hbw
      have hc2 : (nb : Int) ≤ (c2 : Int) := by have : k * 256 ≤ c2 := hg3; omega
      obtain ⟨mv, hmv⟩ : ∃ mv, (mem0 l k ri).may x r = mv := ⟨_, rfl⟩
      have HMV := Lib.hid hmv
      clear hq hfw hsw hbw hgw hmv
      go_quiet ((first
        | (go_at_call 21; refine Calls.quiet_of_same (v := .bool mv) (((fmay_any8 (HFW _).out x r x0 x1)).mono ?_); rw [HMV.out]; exact fun _ _ h => ⟨h.1, h.2.symm⟩)
        | (go_at_call 22; refine Calls.quiet_of_same (v := .bool mv) (((qmay_any (HQ _).out x r x0 x1)).mono ?_); rw [HMV.out]; exact fun _ _ h => ⟨h.1, h.2.symm⟩)))
      have HQ1 := HQ nq
      have HFW1 := HFW nq
      have q01 : (W.drewN nq).cell? ⟨p, 0, none⟩ = some (.slice (some ⟨g, 0, none⟩) (k * 256) c2) := q0
      have HBW1 : Hid (Below w.heap.size w (W.drewN nq)) := Lib.hid (Bl.step HBW.out ⟨rfl, rfl, rfl, Nat.le_refl _, fun _ _ => rfl⟩)
      have hpw1 : p < (W.drewN nq).heap.size := hpw
      clear HQ HFW HBW hpw q0 cv1 cv2
      generalize W.drewN nq = V at HQ1 HFW1 q01 HBW1 hpw1 ⊢
      by_cases hx : x < (k : Int) * 256
      · obtain ⟨g', o', e, hg, hgc⟩ := HQ1.out.bs (by show 0 < k; omega)
        injection e with e; injection e with e1 e2 e3
        subst e1 e2
        have gx1 := hgc x.toNat (by show x.toNat < k * 256; omega); rw [Nat.zero_add] at gx1
        have hgx : (mem0 l k ri).getv x = (mem0 l k ri).bt x.toNat := if_pos (decide_eq_true hx)
        have hgp : ((mem0 l k ri).putv x v).getv x = v := by
          have e0 : (mem0 l k ri).has x = true := decide_eq_true hx
          have e1 : ((mem0 l k ri).set x v).has x = true := decide_eq_true hx
          unfold Mem8.putv; rw [if_pos e0]
          unfold Mem8.getv; rw [if_pos e1]
          exact if_pos rfl
        have HGP := Lib.hid hgp
        have HGX := Lib.hid hgx
        clear hgc hgx hgp
        have hxd : decide (x < (k : Int) * 256) = true := by simpa using hx
        go_wp2_with ((first
          | (go_at_call 15; refine (fclone_any HFW1.out).mono ?_; rintro e w3 ⟨F3, B3, ra3, rc3, bc3, rfl, hf3, -, gB3, -, hb3⟩; have HF3 := Lib.hid hf3; have HG3 := Lib.hid gB3; have HB3 := Lib.hid hb3; clear hf3 gB3 hb3)
          | (go_at_call 23; refine (set_new HF3.out HB3.out HG3.out x v x0 x1 v0 v1).mono ?_; rintro e w4 ⟨rfl, hb4, hf4⟩; have q04 := (hb4.cell (p := ⟨p, 0, none⟩) hpw1).trans q01; have gx4 := (hb4.cell (p := ⟨g, x.toNat, none⟩) hg).trans gx1; have HGA := Lib.hid (get_all8 (HFW1.out.below hb4) x x0 x1); have HGC := Lib.hid (get_all8 hf4 x x0 x1); rw [HGX.out] at HGA; rw [HGP.out] at HGC; have HB4 := Lib.hid hb4; clear hf4 hb4)
          | (go_at_call 24; with_reducible refine Calls.mono HGA.out ?_; rintro e w' ⟨rfl, rfl⟩)
          | (go_at_call 24; with_reducible refine Calls.mono HGC.out ?_; rintro e w' ⟨rfl, rfl⟩)
          | (go_at_call 10; refine (kn8_at (Bl.step HBW1.out HB4.out)).mono ?_; rintro e w' ⟨rfl, hb5⟩)))
        go_ret
        exact ⟨rfl, hb5⟩
      · have hgx : (mem0 l k ri).getv x = 0 := if_neg (by show ¬ decide (x < (k : Int) * 256) = true; simpa using hx)
        have hgp : ((mem0 l k ri).putv x v).getv x = 0 := by
          have e0 : ¬ (mem0 l k ri).has x = true := by show ¬ decide (x < (k : Int) * 256) = true; simpa using hx
          unfold Mem8.putv; rw [if_neg e0]
          exact if_neg e0
        have HGP := Lib.hid hgp
        have HGX := Lib.hid hgx
        clear hgx hgp
        have hxd : decide (x < (k : Int) * 256) = false := by simpa using hx
        go_wp2_with ((first
          | (go_at_call 15; refine (fclone_any HFW1.out).mono ?_; rintro e w3 ⟨F3, B3, ra3, rc3, bc3, rfl, hf3, -, gB3, -, hb3⟩; have HF3 := Lib.hid hf3; have HG3 := Lib.hid gB3; have HB3 := Lib.hid hb3; clear hf3 gB3 hb3)
          | (go_at_call 23; refine (set_new HF3.out HB3.out HG3.out x v x0 x1 v0 v1).mono ?_; rintro e w4 ⟨rfl, hb4, hf4⟩; have q04 := (hb4.cell (p := ⟨p, 0, none⟩) hpw1).trans q01; have HGA := Lib.hid (get_all8 (HFW1.out.below hb4) x x0 x1); have HGC := Lib.hid (get_all8 hf4 x x0 x1); rw [HGX.out] at HGA; rw [HGP.out] at HGC; have HB4 := Lib.hid hb4; clear hf4 hb4)
          | (go_at_call 24; with_reducible refine Calls.mono HGA.out ?_; rintro e w' ⟨rfl, rfl⟩)
          | (go_at_call 24; with_reducible refine Calls.mono HGC.out ?_; rintro e w' ⟨rfl, rfl⟩)
          | (go_at_call 10; refine (kn8_at (Bl.step HBW1.out HB4.out)).mono ?_; rintro e w' ⟨rfl, hb5⟩)))
        go_ret
        exact ⟨rfl, hb5⟩
set_option maxRecDepth 100000 in
/-- The law CpuFlat. -/
theorem flat_law {w : World} {Ab Ar : Option Addr} {l : List Int} {cb n cr : Nat} {ri : Nat → Int} (hl : SrcBytes w Ab l) (hl01 : ∀ v ∈ l, 0 ≤ v ∧ v < 256) (hr : IntsIn w Ar n ri) (x r v : Int) (x0 : 0 ≤ x) (x1 : x < 4294967296) (v0 : 0 ≤ v) (v1 : v < 256) :
    Calls Try.prog 7 #[.slice Ab l.length cb, .slice Ar n cr, .int .u32 x, .int .i64 r, .int .u8 v] w fun e w' => e = .returned (.bool true) ∧ Below w.heap.size w w' := by
  by_cases h1 : 9000 < l.length ∨ 40 < n
  · exact flat_big x r v h1
  · by_cases hE : newE l.length n ri = 0
    · exact flat_yes hl hl01 hr x r v x0 x1 v0 v1 (by omega) (by omega) hE
    · exact flat_no hr x r v (by omega) (by omega) _ rfl hE
end Go.Proofs.Ytknepljmbpdpkaa
