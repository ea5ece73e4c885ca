/- A step, on both sides. (written by gen_caqj.py) -/
import Derived.Test.YtakgjakcbpdefaaCaqI
namespace Go.Proofs.Ytakgjakcbpdefaa
open Go.RowKit

def DoesOut (w : World) (B q t b : Nat) (T : Tab) (e : Ending) (w' : World) : Prop := e = .returned (.bool true) ∧ TabAt w' t b T ∧ QAt w' B q T ∧ Below B w w'
section
variable {w : World} {B q t b : Nat} {T : Tab}
theorem does_mid {w2 : World} (s : StepS) (h : TabAt w t b T) (k : QAt w B q T) (hB : B ≤ w.heap.size) (ht : B ≤ t) (hb : B ≤ b)
    (hu : Turned t b (w.alloc (.cells #[.int .i64 s.kd, .int .i64 s.a, .int .i64 s.dst, .int .i64 s.th, .int .i64 s.ob, .int .i64 s.ri, .int .i64 s.id] 31)) w2) :
    QAt w2 B q T ∧ Below B w w2 ∧ B ≤ w2.heap.size ∧ w2.heap[w.heap.size]? = some (.cells #[.int .i64 s.kd, .int .i64 s.a, .int .i64 s.dst, .int .i64 s.th, .int .i64 s.ob, .int .i64 s.ri, .int .i64 s.id] 31 (0, 0)) := by
  have hA := (Below.refl _ w).alloc (Nat.le_refl _) (.cells #[.int .i64 s.kd, .int .i64 s.a, .int .i64 s.dst, .int .i64 s.th, .int .i64 s.ob, .int .i64 s.ri, .int .i64 s.id] 31)
  have h1 := h.ht
  have h2 := h.hb
  refine ⟨(k.step hA).other (h.step hA) hu, (hA.mono hB).trans (hu.below (by simp; omega) ht hb), Nat.le_trans (Nat.le_trans hB hA.size) hu.size, (hu.block w.heap.size (by simp) (by omega) (by omega)).trans (heap_alloc_new w _)⟩
set_option maxRecDepth 100000 in
set_option maxHeartbeats 4000000 in
theorem does_any (h : TabAt w t b T) (k : QAt w B q T) (hB : B ≤ w.heap.size) (ht : B ≤ t) (hb : B ≤ b) (hl : T.last < 1000) (s : StepS) (hs : s.fits) :
    Calls Try.prog 13 #[.pointer (some ⟨t, 0, none⟩), .pointer (some ⟨q, 0, none⟩), stepV s] w (DoesOut w B q t b (oneO T s).tab) := by
  have hA := (Below.refl _ w).alloc (Nat.le_refl _) (.cells #[.int .i64 s.kd, .int .i64 s.a, .int .i64 s.dst, .int .i64 s.th, .int .i64 s.ob, .int .i64 s.ri, .int .i64 s.id] 31)
  have hT := h.step hA
  have hn : T.caps.length ≤ 1000 := by have := h.ok.len; omega
  have HR := Lib.hid (root_any hT hl s.a s.th s.ob s.ri hs.1 hs.2.1)
  have HD := Lib.hid (Derive_any hT hl s.a s.id s.ri hs.2.2)
  have HG := Lib.hid (Grant_any hT hl s.a s.id s.dst s.ri hs.2.2)
  have HV := Lib.hid (Revoke_any hT (Nat.le_of_lt hl) s.a s.id hs.2.2)
  have HO := Lib.hid (Drop_any hT (Nat.le_of_lt hl) s.a s.id hs.2.2)
  have HDR := Lib.hid (fun (W : World) (hW : QAt W B q T) (hb : B ≤ W.heap.size) => qroot_any hW hb hl hn s.a s.th s.ob s.ri)
  have HDD := Lib.hid (fun (W : World) (hW : QAt W B q T) (hb : B ≤ W.heap.size) => under_derive h.ok s.a s.id s.ri ▸ qunder_any hW h.ok hb hl hn s.a s.id s.a s.ri 0)
  have HDG := Lib.hid (fun (W : World) (hW : QAt W B q T) (hb : B ≤ W.heap.size) => under_grant h.ok s.a s.id s.dst s.ri ▸ qunder_any hW h.ok hb hl hn s.a s.id s.dst s.ri 8)
  have HDV := Lib.hid (fun (W : World) (hW : QAt W B q T) (hb : B ≤ W.heap.size) => gone_revoke h.ok s.a s.id ▸ qgone_any hW h.ok hb hn s.a s.id false)
  have HDO := Lib.hid (fun (W : World) (hW : QAt W B q T) (hb : B ≤ W.heap.size) => gone_drop h.ok s.a s.id ▸ qgone_any hW h.ok hb hn s.a s.id true)
  have MID := Lib.hid (fun (w2 : World) => does_mid (w2 := w2) s h k hB ht hb)
  have HEND := Lib.hid (show TabAt (w.alloc (.cells #[.int .i64 s.kd, .int .i64 s.a, .int .i64 s.dst, .int .i64 s.th, .int .i64 s.ob, .int .i64 s.ri, .int .i64 s.id] 31)) t b T ∧ QAt (w.alloc (.cells #[.int .i64 s.kd, .int .i64 s.a, .int .i64 s.dst, .int .i64 s.th, .int .i64 s.ob, .int .i64 s.ri, .int .i64 s.id] 31)) B q T ∧ Below B w (w.alloc (.cells #[.int .i64 s.kd, .int .i64 s.a, .int .i64 s.dst, .int .i64 s.th, .int .i64 s.ob, .int .i64 s.ri, .int .i64 s.id] 31)) from ⟨hT, k.step hA, hA.mono hB⟩)
  clear h k hB ht hb hl hs hA hT hn
  unfold stepV oneO
  generalize rootO T s.a s.th s.ob s.ri = oR at *
  generalize deriveO T s.a s.id s.a s.ri s.ri = oD at *
  generalize deriveO T s.a s.id s.dst s.ri (bits .or .i64 s.ri 8) = oG at *
  generalize revokeO T s.a s.id = oV at *
  generalize dropO T s.a s.id = oO at *
  by_cases h1 : s.kd = 1
  · rw [if_pos h1]
    generalize s.kd = kd at *
    subst h1
    go_enter Try.func13, Try.ntmps13
    go_wp2_with (first
      | (go_at_call 23; refine HR.out.mono ?_; rintro e w2 ⟨rfl, hT, hu⟩; obtain ⟨hq2, hb2, hB2, r2⟩ := MID.out _ hu; have HT2 := Lib.hid hT; have HQ2 := Lib.hid hq2; have HB2 := Lib.hid hb2; have HBB2 := Lib.hid hB2; obtain ⟨⟨b0, b1, b2, b3, b4, b5, b6⟩, -, bl⟩ := seven_of r2; clear hT hu hq2 hb2 hB2 r2)
      | (go_at_call 32; refine (HDR.out _ HQ2.out HBB2.out).mono ?_; rintro e w3 hqq; obtain ⟨rfl, hq3⟩ := hqq.at_; have HQ3 := Lib.hid hq3; clear hqq hq3))
    go_ret
    exact ⟨rfl, HT2.out.dk HQ2.out HQ3.out.2.2, HQ3.out.2.1, HB2.out.trans (HQ3.out.2.2.below HBB2.out HQ2.out.hq)⟩
  · skip
    by_cases h2 : s.kd = 2
    · rw [if_neg h1, if_pos h2]
      clear h1
      generalize s.kd = kd at *
      subst h2
      go_enter Try.func13, Try.ntmps13
      go_wp2_with (first
        | (go_at_call 24; refine HD.out.mono ?_; rintro e w2 ⟨rfl, hT, hu⟩; obtain ⟨hq2, hb2, hB2, r2⟩ := MID.out _ hu; have HT2 := Lib.hid hT; have HQ2 := Lib.hid hq2; have HB2 := Lib.hid hb2; have HBB2 := Lib.hid hB2; obtain ⟨⟨b0, b1, b2, b3, b4, b5, b6⟩, -, bl⟩ := seven_of r2; clear hT hu hq2 hb2 hB2 r2)
        | (go_at_call 33; refine (HDD.out _ HQ2.out HBB2.out).mono ?_; rintro e w3 hqq; obtain ⟨rfl, hq3⟩ := hqq.at_; have HQ3 := Lib.hid hq3; clear hqq hq3))
      go_ret
      exact ⟨rfl, HT2.out.dk HQ2.out HQ3.out.2.2, HQ3.out.2.1, HB2.out.trans (HQ3.out.2.2.below HBB2.out HQ2.out.hq)⟩
    · skip
      by_cases h3 : s.kd = 3
      · rw [if_neg h1, if_neg h2, if_pos h3]
        clear h1 h2
        generalize s.kd = kd at *
        subst h3
        go_enter Try.func13, Try.ntmps13
        go_wp2_with (first
          | (go_at_call 26; refine HG.out.mono ?_; rintro e w2 ⟨rfl, hT, hu⟩; obtain ⟨hq2, hb2, hB2, r2⟩ := MID.out _ hu; have HT2 := Lib.hid hT; have HQ2 := Lib.hid hq2; have HB2 := Lib.hid hb2; have HBB2 := Lib.hid hB2; obtain ⟨⟨b0, b1, b2, b3, b4, b5, b6⟩, -, bl⟩ := seven_of r2; clear hT hu hq2 hb2 hB2 r2)
          | (go_at_call 33; refine (HDG.out _ HQ2.out HBB2.out).mono ?_; rintro e w3 hqq; obtain ⟨rfl, hq3⟩ := hqq.at_; have HQ3 := Lib.hid hq3; clear hqq hq3))
        go_ret
        exact ⟨rfl, HT2.out.dk HQ2.out HQ3.out.2.2, HQ3.out.2.1, HB2.out.trans (HQ3.out.2.2.below HBB2.out HQ2.out.hq)⟩
      · skip
        by_cases h4 : s.kd = 4
        · rw [if_neg h1, if_neg h2, if_neg h3, if_pos h4]
          clear h1 h2 h3
          generalize s.kd = kd at *
          subst h4
          go_enter Try.func13, Try.ntmps13
          go_wp2_with (first
            | (go_at_call 21; refine HV.out.mono ?_; rintro e w2 ⟨rfl, hT, hu⟩; obtain ⟨hq2, hb2, hB2, r2⟩ := MID.out _ hu; have HT2 := Lib.hid hT; have HQ2 := Lib.hid hq2; have HB2 := Lib.hid hb2; have HBB2 := Lib.hid hB2; obtain ⟨⟨b0, b1, b2, b3, b4, b5, b6⟩, -, bl⟩ := seven_of r2; clear hT hu hq2 hb2 hB2 r2)
            | (go_at_call 34; refine (HDV.out _ HQ2.out HBB2.out).mono ?_; rintro e w3 hqq; obtain ⟨rfl, hq3⟩ := hqq.at_; have HQ3 := Lib.hid hq3; clear hqq hq3))
          go_ret
          exact ⟨rfl, HT2.out.dk HQ2.out HQ3.out.2.2, HQ3.out.2.1, HB2.out.trans (HQ3.out.2.2.below HBB2.out HQ2.out.hq)⟩
        · skip
          by_cases h5 : s.kd = 5
          · rw [if_neg h1, if_neg h2, if_neg h3, if_neg h4, if_pos h5]
            clear h1 h2 h3 h4
            generalize s.kd = kd at *
            subst h5
            go_enter Try.func13, Try.ntmps13
            go_wp2_with (first
              | (go_at_call 22; refine HO.out.mono ?_; rintro e w2 ⟨rfl, hT, hu⟩; obtain ⟨hq2, hb2, hB2, r2⟩ := MID.out _ hu; have HT2 := Lib.hid hT; have HQ2 := Lib.hid hq2; have HB2 := Lib.hid hb2; have HBB2 := Lib.hid hB2; obtain ⟨⟨b0, b1, b2, b3, b4, b5, b6⟩, -, bl⟩ := seven_of r2; clear hT hu hq2 hb2 hB2 r2)
              | (go_at_call 34; refine (HDO.out _ HQ2.out HBB2.out).mono ?_; rintro e w3 hqq; obtain ⟨rfl, hq3⟩ := hqq.at_; have HQ3 := Lib.hid hq3; clear hqq hq3))
            go_ret
            exact ⟨rfl, HT2.out.dk HQ2.out HQ3.out.2.2, HQ3.out.2.1, HB2.out.trans (HQ3.out.2.2.below HBB2.out HQ2.out.hq)⟩
          · skip
            rw [if_neg h1, if_neg h2, if_neg h3, if_neg h4, if_neg h5]
            have g1 : (s.kd == 1) = false := by simpa using h1
            have g2 : (s.kd == 2) = false := by simpa using h2
            have g3 : (s.kd == 3) = false := by simpa using h3
            have g4 : (s.kd == 4) = false := by simpa using h4
            have g5 : (s.kd == 5) = false := by simpa using h5
            clear h1 h2 h3 h4 h5
            go_enter Try.func13, Try.ntmps13
            go_wp2_with fail
            go_ret
            exact ⟨rfl, HEND.out⟩
end
end Go.Proofs.Ytakgjakcbpdefaa
