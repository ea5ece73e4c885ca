/- CapsNil: the walk. -/
import Derived.Test.YtgpmkllhljngfaaCapV2
namespace Go.Proofs.Ytgpmkllhljngfaa
open Go.RowKit

def n1 : Cap := ⟨1, 0, 1, 1, 0, 0, 15⟩
def n2 : Cap := ⟨2, 1, 1, 1, 0, 0, 15⟩
def n3 : Cap := ⟨3, 2, 2, 1, 0, 0, 7⟩
def rC (j : Nat) : Cap := ⟨(j : Int) + 1, 0, 3, 3, 0, j, 1⟩
/-- So many roots of the account 3. -/
def rT (i : Nat) : Tab := ⟨(List.range i).map rC, i⟩
theorem made_r (i : Nat) : madeBy (rT i).caps 3 = i := by
  unfold madeBy rT
  dsimp only
  rw [List.filter_eq_self.2]
  · simp
  · intro c hc
    obtain ⟨j, -, rfl⟩ := List.mem_map.1 hc
    rfl
theorem root_r (i : Nat) (hi : i < 32) : rootO (rT i) 3 0 i 1 = ⟨rT (i + 1), (i : Int) + 1, 0⟩ := by
  have hb : rootB 3 0 (i : Int) 1 = true := by unfold rootB; simp [accB, rightsB]
  unfold rootO addO
  rw [if_pos hb, if_neg (by show ¬ 32 ≤ madeBy (rT i).caps 3; rw [made_r]; omega)]
  show Out.mk (addT (rT i) _) _ _ = _
  unfold addT rT
  rw [List.range_succ, List.map_append]
  rfl
theorem root_in {w0 w : World} {t b : Nat} {i : Nat} (h : TabOwn w0 w t b (rT i)) (hi : i < 32) :
    Calls Try.prog 23 #[.pointer (some ⟨t, 0, none⟩), .int .i64 3, .int .i64 0, .int .i64 (i : Int), .int .i64 1] w (OwnOut w0 t b (rT (i + 1)) ((i : Int) + 1) 0) :=
  root_lit h (by show i < 1000; omega) 3 0 i 1 (wf_small (by decide) (by decide)) (wf_small (by omega) (by omega)) _ _ _ (root_r i hi)
def rU : Tab := addT (rT 32) ⟨0, 0, 4, 4, 0, 99, 1⟩
def rV : Tab := (dropO rU 3 1).tab
def rW : Tab := (rootO rV 3 0 99 1).tab
/-- The two tables that are none. -/
def nilP (B k : Nat) : Option Addr := if k = 0 then none else some ⟨B, 0, none⟩

def nF (B : Nat) (u : Nat → Value) (k : Nat) : Act := { tmps := #[u 0, .slice (some ⟨B + 1, 0, none⟩) 2 2, .int .i64 k, u 3, u 4, u 5, u 6, u 7, u 8, u 9, u 10, u 11, u 12, u 13, u 14, u 15, u 16, u 17, u 18, u 19, u 20, u 21, u 22, u 23, u 24, u 25, u 26, u 27, u 28, u 29, u 30, u 31, u 32, u 33, u 34, u 35, u 36, u 37, u 38, u 39, u 40, u 41, u 42, u 43, u 44, u 45, u 46, u 47, u 48, u 49, u 50, u 51, u 52, u 53, u 54, u 55, u 56, u 57, u 58, u 59, u 60, u 61, u 62, u 63, u 64, u 65, u 66, u 67, u 68, u 69, u 70, u 71, u 72, u 73, u 74, u 75, u 76, u 77, u 78, u 79, u 80, u 81, u 82, u 83, u 84, u 85, u 86, u 87, u 88, u 89, u 90, u 91, u 92, u 93, u 94, u 95, u 96, u 97, u 98, u 99, u 100, u 101, u 102, u 103, u 104, u 105, u 106, u 107, u 108, u 109, u 110, u 111, u 112, u 113, u 114, u 115, u 116, u 117, u 118, u 119, u 120, u 121, u 122, u 123, u 124, u 125, u 126, u 127, u 128, u 129, u 130, u 131, u 132, u 133, u 134, u 135, u 136, u 137, u 138, u 139, u 140, u 141, u 142, u 143, u 144, u 145, u 146, u 147, u 148, u 149, u 150, u 151, u 152, u 153, u 154, u 155, u 156, u 157, u 158, u 159, u 160, u 161, u 162, u 163, u 164, u 165, u 166, u 167, u 168, u 169, u 170, u 171, u 172, u 173, u 174, u 175, u 176, u 177, u 178, u 179, u 180, u 181, u 182, u 183, u 184, u 185, u 186, u 187, u 188, u 189, u 190, u 191, u 192, u 193, u 194, u 195, u 196, u 197, u 198, u 199, u 200, u 201, u 202, u 203, u 204, u 205, u 206, u 207, u 208, u 209, u 210, u 211, u 212, u 213, u 214, u 215, u 216, u 217, u 218, u 219, u 220, u 221, u 222, u 223, u 224, u 225, u 226, u 227, u 228, u 229], defers := [] }
theorem nF_of (B : Nat) {Rel : Nat → Prop} (a : Act) (k : Nat) (hr : Rel k) (h : a = nF B (fun i => a.tmps.getD i undef) k) : ∃ u k, Rel k ∧ a = nF B u k := ⟨_, k, hr, h⟩
def mF (t : Nat) (u : Nat → Value) (k : Nat) : Act := { tmps := #[u 0, u 1, u 2, u 3, u 4, u 5, u 6, u 7, u 8, u 9, u 10, u 11, u 12, u 13, u 14, u 15, u 16, u 17, u 18, u 19, u 20, u 21, u 22, u 23, u 24, u 25, u 26, .pointer (some ⟨t, 0, none⟩), .int .i64 k, u 29, u 30, u 31, u 32, u 33, u 34, u 35, u 36, u 37, u 38, u 39, u 40, u 41, u 42, u 43, u 44, u 45, u 46, u 47, u 48, u 49, u 50, u 51, u 52, u 53, u 54, u 55, u 56, u 57, u 58, u 59, u 60, u 61, u 62, u 63, u 64, u 65, u 66, u 67, u 68, u 69, u 70, u 71, u 72, u 73, u 74, u 75, u 76, u 77, u 78, u 79, u 80, u 81, u 82, u 83, u 84, u 85, u 86, u 87, u 88, u 89, u 90, u 91, u 92, u 93, u 94, u 95, u 96, u 97, u 98, u 99, u 100, u 101, u 102, u 103, u 104, u 105, u 106, u 107, u 108, u 109, u 110, u 111, u 112, u 113, u 114, u 115, u 116, u 117, u 118, u 119, u 120, u 121, u 122, u 123, u 124, u 125, u 126, u 127, u 128, u 129, u 130, u 131, u 132, u 133, u 134, u 135, u 136, u 137, u 138, u 139, u 140, u 141, u 142, u 143, u 144, u 145, u 146, u 147, u 148, u 149, u 150, u 151, u 152, u 153, u 154, u 155, u 156, u 157, u 158, u 159, u 160, u 161, u 162, u 163, u 164, u 165, u 166, u 167, u 168, u 169, u 170, u 171, u 172, u 173, u 174, u 175, u 176, u 177, u 178, u 179, u 180, u 181, u 182, u 183, u 184, u 185, u 186, u 187, u 188, u 189, u 190, u 191, u 192, u 193, u 194, u 195, u 196, u 197, u 198, u 199, u 200, u 201, u 202, u 203, u 204, u 205, u 206, u 207, u 208, u 209, u 210, u 211, u 212, u 213, u 214, u 215, u 216, u 217, u 218, u 219, u 220, u 221, u 222, u 223, u 224, u 225, u 226, u 227, u 228, u 229], defers := [] }
theorem mF_of (t : Nat) {Rel : Nat → Prop} (a : Act) (k : Nat) (hr : Rel k) (h : a = mF t (fun i => a.tmps.getD i undef) k) : ∃ u k, Rel k ∧ a = mF t u k := ⟨_, k, hr, h⟩
theorem nil_cell {w W : World} {k : Nat} (hk : k < 2) (hb : Below (w.heap.size + 2) ((w.alloc (.cells #[.map none, .int .i64 0] 61)).alloc (.cells #[.pointer none, .pointer (some ⟨w.heap.size, 0, none⟩)] 24)) W) :
    W.cell? ⟨w.heap.size + 1, k, none⟩ = some (.pointer (nilP w.heap.size k)) ∧ NoTab W (nilP w.heap.size k) := by
  have r1 := (hb.block (w.heap.size + 1) (by omega)).trans (heap_at (w.alloc (.cells #[.map none, .int .i64 0] 61)) (.cells #[.pointer none, .pointer (some ⟨w.heap.size, 0, none⟩)] 24) (w.heap.size + 1) (by simp))
  have r0 := (hb.block w.heap.size (by omega)).trans ((Below.heap_alloc (w.alloc (.cells #[.map none, .int .i64 0] 61)) (.cells #[.pointer none, .pointer (some ⟨w.heap.size, 0, none⟩)] 24) w.heap.size (by simp)).trans (heap_alloc_new w (.cells #[.map none, .int .i64 0] 61)))
  rcases (by omega : k = 0 ∨ k = 1) with rfl | rfl
  · exact ⟨by rw [cell_of_row _ _ _ _ _ _ r1]; rfl, .inl rfl⟩
  · exact ⟨by rw [cell_of_row _ _ _ _ _ _ r1]; rfl, .inr ⟨w.heap.size, rfl, by rw [cell_of_row _ _ _ _ _ _ r0]; rfl⟩⟩
set_option maxRecDepth 100000 in
set_option maxHeartbeats 4000000 in
theorem capnil_any (w : World) : Calls Try.prog 8 #[] w fun e w' => e = .returned (.bool true) ∧ Below w.heap.size w w' := by
  go_enter Try.func8, Try.ntmps8
  go_wp2_with fail
  have b0 := Lib.hid (((Below.refl _ w).alloc (Nat.le_refl _) (.cells #[.map none, .int .i64 0] 61)).alloc (by simp) (.cells #[.pointer none, .pointer (some ⟨w.heap.size, 0, none⟩)] 24))
  refine wp_loop (fun a' W => ∃ u k, (k ≤ 2 ∧ Below (w.heap.size + 2) ((w.alloc (.cells #[.map none, .int .i64 0] 61)).alloc (.cells #[.pointer none, .pointer (some ⟨w.heap.size, 0, none⟩)] 24)) W) ∧ a' = nF w.heap.size u k) (fun a' _ => 2 - (intOf (a'.tmps.getD 2 undef)).toNat) ?_ ?_
  · exact nF_of w.heap.size _ 0 ⟨Nat.zero_le _, Below.refl _ _⟩ rfl
  rintro a' W ⟨u, k, ⟨hk, hbl⟩, rfl⟩
  unfold nF
  have BL := Lib.hid hbl
  have hsz := hbl.size
  simp only [World.size_alloc] at hsz
  have HSZ := Lib.hid (show w.heap.size + 2 ≤ W.heap.size by omega)
  by_cases hlt : k < 2
  · have hlt' : (k : Int) < 2 := by omega
    obtain ⟨ck, hnt⟩ := nil_cell hlt hbl
    have HNT := Lib.hid hnt
    clear hbl hnt hsz
    obtain ⟨p, hp⟩ : ∃ p, p = nilP w.heap.size k := ⟨_, rfl⟩
    rw [← hp] at ck HNT
    clear hp
    go_wp2_with (first
      | (go_at_call 23; refine (root_nt HNT.out _ _ _ _).mono ?_; rintro e w' ⟨rfl, rfl⟩)
      | (go_at_call 24; refine (Derive_nt HNT.out _ _ _).mono ?_; rintro e w' ⟨rfl, rfl⟩)
      | (go_at_call 26; refine (Grant_nt HNT.out _ _ _ _).mono ?_; rintro e w' ⟨rfl, rfl⟩)
      | (go_at_call 21; fail))
    refine (Revoke_nt HNT.out _ _).mono ?_
    rintro e W1 ⟨rfl, hb⟩
    have N1 := Lib.hid (HNT.out.below hb)
    have B1 := Lib.hid hb
    clear hb HNT ck
    go_wp2_with fail
    refine (Drop_nt N1.out _ _).mono ?_
    rintro e W2 ⟨rfl, hb⟩
    have N2 := Lib.hid (N1.out.below hb)
    have B2 := Lib.hid (B1.out.trans (hb.mono B1.out.size))
    clear hb N1 B1
    go_wp2_with fail
    refine (of_nt N2.out _).mono ?_
    rintro e W3 ⟨rfl, hb⟩
    have hb' := hb.alloc hb.size (boxC nilC)
    have N3 := Lib.hid (N2.out.below hb')
    have B3 := Lib.hid (B2.out.trans (hb'.mono B2.out.size))
    clear hb hb' N2 B2
    unfold boxC nilC at N3 B3
    unfold capV nilC
    go_wp2_with fail
    refine (over_nt N3.out _ _).mono ?_
    rintro e W4 ⟨rfl, hb⟩
    have N4 := Lib.hid (N3.out.below hb)
    have B4 := Lib.hid (B3.out.trans (hb.mono B3.out.size))
    clear hb N3 B3
    go_wp2_with fail
    refine (may_nt N4.out _ _ _).mono ?_
    rintro e W5 ⟨rfl, hb⟩
    have N5 := Lib.hid (N4.out.below hb)
    have B5 := Lib.hid (B4.out.trans (hb.mono B4.out.size))
    clear hb N4 B4
    go_wp2_with fail
    refine (made_nt N5.out _).mono ?_
    rintro e W6 ⟨rfl, hb⟩
    have N6 := Lib.hid (N5.out.below hb)
    have B6 := Lib.hid (B5.out.trans (hb.mono B5.out.size))
    clear hb N5 B5
    go_wp2_with (first
      | (go_at_call 28; refine (len_nt N6.out).mono ?_; rintro e w' ⟨rfl, rfl⟩)
      | (go_at_call 11; refine (clone_nt N6.out).mono ?_; rintro e w' ⟨rfl, rfl⟩))
    have hbox := (Below.refl _ W6).alloc (Nat.le_refl _) (.cells #[.slice none 0 0, .int .i64 0] 29)
    refine (goes_nt (N6.out.below hbox) W6.heap.size (heap_alloc_new W6 _)).mono ?_
    rintro e W7 ⟨rfl, hb⟩
    have B7 := Lib.hid (B6.out.trans ((hbox.trans (hb.mono (by simp))).mono B6.out.size))
    clear hb hbox N6 B6
    go_wp2_with fail
    refine ⟨nF_of w.heap.size _ (k + 1) ⟨hlt, BL.out.trans (B7.out.mono HSZ.out)⟩ rfl, ?_⟩
    simp [intOf]; omega
  · have hge : ¬ (k : Int) < 2 := by omega
    have BW := Lib.hid (b0.out.trans (hbl.mono (by omega)))
    clear hbl BL HSZ hsz b0
    go_wp2_with fail
    refine (new_own BW.out).mono ?_
    rintro e w0 ⟨t1, b1, rfl, h0, -, -⟩
    have H0 := Lib.hid h0
    clear h0 BW
    go_wp2_with fail
    refine (root_lit H0.out (by decide) 1 0 0 15 (wf_small (by decide) (by decide)) (wf_small (by decide) (by decide)) ⟨[n1], 1⟩ 1 0 (by kernel_rfl)).mono ?_
    rintro e w1 ⟨rfl, h1⟩
    have H1 := Lib.hid h1
    clear h1 H0
    go_wp2_with fail
    refine (derive_lit H1.out (by decide) 1 1 15 (wf_small (by decide) (by decide)) ⟨[n1, n2], 2⟩ 2 0 (by kernel_rfl)).mono ?_
    rintro e w2 ⟨rfl, h1⟩
    have H2 := Lib.hid h1
    clear h1 H1
    go_wp2_with fail
    refine (grant_lit H2.out (by decide) 1 2 2 7 (wf_small (by decide) (by decide)) ⟨[n1, n2, n3], 3⟩ 3 0 (by kernel_rfl)).mono ?_
    rintro e w3 ⟨rfl, h1⟩
    have H3 := Lib.hid h1
    clear h1 H2
    go_wp2_with fail
    refine (revoke_lit H3.out (by decide) 1 1 (wf_small (by decide) (by decide)) ⟨[n1], 3⟩ 2 0 (by kernel_rfl)).mono ?_
    rintro e w4 ⟨rfl, h1⟩
    have H4 := Lib.hid h1
    clear h1 H3
    go_wp2_with fail
    refine (len_lit H4.out 1 rfl).mono ?_
    rintro e w4' ⟨rfl, rfl⟩
    go_wp2_with fail
    refine (may_lit H4.out 2 0 0 1 false (by kernel_rfl)).mono ?_
    rintro e w5 ⟨rfl, h1⟩
    have H5 := Lib.hid h1
    clear h1 H4
    go_wp2_with fail
    refine (new_own H5.out.below).mono ?_
    rintro e w6 ⟨t, b, rfl, h0, -, -⟩
    have H6 := Lib.hid (show TabOwn w w6 t b (rT 0) from h0)
    clear h0 H5
    go_wp2_with fail
    refine wp_loop (fun a' W => ∃ u k, (k ≤ 32 ∧ TabOwn w W t b (rT k)) ∧ a' = mF t u k) (fun a' _ => 32 - (intOf (a'.tmps.getD 28 undef)).toNat) ?_ ?_
    · exact mF_of t _ 0 ⟨Nat.zero_le _, H6.out⟩ rfl
    clear H6
    rintro a' W ⟨u, k, ⟨hk, hT⟩, rfl⟩
    unfold mF
    have HT := Lib.hid hT
    clear hT
    by_cases hlt : k < 32
    · have hlt' : (k : Int) < 32 := by omega
      have HR := Lib.hid (root_in HT.out hlt)
      go_wp2_with fail
      refine HR.out.mono ?_
      rintro e W1 ⟨rfl, h1⟩
      have H1 := Lib.hid h1
      clear h1 HR HT
      go_wp2_with fail
      refine ⟨mF_of t _ (k + 1) ⟨hlt, H1.out⟩ rfl, ?_⟩
      simp [intOf]; omega
    · have hge : ¬ (k : Int) < 32 := by omega
      have ek : k = 32 := by omega
      have H7 := Lib.hid (show TabOwn w W t b (rT 32) from ek ▸ HT.out)
      clear HT ek hlt
      go_wp2_with fail
      refine (root_lit H7.out (by decide) 3 0 99 1 (wf_small (by decide) (by decide)) (wf_small (by decide) (by decide)) (rT 32) 0 5 (by kernel_rfl)).mono ?_
      rintro e w8 ⟨rfl, h1⟩
      have H8 := Lib.hid h1
      clear h1 H7
      go_wp2_with fail
      refine (root_lit H8.out (by decide) 4 0 99 1 (wf_small (by decide) (by decide)) (wf_small (by decide) (by decide)) rU 33 0 (by kernel_rfl)).mono ?_
      rintro e w9 ⟨rfl, h1⟩
      have H9 := Lib.hid h1
      clear h1 H8
      go_wp2_with fail
      refine (drop_lit H9.out (by decide) 3 1 (wf_small (by decide) (by decide)) rV 1 0 (by kernel_rfl)).mono ?_
      rintro e w10 ⟨rfl, h1⟩
      have H10 := Lib.hid h1
      clear h1 H9
      go_wp2_with fail
      refine (root_lit H10.out (by show (33 : Nat) < 1000; decide) 3 0 99 1 (wf_small (by decide) (by decide)) (wf_small (by decide) (by decide)) rW 34 0 (by kernel_rfl)).mono ?_
      rintro e w11 ⟨rfl, h1⟩
      have H11 := Lib.hid h1
      clear h1 H10
      go_wp2_with fail
      refine (known_any _).mono ?_
      rintro e w12 ⟨rfl, hb⟩
      have H12 := Lib.hid (H11.out.step hb)
      clear hb H11
      go_wp2_with fail
      go_ret
      exact ⟨rfl, H12.out.below⟩
end Go.Proofs.Ytgpmkllhljngfaa
