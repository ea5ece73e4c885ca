/- A core's store. -/
import Derived.Test.YtknepljmbpdpkaaCpG
import Derived.Test.YtknepljmbpdpkaaIsaBytes
import Derived.Deep.AppendLies
import Derived.OwnWalk
namespace Go.Proofs.Ytknepljmbpdpkaa
open Go.RowKit

theorem low8_succ (n : Nat) (x : Int) : low8 (n + 1) x = x % 256 :: low8 n (x / 256) := rfl
theorem low8_len : ∀ (n : Nat) (x : Int), (low8 n x).length = n
  | 0, _ => rfl
  | n + 1, x => by rw [low8_succ, List.length_cons, low8_len n]
theorem low8_range : ∀ (n : Nat) (x : Int), ∀ v ∈ low8 n x, 0 ≤ v ∧ v < 256
  | 0, _, v, h => by cases h
  | n + 1, x, v, h => by
    rw [low8_succ] at h
    rcases List.mem_cons.1 h with rfl | h
    · omega
    · exact low8_range n _ v h
theorem own_bytes8 {w : World} {B n : Nat} {v : Value} {l : List Int} (h : w.ownsRow B 5 1 v n (l.map (Value.int .u8))) (hl : l.length = n) (hp : 0 < n) (h01 : ∀ v ∈ l, 0 ≤ v ∧ v < 256) (B0 : Nat) (hB0 : B0 < B) :
    ∃ g c, v = .slice (some ⟨g, 0, none⟩) n c ∧ BytesIn8 w B0 g 0 l := by
  obtain ⟨g, c, rfl, -, -⟩ := h.form hp
  have hlt := h.lt g rfl
  refine ⟨g, c, rfl, by omega, hlt.2, fun j u hj => ?_, h01⟩
  have hj2 := (List.getElem?_eq_some_iff.1 hj).1
  rw [Nat.zero_add, h.cellAt j (by omega), List.getElem?_map, hj]
  rfl

/-- What the core's store hands back. -/
def PutOut (C F B mp : Nat) (ra : Option Addr) (rc bc : Nat) (m : Mem8) (s : St8) (w : World) (e : Ending) (w' : World) : Prop := e = .returned (stp8 0 0 0 0 0) ∧ CoreAt w' C s F mp ∧ FlatAt w' F B ra rc bc m ∧ Turned w w' [B]
/-- The bytes that are written so far, and those to come. -/
def PutRel (B0 n : Nat) (x : Int) (w wr : World) (a v i : Value) : Prop :=
  ∃ (k : Nat) (y : Int) (L : List Int), k ≤ n ∧ i = .int .i64 k ∧ a = .int .u32 y ∧ 0 ≤ y ∧ y < 4294967296 ∧ L.length = k ∧ L ++ low8 (n - k) y = low8 n x ∧ wr.ownsRow B0 5 1 v k (L.map (Value.int .u8)) ∧ Below w.heap.size w wr

set_option maxHeartbeats 1000000 in
set_option maxRecDepth 100000 in
theorem put_any8 {w : World} {F B C mp : Nat} {ra : Option Addr} {rc bc : Nat} {m : Mem8} {s : St8} (h : FlatAt w F B ra rc bc m) (hc : CoreAt w C s F mp) (hCB : C ≠ B) (v x : Int) (n : Nat) (hn : 0 < n) (hn4 : n ≤ 4) (v0 : 0 ≤ v) (v1 : v < 4294967296) (h0 : 0 ≤ x) (h1 : x < 4294967296) (hm : (mayT m 2 n x).2 = true) :
    Calls Try.prog 62 #[.pointer (some ⟨C, 0, none⟩), .int .u32 v, .int .u32 x, .int .i64 n] w (PutOut C F B mp ra rc bc (storeM m x (low8 n v)) s w) := by
  obtain ⟨i0, hi, hz0, hz1, hz2⟩ := info_parts Try.infoU8
  have hC := hc.lt
  have H := Lib.hid h
  have HC := Lib.hid hc
  have HM := Lib.hid hm
  clear h hc hm
  go_enter Try.func62, Try.ntmps62
  go_wp2
  go_loopw [1, 9, 13] (fun a b i wr => PutRel (w.heap.size + 1) n v (w.alloc (.cells #[.int .i64 0, .int .i64 0, .int .u32 0, .int .i64 0, .int .i64 0] 38)) wr a b i) (fun _ _ i _ => n - (intOf i).toNat)
  case atStart => exact ⟨0, v, [], Nat.zero_le _, rfl, rfl, v0, v1, rfl, rfl, World.ownsRow_nil .., Below.refl _ _⟩
  case round =>
    obtain ⟨k, y, L, hk, rfl, rfl, y0, y1, hL, hLL, hown, hbl⟩ := hrel
    have HL := Lib.hid hL
    have HLL := Lib.hid hLL
    have HO := Lib.hid hown
    have HB := Lib.hid hbl
    have hsz : w.heap.size + 1 ≤ wr.heap.size := by have := hbl.size; simpa using this
    clear hL hLL hown hbl
    by_cases hlt : k < n
    · have hlt' : decide (k < n) = true := by simpa using hlt
      go_wp2_with (at_builtin; refine wpList_append_own _ rfl _ _ 23 rfl (w.heap.size + 1) 5 i0 (.int .u8 0) 1 1 Try.underlying23 hi hz0 hz1 hz2 rfl (by decide) _ _ _ rfl (HO.out.alloc _) ⟨wr.heap.size, 0, none⟩ 1 1 [.int .u8 (y % 256)] rfl rfl (cell_one_new _ _ _) (by simp [Value.oneCell']) (by unfold maxLen; omega) (by omega) (by simp; omega) ?_; intro v2 w2 h2 hgrow2 _)
      go_roundw
      case rel =>
        refine ⟨k + 1, y / 256, L ++ [y % 256], hlt, by go_num, rfl, by omega, by omega, by rw [List.length_append, HL.out]; rfl, ?_, ?_, ?_⟩
        · have e := HLL.out
          rw [show n - k = (n - (k + 1)) + 1 by omega, low8_succ] at e
          rw [← e, List.append_assoc]; rfl
        · rw [List.map_append]; exact h2
        · exact (HB.out.alloc (by simpa using hsz) _).grown hgrow2 (by simp; omega) (fun k e => by have := ((HO.out.alloc (.cells #[.int .u8 (y % 256)] 5)).lt k e).1; simpa using this)
      case measure => simp [intOf]; omega
    · obtain rfl : k = n := by omega
      have hlt' : decide (k < k) = false := by simp
      have hLv : L = low8 k v := by have e := HLL.out; rw [Nat.sub_self] at e; simpa [low8] using e
      have HLv := Lib.hid hLv
      clear hLv
      have hRb : 0 < m.np → ∀ b o, ra = some ⟨b, o, none⟩ → b ∉ [w.heap.size] := fun hp b o e => by
        obtain ⟨Rb, ro, e', -, l, -⟩ := H.out.rr hp
        rw [e'] at e
        cases e
        simp; omega
      have HRb := Lib.hid hRb
      clear hRb
      have hb0 : Below w.heap.size w wr := ((Below.refl _ w).alloc (Nat.le_refl _) _).trans (HB.out.mono (by simp))
      obtain ⟨g, c, rfl, hby⟩ := own_bytes8 HO.out HL.out hn (by rw [HLv.out]; exact low8_range k v) B (by have := H.out.bl; omega)
      have cm := (HC.out.below hb0).mem
      have hS := store_yes8 (H.out.below hb0) x g 0 c L hby h0 h1 (by rw [HL.out]; omega) (by rw [HL.out]; exact HM.out)
      rw [HL.out] at hS
      have HS := Lib.hid hS
      have hC1 : C < wr.heap.size := by omega
      have d0 := wr.heap.size
      have H5 := Lib.hid (new5 HB.out)
      have HB0 := Lib.hid hb0
      clear hS hby hb0
      go_wp2_with (go_at_call 20; refine HS.out.mono ?_; rintro e w2 ⟨rfl, hF2, hT2, hz2⟩; obtain ⟨d0, d1, d2, d3, d4, d5, d6⟩ := five_of ((hT2.block w.heap.size (by omega) (by have := H.out.bl; simp; omega)).trans H5.out); have HF2 := Lib.hid hF2; have HT2 := Lib.hid hT2; clear hF2 hT2)
      refine bodyPost_ret (v := stp8 0 0 0 0 0) (by simp [results, Try.results62, go_sem, d0, d1, d2, d3, d4, d6]) rfl ⟨rfl, ?_, ?_, ?_⟩
      · repeat (first | (with_reducible refine CoreAt.cdrew ?_) | (with_reducible refine CoreAt.calloc ?_ _) | ((with_reducible refine CoreAt.far (hg := ?hg) ?_ _ _); case hg => omega))
        exact (HC.out.below HB0.out).keep (HT2.out.block _ hC1 (by simpa using hCB))
      · refine FlatAt.other (w := w2) (gs := [w.heap.size]) (by have q := HF2.out; rw [HLv.out] at q; exact q) ?_ (by have := H.out.fl; simp; omega) (by have := H.out.bl; simp; omega) (fun hp b o e => HRb.out (by rw [← (storeM_np _ m x).1]; exact hp) b o e)
        repeat (first | (with_reducible exact Turned.refl _ _) | (with_reducible refine Turned.tdrew ?_) | (with_reducible refine Turned.talloc ?_ _) | ((with_reducible refine Turned.tset (hg := ?hg) ?_ _ _); case hg => first | (right; omega) | (left; simp; done)))
      · repeat (first | (with_reducible exact (Turned.of_below _ HB0.out).trans HT2.out) | (with_reducible refine Turned.tdrew ?_) | (with_reducible refine Turned.talloc ?_ _) | ((with_reducible refine Turned.tset (hg := ?hg) ?_ _ _); case hg => first | (right; omega) | (left; simp; done)))
set_option maxHeartbeats 1000000 in
set_option maxRecDepth 100000 in
theorem put_no8 {w : World} {F B C mp : Nat} {ra : Option Addr} {rc bc : Nat} {m : Mem8} {s : St8} (h : FlatAt w F B ra rc bc m) (hc : CoreAt w C s F mp) (v x : Int) (n : Nat) (hn : 0 < n) (hn4 : n ≤ 4) (v0 : 0 ≤ v) (v1 : v < 4294967296) (h0 : 0 ≤ x) (h1 : x < 4294967296) (hm : (mayT m 2 n x).2 = false) :
    Calls Try.prog 62 #[.pointer (some ⟨C, 0, none⟩), .int .u32 v, .int .u32 x, .int .i64 n] w fun e w' => e = .returned (stp8 5 0 (mayT m 2 n x).1 2 0) ∧ Below w.heap.size w w' := by
  obtain ⟨i0, hi, hz0, hz1, hz2⟩ := info_parts Try.infoU8
  have hC := hc.lt
  have H := Lib.hid h
  have HC := Lib.hid hc
  have HM := Lib.hid hm
  obtain ⟨z, hz⟩ : ∃ z, (mayT m 2 n x).1 = z := ⟨_, rfl⟩
  rw [hz]
  have HZ := Lib.hid hz
  clear h hc hm hz
  go_enter Try.func62, Try.ntmps62
  go_wp2
  go_loopw [1, 9, 13] (fun a b i wr => PutRel (w.heap.size + 1) n v (w.alloc (.cells #[.int .i64 0, .int .i64 0, .int .u32 0, .int .i64 0, .int .i64 0] 38)) wr a b i) (fun _ _ i _ => n - (intOf i).toNat)
  case atStart => exact ⟨0, v, [], Nat.zero_le _, rfl, rfl, v0, v1, rfl, rfl, World.ownsRow_nil .., Below.refl _ _⟩
  case round =>
    obtain ⟨k, y, L, hk, rfl, rfl, y0, y1, hL, hLL, hown, hbl⟩ := hrel
    have HL := Lib.hid hL
    have HLL := Lib.hid hLL
    have HO := Lib.hid hown
    have HB := Lib.hid hbl
    have hsz : w.heap.size + 1 ≤ wr.heap.size := by have := hbl.size; simpa using this
    clear hL hLL hown hbl
    by_cases hlt : k < n
    · have hlt' : decide (k < n) = true := by simpa using hlt
      go_wp2_with (at_builtin; refine wpList_append_own _ rfl _ _ 23 rfl (w.heap.size + 1) 5 i0 (.int .u8 0) 1 1 Try.underlying23 hi hz0 hz1 hz2 rfl (by decide) _ _ _ rfl (HO.out.alloc _) ⟨wr.heap.size, 0, none⟩ 1 1 [.int .u8 (y % 256)] rfl rfl (cell_one_new _ _ _) (by simp [Value.oneCell']) (by unfold maxLen; omega) (by omega) (by simp; omega) ?_; intro v2 w2 h2 hgrow2 _)
      go_roundw
      case rel =>
        refine ⟨k + 1, y / 256, L ++ [y % 256], hlt, by go_num, rfl, by omega, by omega, by rw [List.length_append, HL.out]; rfl, ?_, ?_, ?_⟩
        · have e := HLL.out
          rw [show n - k = (n - (k + 1)) + 1 by omega, low8_succ] at e
          rw [← e, List.append_assoc]; rfl
        · rw [List.map_append]; exact h2
        · exact (HB.out.alloc (by simpa using hsz) _).grown hgrow2 (by simp; omega) (fun k e => by have := ((HO.out.alloc (.cells #[.int .u8 (y % 256)] 5)).lt k e).1; simpa using this)
      case measure => simp [intOf]; omega
    · obtain rfl : k = n := by omega
      have hlt' : decide (k < k) = false := by simp
      have hb0 : Below w.heap.size w wr := ((Below.refl _ w).alloc (Nat.le_refl _) _).trans (HB.out.mono (by simp))
      obtain ⟨g, c, rfl, -, -⟩ := HO.out.form hn
      have cm := (HC.out.below hb0).mem
      have HS := Lib.hid (store_no8 (H.out.below hb0) x (some ⟨g, 0, none⟩) k c h0 h1 (by omega) HM.out)
      have hC1 : C < wr.heap.size := by omega
      have H5 := Lib.hid (new5 HB.out)
      have HB0 := Lib.hid hb0
      rw [HZ.out] at HS
      clear hb0
      go_wp2_with (first
        | (go_at_call 20; refine HS.out.mono ?_; rintro e w2 ⟨rfl, rfl⟩; obtain ⟨d0, d1, d2, d3, d4, d5, d6⟩ := five_of H5.out)
        | (go_at_call 59; refine (fault_any8 _ _ _).mono ?_; rintro e w3 ⟨rfl, hb⟩; obtain ⟨e0, e1, e2, e3, e4, e5, e6⟩ := five_of ((hb.block w.heap.size (by omega)).trans H5.out); have HB3 := Lib.hid hb; clear hb))
      refine bodyPost_ret (v := stp8 5 0 z 2 0) (by simp [results, Try.results62, go_sem, e0, e1, e2, e3, e4, e6]) rfl ⟨rfl, ?_⟩
      repeat (first | (with_reducible exact HB0.out) | (with_reducible refine Bl.drew ?_) | (with_reducible refine Bl.alloc ?_ _) | ((with_reducible refine Bs (hg := ?hg) ?_ _ _); case hg => omega) | (with_reducible refine Bl.step ?_ HB3.out))
end Go.Proofs.Ytknepljmbpdpkaa
