/- Store. -/
import Derived.Test.YtknepljmbpdpkaaCpD
import Derived.Test.YtknepljmbpdpkaaPgA
namespace Go.Proofs.Ytknepljmbpdpkaa
open Go.RowKit

theorem mayT_fst {m : Mem8} {r : Int} : ∀ {n : Nat} {x : Int}, (mayT m r n x).2 = true → (mayT m r n x).1 = 0
  | 0, _, _ => rfl
  | n + 1, x, h => by
    unfold mayT at h ⊢
    by_cases hm : m.may x r = true
    · rw [if_pos hm] at h ⊢; exact mayT_fst h
    · rw [if_neg hm] at h; cases h
theorem storeM_has (m : Mem8) (x : Int) (l : List Int) (y : Int) : (storeM m x l).has y = m.has y := by unfold Mem8.has; rw [(storeM_np l m x).1]
theorem turned_keep {w w' : World} {B : Nat} (h : Turned w w' [B]) {b : Nat} (hb : b < w.heap.size) (ne : b ≠ B) (o : Nat) : w'.cell? ⟨b, o, none⟩ = w.cell? ⟨b, o, none⟩ := World.cell?_of_block (w := w) (h.block b hb (by simpa using ne))
/-- A list of bytes in memory. -/
def BytesIn8 (w : World) (B : Nat) (b o : Nat) (l : List Int) : Prop := b ≠ B ∧ b < w.heap.size ∧ (∀ j v, l[j]? = some v → w.cell? ⟨b, o + j, none⟩ = some (.int .u8 v)) ∧ ∀ v ∈ l, 0 ≤ v ∧ v < 256

theorem store_no8 {w : World} {F B : Nat} {ra : Option Addr} {rc bc : Nat} {m : Mem8} (h : FlatAt w F B ra rc bc m) (x : Int) (A : Option Addr) (n c : Nat) (h0 : 0 ≤ x) (h1 : x < 4294967296) (hn : n ≤ 65536) (hm : (mayT m 2 n x).2 = false) :
    Calls Try.prog 20 #[ifV F, .int .u32 x, .slice A n c] w fun e w' => e = .returned (.tuple #[.int .u32 (mayT m 2 n x).1, .bool false]) ∧ w = w' := by
  have HC := Lib.hid (may_any8 h x 2 n h0 h1 hn)
  rw [hm] at HC
  obtain ⟨y, hy⟩ : ∃ y, (mayT m 2 n x).1 = y := ⟨_, rfl⟩
  rw [hy] at HC ⊢
  clear h hm hy
  unfold ifV at *
  go_enter Try.func20, Try.ntmps20
  go_wp2_with (go_at_call 34; refine HC.out.mono ?_; rintro e w' ⟨rfl, rfl⟩)
  go_ret2
  exact ⟨rfl, rfl⟩
theorem store_nil8 {w : World} {F B : Nat} {ra : Option Addr} {rc bc : Nat} {m : Mem8} (h : FlatAt w F B ra rc bc m) (x : Int) (A : Option Addr) (c : Nat) (h0 : 0 ≤ x) (h1 : x < 4294967296) :
    Calls Try.prog 20 #[ifV F, .int .u32 x, .slice A 0 c] w fun e w' => e = .returned (.tuple #[.int .u32 0, .bool true]) ∧ w = w' := by
  have HC := Lib.hid (may_any8 h x 2 0 h0 h1 (by omega))
  rw [show mayT m 2 0 x = (0, true) from rfl] at HC
  clear h
  unfold ifV at *
  go_enter Try.func20, Try.ntmps20
  go_wp2_with (go_at_call 34; refine HC.out.mono ?_; rintro e w' ⟨rfl, rfl⟩)
  refine wp_loop_rounds 1 ?_
  rw [rounds_succ]
  go_wp2
  go_ret2
  exact ⟨rfl, rfl⟩
set_option maxHeartbeats 1000000 in
set_option maxRecDepth 100000 in
theorem store_yes8 {w : World} {F B : Nat} {ra : Option Addr} {rc bc : Nat} {m : Mem8} (h : FlatAt w F B ra rc bc m) (x : Int) (b o c : Nat) (l : List Int) (hl : BytesIn8 w B b o l) (h0 : 0 ≤ x) (h1 : x < 4294967296) (hn : l.length ≤ 65536) (hm : (mayT m 2 l.length x).2 = true) :
    Calls Try.prog 20 #[ifV F, .int .u32 x, .slice (some ⟨b, o, none⟩) l.length c] w fun e w' => e = .returned (.tuple #[.int .u32 0, .bool true]) ∧ FlatAt w' F B ra rc bc (storeM m x l) ∧ Turned w w' [B] ∧ w'.heap.size = w.heap.size := by
  have HC := Lib.hid (may_any8 h x 2 l.length h0 h1 hn)
  rw [hm, mayT_fst hm] at HC
  have H := Lib.hid h
  have HM := Lib.hid (mayT_all h0 h1 hm)
  have HL := Lib.hid hl
  have hmt := Try.mSet
  obtain ⟨n, hnn⟩ : ∃ n, l.length = n := ⟨_, rfl⟩
  rw [hnn] at HC hn HM ⊢
  have HN := Lib.hid hnn
  clear h hm hl hnn
  unfold ifV at *
  go_enter Try.func20, Try.ntmps20
  go_wp2_with (go_at_call 34; refine HC.out.mono ?_; rintro e w' ⟨rfl, rfl⟩)
  go_loopw [32] (fun i wr => ∃ k : Nat, k ≤ n ∧ i = .int .i64 k ∧ FlatAt wr F B ra rc bc (storeM m x (l.take k)) ∧ Turned w wr [B] ∧ wr.heap.size = w.heap.size) (fun i _ => n - (intOf i).toNat)
  case atStart => exact ⟨0, Nat.zero_le _, rfl, H.out, Turned.refl _ _, rfl⟩
  case round =>
    obtain ⟨k, hk, rfl, hfl, htr, hsz⟩ := hrel
    by_cases hlt : k < n
    · have hlt' : decide (k < n) = true := by simpa using hlt
      have hlt2 : (k : Int) < n := by omega
      have hk2 : (k : Int) ≤ 65536 := by omega
      have hkl : k < l.length := by rw [HN.out]; exact hlt
      obtain ⟨v, hv⟩ : ∃ v, l[k]? = some v := ⟨_, List.getElem?_eq_getElem hkl⟩
      have hvm : v ∈ l := List.mem_of_getElem? hv
      have hv01 := HL.out.2.2.2 v hvm
      have hbc : wr.cell? ⟨b, o + k, none⟩ = some (.int .u8 v) := (turned_keep htr HL.out.2.1 HL.out.1 _).trans (HL.out.2.2.1 k v hv)
      have hhas := may_has (HM.out k hlt)
      have hxn : m32 (x + (k : Int)) < (m.np : Int) * 256 := by unfold Mem8.has at hhas; simpa using hhas
      have HS := Lib.hid (set_any8 hfl (m32 (x + (k : Int))) v (m32_0 _) (m32_1 _) (by rw [storeM_has]; exact hhas))
      have HF := Lib.hid hfl
      have HT := Lib.hid htr
      have HZ := Lib.hid hsz
      have HK : Hid (storeM m x (l.take (k + 1)) = (storeM m x (l.take k)).set (m32 (x + (k : Int))) v) := by
        have e1 : l.take (k + 1) = l.take k ++ [v] := by rw [List.take_add_one, hv]; rfl
        rw [e1, storeM_snoc v _ m x h0 h1, List.length_take, Nat.min_eq_left (by omega)]
        exact rfl
      have H01 := Lib.hid hv01
      have HX := Lib.hid hxn
      clear hfl htr hsz hv hvm hhas hv01 hxn
      go_wp2_with (go_at_call 23; refine HS.out.mono ?_; rintro e w' ⟨rfl, rfl⟩)
      go_roundw
      case rel =>
        have h32 := m32_0 (x + (k : Int))
        have hb1 := HX.out
        obtain ⟨y, hy⟩ : ∃ y, m32 (x + (k : Int)) = y := ⟨_, rfl⟩
        refine ⟨k + 1, hlt, by go_num, ?_, ?_, ?_⟩
        · rw [HK.out]
          have hy' : (y.toNat : Int) = y := by omega
          have := HF.out.set (m32 (x + (k : Int))).toNat (by rw [(storeM_np _ m x).1, hy]; omega) v H01.out.1 H01.out.2
          rw [hy, hy'] at this
          rw [hy]
          exact this
        · exact HT.out.trans (Turned.of_set (by simp) _)
        · simpa [World.setCell] using HZ.out
      case measure => simp [intOf]; omega
    · obtain rfl : k = n := by omega
      have hlt' : decide (k < k) = false := by simp
      rw [List.take_of_length_le (by rw [HN.out]; omega)] at hfl
      have HF := Lib.hid hfl
      have HT := Lib.hid htr
      have HZ := Lib.hid hsz
      clear hfl htr hsz
      go_wp2_with fail
      go_ret2
      exact ⟨rfl, HF.out, HT.out, HZ.out⟩
end Go.Proofs.Ytknepljmbpdpkaa
