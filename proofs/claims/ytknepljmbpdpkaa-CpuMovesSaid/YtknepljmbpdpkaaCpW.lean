/- The law's Code: the bytes of instructions that may be. -/
import Derived.Test.YtknepljmbpdpkaaCpV
import Derived.OwnWalk
namespace Go.Proofs.Ytknepljmbpdpkaa
open Go.RowKit

def codeI (op d a b m : Int) : List Int := if mayB op d a b m then fourL (wordOf op d a b m) else []
def codeL (o d a b m : Nat → Int) : Nat → List Int
  | 0 => []
  | k + 1 => codeL o d a b m k ++ codeI (o k) (d k) (a k) (b k) (m k)
theorem codeI_len (op d a b m : Int) : (codeI op d a b m).length ≤ 4 := by unfold codeI; split <;> simp [fourL]
theorem codeL_len (o d a b m : Nat → Int) (k : Nat) : (codeL o d a b m k).length ≤ 4 * k := by
  induction k with
  | zero => simp [codeL]
  | succ k ih => have := codeI_len (o k) (d k) (a k) (b k) (m k); rw [codeL, List.length_append]; omega
theorem codeI_01 (op d a b m : Int) : ∀ v ∈ codeI op d a b m, 0 ≤ v ∧ v < 256 := by
  intro v hv
  unfold codeI at hv
  split at hv
  · simp [fourL] at hv; omega
  · cases hv
theorem codeL_01 (o d a b m : Nat → Int) (k : Nat) : ∀ v ∈ codeL o d a b m k, 0 ≤ v ∧ v < 256 := by
  induction k with
  | zero => intro v hv; cases hv
  | succ k ih =>
    intro v hv
    rw [codeL] at hv
    rcases List.mem_append.1 hv with h | h
    · exact ih v h
    · exact codeI_01 _ _ _ _ _ v h
def InsIn (w : World) (A : Option Addr) (n : Nat) (o d a b m : Nat → Int) : Prop := 0 < n → ∃ B off, A = some ⟨B, off, none⟩ ∧ B < w.heap.size ∧ InsAt w B off n o d a b m
theorem InsIn.below {w w' : World} {A : Option Addr} {n : Nat} {o d a b m : Nat → Int} (h : InsIn w A n o d a b m) (hb : Below w.heap.size w w') : InsIn w' A n o d a b m := fun hp => by
  obtain ⟨B, off, e, l, c⟩ := h hp
  refine ⟨B, off, e, Nat.lt_of_lt_of_le l hb.size, fun j hj => ?_⟩
  have hk : ∀ x, w'.cell? ⟨B, x, none⟩ = w.cell? ⟨B, x, none⟩ := fun x => hb.cell (p := ⟨B, x, none⟩) l
  obtain ⟨c0, c1, c2, c3, c4⟩ := c j hj
  exact ⟨(hk _).trans c0, (hk _).trans c1, (hk _).trans c2, (hk _).trans c3, (hk _).trans c4⟩

def ByOut (op d a b m : Int) (w : World) (e : Ending) (w' : World) : Prop :=
  ∃ v, e = .returned (.tuple #[v, .int .i64 (if mayB op d a b m then 0 else 2)]) ∧ w'.ownsRow w.heap.size 5 1 v (codeI op d a b m).length ((codeI op d a b m).map (Value.int .u8)) ∧ Below w.heap.size w w'
theorem bytes_one {w : World} {g : Nat} {op d a b m : Int} {t : TypeId} (h : w.heap[g]? = some (.cells #[.int .i64 op, .int .i64 d, .int .i64 a, .int .i64 b, .int .i64 m] t (0, 0))) :
    Calls Try.prog 31 #[.slice (some ⟨g, 0, none⟩) 1 1] w (ByOut op d a b m w) := by
  obtain ⟨c0, c1, c2, c3, c4, -, c6⟩ := five_of h
  have hI : InsAt w g 0 1 (fun _ => op) (fun _ => d) (fun _ => a) (fun _ => b) (fun _ => m) := fun j hj => by
    obtain rfl : j = 0 := by omega
    exact ⟨c0, c1, c2, c3, c4⟩
  cases hm : mayB op d a b m with
  | true =>
    refine (bytes_all g 0 1 1 (fun _ => op) (fun _ => d) (fun _ => a) (fun _ => b) (fun _ => m) w (by omega) c6 hI (fun _ _ => hm)).mono ?_
    rintro e w' ⟨v, he, ho, hb⟩
    refine ⟨v, by rw [he, hm]; rfl, ?_, hb⟩
    unfold codeI
    rw [hm, if_pos rfl]
    simpa [wordsL, fourL] using ho
  | false =>
    refine (bytes_no g 0 1 1 0 (fun _ => op) (fun _ => d) (fun _ => a) (fun _ => b) (fun _ => m) w (by omega) c6 hI (by omega) (fun j hj => by omega) hm).mono ?_
    rintro e w' ⟨he, hb⟩
    refine ⟨_, by rw [he, hm]; rfl, ?_, hb⟩
    unfold codeI
    rw [hm, if_neg (by simp)]
    exact World.ownsRow_nil ..

def CodeOut (l : List Int) (w : World) (e : Ending) (w' : World) : Prop := ∃ v, e = .returned v ∧ w'.ownsRow w.heap.size 5 1 v l.length (l.map (Value.int .u8)) ∧ Below w.heap.size w w'
set_option maxHeartbeats 1000000 in
set_option maxRecDepth 100000 in
theorem code_any {w : World} {A : Option Addr} {n : Nat} {o d a b m : Nat → Int} (h : InsIn w A n o d a b m) (c : Nat) (hn : n ≤ 200) :
    Calls Try.prog 16 #[.slice A n c] w (CodeOut (codeL o d a b m n) w) := by
  obtain ⟨i0, hi, hz0, hz1, hz2⟩ := info_parts Try.infoU8
  have H := Lib.hid h
  clear h
  go_enter Try.func16, Try.ntmps16
  go_wp2
  go_loopw [3, 4] (fun v i wr => ∃ k : Nat, k ≤ n ∧ i = .int .i64 k ∧ wr.ownsRow w.heap.size 5 1 v (codeL o d a b m k).length ((codeL o d a b m k).map (Value.int .u8)) ∧ Below w.heap.size w wr) (fun _ i _ => n - (intOf i).toNat)
  case atStart => exact ⟨0, Nat.zero_le _, rfl, World.ownsRow_nil .., Below.refl _ _⟩
  case round =>
    obtain ⟨k, hk, rfl, hown, hbl⟩ := hrel
    have HO := Lib.hid hown
    have HB := Lib.hid hbl
    have hcl := codeL_len o d a b m k
    have hz := hbl.size
    by_cases hlt : k < n
    · have hlt' : decide (k < n) = true := by simpa using hlt
      have hlt2 : (k : Int) < n := by omega
      obtain ⟨B, off, rfl, hBs, hc⟩ := H.out.below hbl (by omega)
      obtain ⟨c0, c1, c2, c3, c4⟩ := hc k hlt
      have HBY := fun (t : TypeId) => Lib.hid (bytes_one (heap_alloc_new wr (.cells #[.int .i64 (o k), .int .i64 (d k), .int .i64 (a k), .int .i64 (b k), .int .i64 (m k)] t)))
      clear hc hown hbl
      cases hm : mayB (o k) (d k) (a k) (b k) (m k) with
      | true =>
        have HC : Hid (codeI (o k) (d k) (a k) (b k) (m k) = fourL (wordOf (o k) (d k) (a k) (b k) (m k))) := Lib.hid (by unfold codeI; rw [hm]; rfl)
        have HM := Lib.hid hm
        clear hm
        go_wp2_with (first
          | (go_at_call 31; refine (HBY _).out.mono ?_; rintro e w1 ⟨v1, rfl, h1, hb1⟩; rw [HM.out, if_pos rfl]; rw [HC.out] at h1; obtain ⟨g1, k1, rfl, hg1, hg2⟩ := h1.form (by simp [fourL]); have H1 := Lib.hid h1; have HB1 := Lib.hid hb1; have hzw : wr.heap.size ≤ w1.heap.size := (by have q := hb1.size; simp at q; omega); have HO1 := Lib.hid (own_below (HO.out.alloc _) hb1); clear h1 hb1)
          | (at_builtin; refine wpList_append_own _ rfl _ _ 23 rfl w.heap.size 5 i0 (.int .u8 0) 1 1 Try.underlying23 hi hz0 hz1 hz2 rfl (by decide) _ _ _ rfl HO1.out ⟨g1, 0, none⟩ _ k1 ((fourL (wordOf (o k) (d k) (a k) (b k) (m k))).map (Value.int .u8)) rfl (by simp [fourL]) (H1.out.cells rfl) (by intro v hv; obtain ⟨y, -, rfl⟩ := List.mem_map.1 hv; rfl) (by unfold maxLen; simp [fourL]; omega) (by first | omega | (simp [fourL]; done) | (simp [fourL]; omega)) (by first | omega | (simp [fourL]; done) | (simp [fourL]; omega)) ?_; intro v2 w2 h2 hgrow2 _))
        go_roundw
        case rel =>
          refine ⟨k + 1, hlt, by go_num, ?_, ?_⟩
          · rw [codeL, HC.out, List.map_append, List.length_append]
            exact h2
          · exact ((Bl.alloc HB.out _).trans (HB1.out.mono (by simp; omega))).grown hgrow2 (by have := HB.out.size; omega) (fun k e => (HO1.out.lt k e).1)
        case measure => simp [intOf]; omega
      | false =>
        have HC : Hid (codeI (o k) (d k) (a k) (b k) (m k) = []) := Lib.hid (by unfold codeI; rw [hm]; rfl)
        have HM := Lib.hid hm
        clear hm
        go_wp2_with (go_at_call 31; refine (HBY _).out.mono ?_; rintro e w1 ⟨v1, rfl, h1, hb1⟩; rw [HM.out, if_neg (by simp)]; have HB1 := Lib.hid hb1; have hzw : wr.heap.size ≤ w1.heap.size := (by have q := hb1.size; simp at q; omega); have HO1 := Lib.hid (own_below (HO.out.alloc _) hb1); clear h1 hb1)
        go_roundw
        case rel =>
          refine ⟨k + 1, hlt, by go_num, ?_, (Bl.alloc HB.out _).trans (HB1.out.mono (by simp; omega))⟩
          rw [codeL, HC.out, List.append_nil]
          exact HO1.out
        case measure => simp [intOf]; omega
    · obtain rfl : k = n := by omega
      have hlt' : decide (k < k) = false := by simp
      clear hown hbl
      go_wp2
      go_ret
      exact ⟨_, rfl, HO.out, HB.out⟩
end Go.Proofs.Ytknepljmbpdpkaa
