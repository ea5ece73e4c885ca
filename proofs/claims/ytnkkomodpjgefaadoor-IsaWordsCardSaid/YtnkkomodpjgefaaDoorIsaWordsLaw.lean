/- The walk of IsaWords. -/
import Derived.Test.YtnkkomodpjgefaaDoorIsaOfLaw
namespace Go.Proofs.YtnkkomodpjgefaaDoor
open Go.RowKit Go.Sort

/-! ### Instructions in a row -/
def fiveV (o d a b m : Nat → Int) (k : Nat) : List Value := [.int .i64 (o k), .int .i64 (d k), .int .i64 (a k), .int .i64 (b k), .int .i64 (m k)]
def insL (o d a b m : Nat → Int) : Nat → List Value
  | 0 => []
  | k + 1 => insL o d a b m k ++ fiveV o d a b m k
theorem insL_len (o d a b m : Nat → Int) (k : Nat) : (insL o d a b m k).length = k * 5 := by
  induction k with
  | zero => rfl
  | succ k ih => rw [insL, List.length_append, ih]; simp [fiveV]; omega
theorem insL_at (o d a b m : Nat → Int) : ∀ (n k q : Nat), k < n → q < 5 → (insL o d a b m n)[k * 5 + q]? = (fiveV o d a b m k)[q]?
  | 0, _, _, h, _ => by omega
  | n + 1, k, q, h, hq => by
    have hl := insL_len o d a b m n
    rw [insL]
    rcases Nat.lt_or_ge k n with hk | hk
    · rw [List.getElem?_append_left (by omega)]; exact insL_at o d a b m n k q hk hq
    · obtain rfl : k = n := by omega
      rw [List.getElem?_append_right (by omega), hl, Nat.add_sub_cancel_left]
theorem insL_one (o d a b m : Nat → Int) : ∀ (n : Nat), ∀ u ∈ insL o d a b m n, u.oneCell' = true
  | 0, u, h => by cases h
  | n + 1, u, h => by
    rw [insL] at h
    rcases List.mem_append.1 h with h | h
    · exact insL_one o d a b m n u h
    · simp [fiveV] at h; rcases h with rfl | rfl | rfl | rfl | rfl <;> rfl
/-- A row of instructions that came in, nil or not. -/
def InsOf (w : World) (A : Option Addr) (n : Nat) (o d a b m : Nat → Int) : Prop := ∀ ad, A = some ad → ∀ j u, (insL o d a b m n)[j]? = some u → w.cell? (ad.add j) = some u
theorem InsOf.below {w w' : World} {A : Option Addr} {n : Nat} {o d a b m : Nat → Int} (h : InsOf w A n o d a b m) (hb : Below w.heap.size w w') : InsOf w' A n o d a b m := fun ad e j x hx => by
  have h1 := h ad e j x hx
  rw [hb.cell (World.block_lt_of_cell? w _ h1)]; exact h1
theorem plain_add (B off i : Nat) : (⟨B, off, none⟩ : Addr).add i = ⟨B, off + i, none⟩ := by
  unfold Addr.add; split
  · rename_i e; subst e; rfl
  · rfl
theorem InsAt.of_cells {w : World} {B off n : Nat} {o d a b m : Nat → Int} (h : ∀ j u, (insL o d a b m n)[j]? = some u → w.cell? ((⟨B, off, none⟩ : Addr).add j) = some u) : InsAt w B off n o d a b m := fun j hj => by
  have k := fun q hq v (e : (fiveV o d a b m j)[q]? = some v) => h (j * 5 + q) v ((insL_at o d a b m n j q hj hq).trans e)
  simp only [plain_add] at k
  refine ⟨k 0 (by omega) _ rfl, ?_, ?_, ?_, ?_⟩
  · have := k 1 (by omega) _ rfl; rwa [← Nat.add_assoc] at this
  · have := k 2 (by omega) _ rfl; rwa [← Nat.add_assoc] at this
  · have := k 3 (by omega) _ rfl; rwa [← Nat.add_assoc] at this
  · have := k 4 (by omega) _ rfl; rwa [← Nat.add_assoc] at this
theorem InsOf.plain {w : World} {A : Option Addr} {n : Nat} {o d a b m : Nat → Int} (h : InsOf w A n o d a b m) (hA : A ≠ none) (hn : 0 < n) : ∃ B off, A = some ⟨B, off, none⟩ ∧ InsAt w B off n o d a b m := by
  obtain ⟨ad, rfl⟩ := Option.ne_none_iff_exists'.1 hA
  have h0 := h ad rfl (0 * 5 + 0) (.int .i64 (o 0)) ((insL_at o d a b m n 0 0 hn (by omega)).trans rfl)
  obtain ⟨B, off, rfl⟩ := spot_none (show w.cell? ad = _ from h0)
  exact ⟨B, off, rfl, InsAt.of_cells (h _ rfl)⟩
theorem InsAt.of_own {w : World} {base g cap n N : Nat} {o d a b m : Nat → Int} {xs : List Value} (h : w.ownsRow base 26 5 (.slice (some ⟨g, 0, none⟩) N cap) N (insL o d a b m n ++ xs)) : InsAt w g 0 n o d a b m :=
  InsAt.of_cells fun j u hu => h.cells (g := g) rfl j u (by
    rw [List.getElem?_append_left (by rcases Nat.lt_or_ge j (insL o d a b m n).length with h | h; exact h; rw [List.getElem?_eq_none h] at hu; cases hu)]; exact hu)
theorem InsAt.last {w : World} {base g cap n N : Nat} {o d a b m : Nat → Int} {x : Value} {xs : List Value} (h : w.ownsRow base 26 5 (.slice (some ⟨g, 0, none⟩) N cap) N (insL o d a b m n ++ x :: xs)) : w.cell? ⟨g, n * 5, none⟩ = some x := by
  have := h.cells (g := g) rfl (n * 5) x (by rw [List.getElem?_append_right (by rw [insL_len]; omega), insL_len]; simp)
  rw [plain_add, Nat.zero_add] at this; exact this
theorem InsAt.below {w w' : World} {B off n : Nat} {o d a b m : Nat → Int} (h : InsAt w B off n o d a b m) {N : Nat} (hb : Below N w w') (hB : B < N) : InsAt w' B off n o d a b m := fun j hj => by
  have hc := fun o => hb.cell (p := ⟨B, o, none⟩) hB
  simp only [hc]; exact h j hj

theorem cells_five_new (w : World) (x0 x1 x2 x3 x4 : Value) (t : TypeId) : ∀ j u, [x0, x1, x2, x3, x4][j]? = some u → (w.alloc (.cells #[x0, x1, x2, x3, x4] t)).cell? ((⟨w.heap.size, 0, none⟩ : Addr).add j) = some u := by
  intro j u hu
  rw [plain_add, Nat.zero_add]
  have hj : j < 5 := by
    rcases Nat.lt_or_ge j 5 with h | h
    · exact h
    · rw [List.getElem?_eq_none (by simpa using h)] at hu; cases hu
  have : j = 0 ∨ j = 1 ∨ j = 2 ∨ j = 3 ∨ j = 4 := by omega
  rcases this with rfl | rfl | rfl | rfl | rfl <;> simpa using hu
theorem cells_four_new (w : World) (x0 x1 x2 x3 : Value) (t : TypeId) : ∀ j u, [x0, x1, x2, x3][j]? = some u → (w.alloc (.cells #[x0, x1, x2, x3] t)).cell? ((⟨w.heap.size, 0, none⟩ : Addr).add j) = some u := by
  intro j u hu
  rw [plain_add, Nat.zero_add]
  have hj : j < 4 := by
    rcases Nat.lt_or_ge j 4 with h | h
    · exact h
    · rw [List.getElem?_eq_none (by simpa using h)] at hu; cases hu
  have : j = 0 ∨ j = 1 ∨ j = 2 ∨ j = 3 := by omega
  rcases this with rfl | rfl | rfl | rfl <;> simpa using hu

/-- May the first k be? -/
def allM (o d a b m : Nat → Int) : Nat → Bool
  | 0 => true
  | k + 1 => allM o d a b m k && mayB (o k) (d k) (a k) (b k) (m k)
theorem allM_succ (o d a b m : Nat → Int) (k : Nat) : allM o d a b m (k + 1) = (allM o d a b m k && mayB (o k) (d k) (a k) (b k) (m k)) := rfl
theorem allM_all {o d a b m : Nat → Int} : ∀ {n : Nat}, allM o d a b m n = true → ∀ j, j < n → mayB (o j) (d j) (a j) (b j) (m j) = true
  | 0, _, j, hj => by omega
  | n + 1, h, j, hj => by
    unfold allM at h
    rw [Bool.and_eq_true] at h
    rcases Nat.lt_or_ge j n with hl | hl
    · exact allM_all h.1 j hl
    · obtain rfl : j = n := by omega
      exact h.2
theorem allM_not {o d a b m : Nat → Int} : ∀ {n : Nat}, allM o d a b m n = false → ∃ q, q < n ∧ (∀ j, j < q → mayB (o j) (d j) (a j) (b j) (m j) = true) ∧ mayB (o q) (d q) (a q) (b q) (m q) = false
  | 0, h => by cases h
  | n + 1, h => by
    cases hp : allM o d a b m n
    · obtain ⟨q, hq, h1, h2⟩ := allM_not hp
      exact ⟨q, by omega, h1, h2⟩
    · unfold allM at h
      rw [hp, Bool.true_and] at h
      exact ⟨n, by omega, allM_all hp, h⟩

set_option maxHeartbeats 400000 in
set_option maxRecDepth 100000 in
theorem rfour_any (v : Int) (w : World) (h0 : 0 ≤ v) (h1 : v < 4294967296) :
    Calls Tryd.prog 14 #[.int .u32 v] w fun e w' => e = .returned (.slice (some ⟨w.heap.size, 0, none⟩) 4 4) ∧ w.alloc (.cells #[.int .u8 (v % 256), .int .u8 (v / 256 % 256), .int .u8 (v / 65536 % 256), .int .u8 (v / 16777216 % 256)] 5) = w' := by
  have e3 : v / 16777216 % 256 = v / 16777216 := by omega
  have HE := Lib.hid e3
  clear e3
  go_enter Tryd.func14, Tryd.ntmps14
  go_wp2
  go_ret
  exact ⟨rfl, by rw [HE.out]⟩

theorem ten_below {N B g x y : Nat} {W w1 : World} {v0 v1 v2 v3 v4 u0 u1 u2 u3 u4 : Value} (hb : Below N W w1) (hB : B < N) (hg : g < N) (h : W.cell? ⟨B, x, none⟩ = some v0 ∧ W.cell? ⟨B, x + 1, none⟩ = some v1 ∧ W.cell? ⟨B, x + 2, none⟩ = some v2 ∧ W.cell? ⟨B, x + 3, none⟩ = some v3 ∧ W.cell? ⟨B, x + 4, none⟩ = some v4 ∧ W.cell? ⟨g, y, none⟩ = some u0 ∧ W.cell? ⟨g, y + 1, none⟩ = some u1 ∧ W.cell? ⟨g, y + 2, none⟩ = some u2 ∧ W.cell? ⟨g, y + 3, none⟩ = some u3 ∧ W.cell? ⟨g, y + 4, none⟩ = some u4) : w1.cell? ⟨B, x, none⟩ = some v0 ∧ w1.cell? ⟨B, x + 1, none⟩ = some v1 ∧ w1.cell? ⟨B, x + 2, none⟩ = some v2 ∧ w1.cell? ⟨B, x + 3, none⟩ = some v3 ∧ w1.cell? ⟨B, x + 4, none⟩ = some v4 ∧ w1.cell? ⟨g, y, none⟩ = some u0 ∧ w1.cell? ⟨g, y + 1, none⟩ = some u1 ∧ w1.cell? ⟨g, y + 2, none⟩ = some u2 ∧ w1.cell? ⟨g, y + 3, none⟩ = some u3 ∧ w1.cell? ⟨g, y + 4, none⟩ = some u4 := by
  have c1 := fun o => hb.cell (p := ⟨B, o, none⟩) hB
  have c2 := fun o => hb.cell (p := ⟨g, o, none⟩) hg
  simp only [c1, c2]; exact h

theorem Tryd.infoIns : (Tryd.prog.info? 26).map (fun i => (i.zero, i.size, i.bytes)) = some (some (.agg #[.int .i64 0, .int .i64 0, .int .i64 0, .int .i64 0, .int .i64 0]), 5, 40) := by kernel_rfl

set_option maxHeartbeats 3200000 in
set_option maxRecDepth 100000 in
theorem words_y (A : Option Addr) (n c : Nat) (o d a b m : Nat → Int) (w : World) (he : Env w) (hn : n ≤ 200) (hA : A = none → n = 0 ∧ c = 0) (hI : InsOf w A n o d a b m) (hm : allM o d a b m n = true) :
    Calls Tryd.prog 3 #[.slice A n c] w fun e w' => e = .returned (.bool true) ∧ Below w.heap.size w w' := by
  have hn' : (n : Int) ≤ 200 := by omega
  have HE := Lib.hid he
  have HA := Lib.hid hA
  have HI := Lib.hid hI
  have HM := Lib.hid hm
  have hne := neq_ins
  have hself := insEq_self
  obtain ⟨i0, hi, hz0, hz1, hz2⟩ := info_parts Tryd.infoIns
  obtain ⟨i1, hi1, y0, y1, y2⟩ := info_parts Tryd.infoU8
  clear he hA hI hm
  have tok1 : True := trivial
  go_enter Tryd.func3, Tryd.ntmps3
  go_wp2_with (first
    | (at_builtin; have tik := tok1; clear tik tok1
       go_loud (refine app_opt rfl _ _ 22 rfl w.heap.size 26 i0 (.agg #[.int .i64 0, .int .i64 0, .int .i64 0, .int .i64 0, .int .i64 0]) 5 40 Tryd.underlying22 hi hz0 hz1 hz2 rfl (by decide) (.slice none 0 0) 0 [] rfl (World.ownsRow_nil ..) A n c (insL o d a b m n) rfl HA.out (insL_len ..) HI.out (insL_one o d a b m n) (by unfold maxLen; omega) (by omega) (Nat.le_refl _) ?_)
       intro v3 w3 h3 g3
       have hb3 : Below w.heap.size w w3 := (Below.refl _ _).grown g3 (Nat.le_refl _) (by simp [Value.ownBlock])
       have hs3 := hb3.size)
    | (at_builtin
       refine wpList_append_own _ rfl _ _ 22 rfl w.heap.size 26 i0 (.agg #[.int .i64 0, .int .i64 0, .int .i64 0, .int .i64 0, .int .i64 0]) 5 40 Tryd.underlying22 hi hz0 hz1 hz2 rfl (by decide) v3 (0 + n) _ rfl (h3.alloc _) ⟨w3.heap.size, 0, none⟩ 1 1 [.int .i64 77, .int .i64 0, .int .i64 0, .int .i64 0, .int .i64 0] rfl rfl (cells_five_new _ _ _ _ _ _ _) (by simp [Value.oneCell']) (by unfold maxLen; omega) (by omega) (by simp; omega) ?_
       intro v4 w4 h4 g4 _
       have hb4 : Below w.heap.size w w4 := (Bl.alloc hb3 (.cells #[.int .i64 77, .int .i64 0, .int .i64 0, .int .i64 0, .int .i64 0] 26)).grown g4 (by simp; omega) (fun k e => ((h3.alloc (.cells #[.int .i64 77, .int .i64 0, .int .i64 0, .int .i64 0, .int .i64 0] 26)).lt k e).1)
       have k4 := own_cast (n' := n + 1) (xs' := insL o d a b m n ++ [.int .i64 77, .int .i64 0, .int .i64 0, .int .i64 0, .int .i64 0]) h4 (by omega) (by simp)
       obtain ⟨g, cap, rfl, hgb, hgs, hcap, hcm⟩ := own_slice k4 (by omega)
       have hcap' : ((n : Int) + 1) ≤ (cap : Int) := by omega
       have HG := Lib.hid (InsAt.of_own k4)
       have HL := Lib.hid (InsAt.last k4)
       clear h3 h4 g3 g4 k4)
    | (go_at_call 9; refine (bytes_all g 0 n cap o d a b m _ hn hgs HG.out (allM_all HM.out)).mono ?_; rintro e w5 ⟨v5, rfl, h5, hb5⟩))
  have HB5 := Bl.step hb4 hb5
  have H5 := Lib.hid h5
  have G5 := Lib.hid (HG.out.below hb5 hgs)
  have L5 : Hid (w5.cell? ⟨g, n * 5, none⟩ = some (.int .i64 77)) := Lib.hid (by rw [hb5.cell (p := ⟨g, n * 5, none⟩) hgs]; exact HL.out)
  have hgs5 : g < w5.heap.size := by have := hb5.size; omega
  clear h5 HG HL hs3
  go_loopw [6, 7, 8] (fun want mv i wr => ∃ (k : Nat) (M : List Int), k ≤ n ∧ i = .int .i64 k ∧ mv = .bool (allM o d a b m k) ∧ wr.ownsRow w5.heap.size 5 1 want M.length (M.map (Value.int .u8)) ∧ M.length ≤ 4 * k ∧ (allM o d a b m k = true → M = wordsL (fun j => wordOf (o j) (d j) (a j) (b j) (m j)) k) ∧ Below w5.heap.size w5 wr)
    (fun _ _ i _ => n - (intOf i).toNat)
  case atStart => exact ⟨0, [], Nat.zero_le _, rfl, rfl, World.ownsRow_nil .., Nat.zero_le _, fun _ => rfl, Below.refl _ _⟩
  case round =>
    obtain ⟨k, M, hk, rfl, rfl, hown, hMl, hMw, hbw⟩ := hrel
    have hbW := Bl.step HB5 hbw
    have HMW := Lib.hid hMw
    clear hMw
    by_cases hlt : k < n
    · have hmk : mayB (o k) (d k) (a k) (b k) (m k) = true := allM_all HM.out k hlt
      have HH := Lib.hid hmk
      have MV : allM o d a b m (k + 1) = allM o d a b m k := by rw [allM_succ, hmk, Bool.and_true]
      have HMV := Lib.hid MV
      clear MV hmk
      obtain ⟨B, off, hAe, hIn⟩ := HI.out.plain (fun e => by have := HA.out e; omega) (by omega)
      subst hAe
      have hBs : B < w.heap.size := World.block_lt_of_cell? w _ (hIn k hlt).1
      have hBr : B < wr.heap.size := by have := hbW.size; omega
      have hgr : g < wr.heap.size := by have := hbw.size; omega
      obtain ⟨j0, j1, j2, j3, j4⟩ := (hIn.below hbW hBs) k hlt
      obtain ⟨q0, q1, q2, q3, q4⟩ := (G5.out.below hbw hgs5) k hlt
      simp only [Nat.zero_add] at q0 q1 q2 q3 q4
      have TEN := Lib.hid (ten_below (Below.refl _ _) hBr hgr ⟨j0, j1, j2, j3, j4, q0, q1, q2, q3, q4⟩)
      have hlt' : (k : Int) < (n : Int) := by omega
      have hk0 : (0 : Int) ≤ (k : Int) := by omega
      have hcn : (k : Int) < (n : Int) + 1 := by omega
      clear hIn
      go_wp2_with (go_at_call 10; refine (word_yes _ _ _ _ _ _ HH.out).mono ?_; rintro e w6 ⟨rfl, hb6⟩; obtain ⟨a0, a1, a2, a3, a4, e0, e1, e2, e3, e4⟩ := ten_below hb6 hBr hgr TEN.out; have hB6 : B < w6.heap.size := (by have := hb6.size; omega); have hg6 : g < w6.heap.size := by have := hb6.size; omega)
      clear j0 j1 j2 j3 j4 q0 q1 q2 q3 q4
      go_region_held3 (fun W => W.cell? ⟨B, off + k * 5, none⟩ = some (.int .i64 (o k)) ∧ W.cell? ⟨B, off + k * 5 + 1, none⟩ = some (.int .i64 (d k)) ∧ W.cell? ⟨B, off + k * 5 + 2, none⟩ = some (.int .i64 (a k)) ∧ W.cell? ⟨B, off + k * 5 + 3, none⟩ = some (.int .i64 (b k)) ∧ W.cell? ⟨B, off + k * 5 + 4, none⟩ = some (.int .i64 (m k)) ∧ W.cell? ⟨g, k * 5, none⟩ = some (.int .i64 (o k)) ∧ W.cell? ⟨g, k * 5 + 1, none⟩ = some (.int .i64 (d k)) ∧ W.cell? ⟨g, k * 5 + 2, none⟩ = some (.int .i64 (a k)) ∧ W.cell? ⟨g, k * 5 + 3, none⟩ = some (.int .i64 (b k)) ∧ W.cell? ⟨g, k * 5 + 4, none⟩ = some (.int .i64 (m k)))
        (first | go_keep | (exact ten_below hb7 (by first | assumption | (simp; omega)) (by first | assumption | (simp; omega)) (by assumption)))
        (first | (go_at_call 11; refine (num_any _ _).mono ?_; rintro e w' ⟨rfl, rfl⟩) | (go_at_call 12; refine (rmay_is HH.out _).mono ?_; rintro e w7 ⟨rfl, hb7⟩))
      obtain ⟨a0, a1, a2, a3, a4, e0, e1, e2, e3, e4⟩ := by assumption
      have hB7 := Bl.step (Bl.drew hb6) hb7
      have hs7 := hB7.size
      have hB7' : B < w7.heap.size := by omega
      have hg7 : g < w7.heap.size := by omega
      have TEN7 := Lib.hid (ten_below (Below.refl _ _) hB7' hg7 ⟨a0, a1, a2, a3, a4, e0, e1, e2, e3, e4⟩)
      have HR := word_range HH.out
      generalize hx : wordOf (o k) (d k) (a k) (b k) (m k) = x at *
      obtain ⟨hr0, hr1⟩ := HR
      have HX := Lib.hid hx
      clear hx e0 e1 e2 e3 e4
      go_wp2_with (first
        | (go_at_call 12; refine (rmay_is HH.out _).mono ?_; rintro e w8 ⟨rfl, hb8⟩
           have hB8 := Bl.step hB7 hb8
           have hs8 := hB8.size
           obtain ⟨c0, c1, c2, c3, c4, -, -, -, -, -⟩ := ten_below hb8 hB7' hg7 TEN7.out)
        | (go_at_call 13; refine (rword_yes _ _ _ _ _ _ HH.out).mono ?_; rw [HX.out]; rintro e w9 ⟨rfl, hb9⟩
           have hB9 := Bl.step hB8 hb9
           have hs9 := hB9.size)
        | (go_at_call 14; refine (rfour_any _ _ hr0 hr1).mono ?_; rintro e w10 ⟨rfl, rfl⟩)
        | (at_builtin
           refine wpList_append_own _ rfl _ _ 27 rfl w5.heap.size 5 i1 (.int .u8 0) 1 1 Tryd.underlying27 hi1 y0 y1 y2 rfl (by decide) u6 M.length _ rfl ((own_below hown hB9).alloc _) ⟨w9.heap.size, 0, none⟩ 4 4 [.int .u8 (x % 256), .int .u8 (x / 256 % 256), .int .u8 (x / 65536 % 256), .int .u8 (x / 16777216 % 256)] rfl rfl (cells_four_new _ _ _ _ _ _) (by simp [Value.oneCell']) (by unfold maxLen; omega) (by omega) (by have := hbw.size; simp; omega) ?_
           intro v11 w11 h11 g11 _))
      refine ⟨⟨k + 1, M ++ [x % 256, x / 256 % 256, x / 65536 % 256, x / 16777216 % 256], by omega, by go_num, by rw [HMV.out], own_cast h11 (by simp) (by simp), by simp; omega, fun hall => ?_, (Bl.alloc (Bl.step hbw hB9) _).grown g11 (by have := hbw.size; simp; omega) (fun q e => (((own_below hown hB9).alloc (.cells #[.int .u8 (x % 256), .int .u8 (x / 256 % 256), .int .u8 (x / 65536 % 256), .int .u8 (x / 16777216 % 256)] 5)).lt q e).1)⟩, by simp [intOf]; omega⟩
      rw [HMW.out (by rw [allM_succ, Bool.and_eq_true] at hall; exact hall.1)]
      simp [wordsL, fourL, HX.out]
    · obtain rfl : k = n := by omega
      have hMe := HMW.out HM.out
      subst hMe
      have hq : wr.cell? ⟨g, k * 5, none⟩ = some (.int .i64 77) := by rw [hbw.cell (p := ⟨g, k * 5, none⟩) hgs5]; exact L5.out
      have hk0 : (0 : Int) ≤ (k : Int) := by omega
      have hcn : (k : Int) < (k : Int) + 1 := by omega
      have hmv := HM.out
      have s1 := own_string (own_below H5.out hbw) (wordsL_length _ k)
      have s2 := own_string hown rfl
      go_wp2_with (first
        | (go_at_call 11; refine (num_any _ _).mono ?_; rintro e w6 ⟨rfl, rfl⟩)
        | (go_at_call 8; refine (known_yes _ (Env.of' hbW HE.out)).mono ?_; rintro e w7 ⟨rfl, hb7⟩))
      go_ret
      exact ⟨rfl, Bl.step hbW hb7⟩

set_option maxHeartbeats 3200000 in
set_option maxRecDepth 100000 in
theorem words_n (A : Option Addr) (n c : Nat) (o d a b m : Nat → Int) (w : World) (he : Env w) (hn : n ≤ 200) (hA : A = none → n = 0 ∧ c = 0) (hI : InsOf w A n o d a b m) (hm : allM o d a b m n = false) :
    Calls Tryd.prog 3 #[.slice A n c] w fun e w' => e = .returned (.bool true) ∧ Below w.heap.size w w' := by
  have hn' : (n : Int) ≤ 200 := by omega
  have HE := Lib.hid he
  have HA := Lib.hid hA
  have HI := Lib.hid hI
  have HM := Lib.hid hm
  obtain ⟨q, hqn, hqa, hqb⟩ := allM_not hm
  have HQ := Lib.hid (And.intro hqa hqb)
  clear hqa hqb
  have hne := neq_ins
  have hself := insEq_self
  obtain ⟨i0, hi, hz0, hz1, hz2⟩ := info_parts Tryd.infoIns
  obtain ⟨i1, hi1, y0, y1, y2⟩ := info_parts Tryd.infoU8
  clear he hA hI hm
  have tok1 : True := trivial
  go_enter Tryd.func3, Tryd.ntmps3
  go_wp2_with (first
    | (at_builtin; have tik := tok1; clear tik tok1
       go_loud (refine app_opt rfl _ _ 22 rfl w.heap.size 26 i0 (.agg #[.int .i64 0, .int .i64 0, .int .i64 0, .int .i64 0, .int .i64 0]) 5 40 Tryd.underlying22 hi hz0 hz1 hz2 rfl (by decide) (.slice none 0 0) 0 [] rfl (World.ownsRow_nil ..) A n c (insL o d a b m n) rfl HA.out (insL_len ..) HI.out (insL_one o d a b m n) (by unfold maxLen; omega) (by omega) (Nat.le_refl _) ?_)
       intro v3 w3 h3 g3
       have hb3 : Below w.heap.size w w3 := (Below.refl _ _).grown g3 (Nat.le_refl _) (by simp [Value.ownBlock])
       have hs3 := hb3.size)
    | (at_builtin
       refine wpList_append_own _ rfl _ _ 22 rfl w.heap.size 26 i0 (.agg #[.int .i64 0, .int .i64 0, .int .i64 0, .int .i64 0, .int .i64 0]) 5 40 Tryd.underlying22 hi hz0 hz1 hz2 rfl (by decide) v3 (0 + n) _ rfl (h3.alloc _) ⟨w3.heap.size, 0, none⟩ 1 1 [.int .i64 77, .int .i64 0, .int .i64 0, .int .i64 0, .int .i64 0] rfl rfl (cells_five_new _ _ _ _ _ _ _) (by simp [Value.oneCell']) (by unfold maxLen; omega) (by omega) (by simp; omega) ?_
       intro v4 w4 h4 g4 _
       have hb4 : Below w.heap.size w w4 := (Bl.alloc hb3 (.cells #[.int .i64 77, .int .i64 0, .int .i64 0, .int .i64 0, .int .i64 0] 26)).grown g4 (by simp; omega) (fun k e => ((h3.alloc (.cells #[.int .i64 77, .int .i64 0, .int .i64 0, .int .i64 0, .int .i64 0] 26)).lt k e).1)
       have k4 := own_cast (n' := n + 1) (xs' := insL o d a b m n ++ [.int .i64 77, .int .i64 0, .int .i64 0, .int .i64 0, .int .i64 0]) h4 (by omega) (by simp)
       obtain ⟨g, cap, rfl, hgb, hgs, hcap, hcm⟩ := own_slice k4 (by omega)
       have hcap' : ((n : Int) + 1) ≤ (cap : Int) := by omega
       have HG := Lib.hid (InsAt.of_own k4)
       have HL := Lib.hid (InsAt.last k4)
       clear h3 h4 g3 g4 k4)
    | (go_at_call 9; refine (bytes_no g 0 n cap q o d a b m _ hn hgs HG.out hqn HQ.out.1 HQ.out.2).mono ?_; rintro e w5 ⟨rfl, hb5⟩))
  have HB5 := Bl.step hb4 hb5
  have G5 := Lib.hid (HG.out.below hb5 hgs)
  have L5 : Hid (w5.cell? ⟨g, n * 5, none⟩ = some (.int .i64 77)) := Lib.hid (by rw [hb5.cell (p := ⟨g, n * 5, none⟩) hgs]; exact HL.out)
  have hgs5 : g < w5.heap.size := by have := hb5.size; omega
  clear HG HL hs3
  go_loopw [6, 7, 8] (fun want mv i wr => ∃ (k : Nat) (M : List Int), k ≤ n ∧ i = .int .i64 k ∧ mv = .bool (allM o d a b m k) ∧ wr.ownsRow w5.heap.size 5 1 want M.length (M.map (Value.int .u8)) ∧ M.length ≤ 4 * k ∧ (allM o d a b m k = true → M = wordsL (fun j => wordOf (o j) (d j) (a j) (b j) (m j)) k) ∧ Below w5.heap.size w5 wr)
    (fun _ _ i _ => n - (intOf i).toNat)
  case atStart => exact ⟨0, [], Nat.zero_le _, rfl, rfl, World.ownsRow_nil .., Nat.zero_le _, fun _ => rfl, Below.refl _ _⟩
  case round =>
    obtain ⟨k, M, hk, rfl, rfl, hown, hMl, hMw, hbw⟩ := hrel
    have hbW := Bl.step HB5 hbw
    have HMW := Lib.hid hMw
    clear hMw
    by_cases hlt : k < n
    · obtain ⟨B, off, hAe, hIn⟩ := HI.out.plain (fun e => by have := HA.out e; omega) (by omega)
      subst hAe
      have hBs : B < w.heap.size := World.block_lt_of_cell? w _ (hIn k hlt).1
      have hBr : B < wr.heap.size := by have := hbW.size; omega
      have hgr : g < wr.heap.size := by have := hbw.size; omega
      obtain ⟨j0, j1, j2, j3, j4⟩ := (hIn.below hbW hBs) k hlt
      obtain ⟨q0, q1, q2, q3, q4⟩ := (G5.out.below hbw hgs5) k hlt
      simp only [Nat.zero_add] at q0 q1 q2 q3 q4
      have TEN := Lib.hid (ten_below (Below.refl _ _) hBr hgr ⟨j0, j1, j2, j3, j4, q0, q1, q2, q3, q4⟩)
      have hlt' : (k : Int) < (n : Int) := by omega
      have hk0 : (0 : Int) ≤ (k : Int) := by omega
      have hcn : (k : Int) < (n : Int) + 1 := by omega
      clear hIn
      cases hmk : mayB (o k) (d k) (a k) (b k) (m k)
      · have HH := Lib.hid hmk
        have MV : allM o d a b m (k + 1) = false := by rw [allM_succ, hmk, Bool.and_false]
        have HMV := Lib.hid MV
        clear MV hmk
        go_wp2_with (go_at_call 10; refine (word_no _ _ _ _ _ _ HH.out).mono ?_; rintro e w6 ⟨rfl, hb6⟩; obtain ⟨a0, a1, a2, a3, a4, e0, e1, e2, e3, e4⟩ := ten_below hb6 hBr hgr TEN.out; have hB6 : B < w6.heap.size := (by have := hb6.size; omega); have hg6 : g < w6.heap.size := by have := hb6.size; omega)
        clear j0 j1 j2 j3 j4 q0 q1 q2 q3 q4
        go_region_held3 (fun W => W.cell? ⟨B, off + k * 5, none⟩ = some (.int .i64 (o k)) ∧ W.cell? ⟨B, off + k * 5 + 1, none⟩ = some (.int .i64 (d k)) ∧ W.cell? ⟨B, off + k * 5 + 2, none⟩ = some (.int .i64 (a k)) ∧ W.cell? ⟨B, off + k * 5 + 3, none⟩ = some (.int .i64 (b k)) ∧ W.cell? ⟨B, off + k * 5 + 4, none⟩ = some (.int .i64 (m k)) ∧ W.cell? ⟨g, k * 5, none⟩ = some (.int .i64 (o k)) ∧ W.cell? ⟨g, k * 5 + 1, none⟩ = some (.int .i64 (d k)) ∧ W.cell? ⟨g, k * 5 + 2, none⟩ = some (.int .i64 (a k)) ∧ W.cell? ⟨g, k * 5 + 3, none⟩ = some (.int .i64 (b k)) ∧ W.cell? ⟨g, k * 5 + 4, none⟩ = some (.int .i64 (m k)))
          (first | go_keep | (exact ten_below hb7 (by first | assumption | (simp; omega)) (by first | assumption | (simp; omega)) (by assumption)))
          (first | (go_at_call 11; refine (num_any _ _).mono ?_; rintro e w' ⟨rfl, rfl⟩) | (go_at_call 12; refine (rmay_not HH.out _).mono ?_; rintro e w7 ⟨rfl, hb7⟩))
        obtain ⟨a0, a1, a2, a3, a4, e0, e1, e2, e3, e4⟩ := by assumption
        have hB7 := Bl.step (Bl.drew hb6) hb7
        have hs7 := hB7.size
        have hB7' : B < w7.heap.size := by omega
        have hg7 : g < w7.heap.size := by omega
        have TEN7 := Lib.hid (ten_below (Below.refl _ _) hB7' hg7 ⟨a0, a1, a2, a3, a4, e0, e1, e2, e3, e4⟩)
        clear e0 e1 e2 e3 e4
        go_wp2_with (first
          | (go_at_call 12; refine (rmay_not HH.out _).mono ?_; rintro e w8 ⟨rfl, hb8⟩
             have hB8 := Bl.step hB7 hb8)
          | (go_at_call 11; refine (num_any _ _).mono ?_; rintro e w' ⟨rfl, rfl⟩))
        refine ⟨⟨k + 1, M, by omega, by go_num, by rw [HMV.out], own_below hown hB8, by omega, fun hall => ?_, Bl.step hbw hB8⟩, by simp [intOf]; omega⟩
        rw [HMV.out] at hall; cases hall
      · have HH := Lib.hid hmk
        have MV : allM o d a b m (k + 1) = allM o d a b m k := by rw [allM_succ, hmk, Bool.and_true]
        have HMV := Lib.hid MV
        clear MV hmk
        go_wp2_with (go_at_call 10; refine (word_yes _ _ _ _ _ _ HH.out).mono ?_; rintro e w6 ⟨rfl, hb6⟩; obtain ⟨a0, a1, a2, a3, a4, e0, e1, e2, e3, e4⟩ := ten_below hb6 hBr hgr TEN.out; have hB6 : B < w6.heap.size := (by have := hb6.size; omega); have hg6 : g < w6.heap.size := by have := hb6.size; omega)
        clear j0 j1 j2 j3 j4 q0 q1 q2 q3 q4
        go_region_held3 (fun W => W.cell? ⟨B, off + k * 5, none⟩ = some (.int .i64 (o k)) ∧ W.cell? ⟨B, off + k * 5 + 1, none⟩ = some (.int .i64 (d k)) ∧ W.cell? ⟨B, off + k * 5 + 2, none⟩ = some (.int .i64 (a k)) ∧ W.cell? ⟨B, off + k * 5 + 3, none⟩ = some (.int .i64 (b k)) ∧ W.cell? ⟨B, off + k * 5 + 4, none⟩ = some (.int .i64 (m k)) ∧ W.cell? ⟨g, k * 5, none⟩ = some (.int .i64 (o k)) ∧ W.cell? ⟨g, k * 5 + 1, none⟩ = some (.int .i64 (d k)) ∧ W.cell? ⟨g, k * 5 + 2, none⟩ = some (.int .i64 (a k)) ∧ W.cell? ⟨g, k * 5 + 3, none⟩ = some (.int .i64 (b k)) ∧ W.cell? ⟨g, k * 5 + 4, none⟩ = some (.int .i64 (m k)))
          (first | go_keep | (exact ten_below hb7 (by first | assumption | (simp; omega)) (by first | assumption | (simp; omega)) (by assumption)))
          (first | (go_at_call 11; refine (num_any _ _).mono ?_; rintro e w' ⟨rfl, rfl⟩) | (go_at_call 12; refine (rmay_is HH.out _).mono ?_; rintro e w7 ⟨rfl, hb7⟩))
        obtain ⟨a0, a1, a2, a3, a4, e0, e1, e2, e3, e4⟩ := by assumption
        have hB7 := Bl.step (Bl.drew hb6) hb7
        have hs7 := hB7.size
        have hB7' : B < w7.heap.size := by omega
        have hg7 : g < w7.heap.size := by omega
        have TEN7 := Lib.hid (ten_below (Below.refl _ _) hB7' hg7 ⟨a0, a1, a2, a3, a4, e0, e1, e2, e3, e4⟩)
        have HR := word_range HH.out
        generalize hx : wordOf (o k) (d k) (a k) (b k) (m k) = x at *
        obtain ⟨hr0, hr1⟩ := HR
        have HX := Lib.hid hx
        clear hx e0 e1 e2 e3 e4
        go_wp2_with (first
          | (go_at_call 12; refine (rmay_is HH.out _).mono ?_; rintro e w8 ⟨rfl, hb8⟩
             have hB8 := Bl.step hB7 hb8
             have hs8 := hB8.size
             obtain ⟨c0, c1, c2, c3, c4, -, -, -, -, -⟩ := ten_below hb8 hB7' hg7 TEN7.out)
          | (go_at_call 13; refine (rword_yes _ _ _ _ _ _ HH.out).mono ?_; rw [HX.out]; rintro e w9 ⟨rfl, hb9⟩
             have hB9 := Bl.step hB8 hb9
             have hs9 := hB9.size)
          | (go_at_call 14; refine (rfour_any _ _ hr0 hr1).mono ?_; rintro e w10 ⟨rfl, rfl⟩)
          | (at_builtin
             refine wpList_append_own _ rfl _ _ 27 rfl w5.heap.size 5 i1 (.int .u8 0) 1 1 Tryd.underlying27 hi1 y0 y1 y2 rfl (by decide) u6 M.length _ rfl ((own_below hown hB9).alloc _) ⟨w9.heap.size, 0, none⟩ 4 4 [.int .u8 (x % 256), .int .u8 (x / 256 % 256), .int .u8 (x / 65536 % 256), .int .u8 (x / 16777216 % 256)] rfl rfl (cells_four_new _ _ _ _ _ _) (by simp [Value.oneCell']) (by unfold maxLen; omega) (by omega) (by have := hbw.size; simp; omega) ?_
             intro v11 w11 h11 g11 _))
        refine ⟨⟨k + 1, M ++ [x % 256, x / 256 % 256, x / 65536 % 256, x / 16777216 % 256], by omega, by go_num, by rw [HMV.out], own_cast h11 (by simp) (by simp), by simp; omega, fun hall => ?_, (Bl.alloc (Bl.step hbw hB9) _).grown g11 (by have := hbw.size; simp; omega) (fun q e => (((own_below hown hB9).alloc (.cells #[.int .u8 (x % 256), .int .u8 (x / 256 % 256), .int .u8 (x / 65536 % 256), .int .u8 (x / 16777216 % 256)] 5)).lt q e).1)⟩, by simp [intOf]; omega⟩
        rw [HMW.out (by rw [allM_succ, Bool.and_eq_true] at hall; exact hall.1)]
        simp [wordsL, fourL, HX.out]
    · obtain rfl : k = n := by omega
      have hq : wr.cell? ⟨g, k * 5, none⟩ = some (.int .i64 77) := by rw [hbw.cell (p := ⟨g, k * 5, none⟩) hgs5]; exact L5.out
      have hk0 : (0 : Int) ≤ (k : Int) := by omega
      have hcn : (k : Int) < (k : Int) + 1 := by omega
      have hmv := HM.out
      go_wp2_with (first
        | (go_at_call 11; refine (num_any _ _).mono ?_; rintro e w6 ⟨rfl, rfl⟩)
        | (go_at_call 8; refine (known_yes _ (Env.of' hbW HE.out)).mono ?_; rintro e w7 ⟨rfl, hb7⟩))
      go_ret
      exact ⟨rfl, Bl.step hbW hb7⟩

set_option maxHeartbeats 1600000 in
set_option maxRecDepth 100000 in
theorem words_long (A : Option Addr) (n c : Nat) (w : World) (he : Env w) (hn : 200 < n) :
    Calls Tryd.prog 3 #[.slice A n c] w fun e w' => e = .returned (.bool true) ∧ Below w.heap.size w w' := by
  have hn' : (200 : Int) < (n : Int) := by omega
  go_enter Tryd.func3, Tryd.ntmps3
  go_wp2_with (go_at_call 8; refine (known_yes _ he).mono ?_; rintro e w9 ⟨rfl, hb9⟩)
  go_ret
  exact ⟨rfl, hb9⟩

theorem words_any (A : Option Addr) (n c : Nat) (o d a b m : Nat → Int) (w : World) (he : Env w) (hA : A = none → n = 0 ∧ c = 0) (hI : InsOf w A n o d a b m) :
    Calls Tryd.prog 3 #[.slice A n c] w fun e w' => e = .returned (.bool true) ∧ Below w.heap.size w w' := by
  by_cases hn : n ≤ 200
  · cases hm : allM o d a b m n
    · exact words_n A n c o d a b m w he hn hA hI hm
    · exact words_y A n c o d a b m w he hn hA hI hm
  · exact words_long A n c w he (by omega)

end Go.Proofs.YtnkkomodpjgefaaDoor
