/- Reading and writing bytes of frames, an account's quota. -/
import Derived.Test.YtjbamldhoeblbaaFrmD
namespace Go.Proofs.Ytjbamldhoeblbaa
open Go.RowKit Go.Shelf

theorem quota_nil (a : Int) (w : World) : Calls Try.prog 22 #[.pointer none, .int .i64 a] w fun e w' => e = .returned (.int .i64 0) ∧ w = w' := by
  go_enter Try.func22, Try.ntmps22
  go_wp2_with (go_at_call 38; refine (there_nil _).mono ?_; rintro e w' ⟨rfl, rfl⟩)
  go_ret
  exact ⟨rfl, rfl⟩
theorem quota_yes {w : World} {p F Q c : Nat} {s : St} (h : PoolAt w p F Q c s) (a : Nat) (ha : a < s.k) : Calls Try.prog 22 #[.pointer (some ⟨p, 0, none⟩), .int .i64 a] w fun e w' => e = .returned (.int .i64 (s.quo.getD a 0)) ∧ w = w' := by
  have HP := Lib.hid h
  have hc := h.c1
  have hq := h.quo a ha
  have hk := h.ok.k2
  clear h
  go_enter Try.func22, Try.ntmps22
  go_wp2_with (first
    | (go_at_call 38; refine (there_yes HP.out).mono ?_; rintro e w' ⟨rfl, rfl⟩)
    | (go_at_call 50; refine (has_yes HP.out a ha).mono ?_; rintro e w' ⟨rfl, rfl⟩))
  go_ret
  exact ⟨rfl, rfl⟩
theorem quota_no {w : World} {p F Q c : Nat} {s : St} (h : PoolAt w p F Q c s) (a : Int) (ha : a < 0 ∨ (s.k : Int) ≤ a) : Calls Try.prog 22 #[.pointer (some ⟨p, 0, none⟩), .int .i64 a] w fun e w' => e = .returned (.int .i64 0) ∧ w = w' := by
  go_enter Try.func22, Try.ntmps22
  go_wp2_with (first
    | (go_at_call 38; refine (there_yes h).mono ?_; rintro e w' ⟨rfl, rfl⟩)
    | (go_at_call 50; refine (has_no h a ha).mono ?_; rintro e w' ⟨rfl, rfl⟩))
  go_ret
  exact ⟨rfl, rfl⟩

/-! ### room -/
theorem room_nil (f o n : Int) (w : World) : Calls Try.prog 54 #[.pointer none, .int .i64 f, .int .i64 o, .int .i64 n] w fun e w' => e = .returned (.tuple #[.slice none 0 0, .int .i64 1]) ∧ w = w' := by
  go_enter Try.func54, Try.ntmps54
  go_wp2_with (go_at_call 38; refine (there_nil _).mono ?_; rintro e w' ⟨rfl, rfl⟩)
  go_ret2
  exact ⟨rfl, rfl⟩
/-- A place that is none, or bytes beyond the frame. -/
def noRoom (o n : Int) : Prop := o < 0 ∨ 256 ≤ o ∨ 256 - o < n
theorem room_arg {w : World} {p F Q c : Nat} {s : St} (h : PoolAt w p F Q c s) (f o n : Int) (hb : noRoom o n) :
    Calls Try.prog 54 #[.pointer (some ⟨p, 0, none⟩), .int .i64 f, .int .i64 o, .int .i64 n] w fun e w' => e = .returned (.tuple #[.slice none 0 0, .int .i64 2]) ∧ w = w' := by
  by_cases h0 : o < 0
  · clear hb
    go_enter Try.func54, Try.ntmps54
    go_wp2_with (go_at_call 38; refine (there_yes h).mono ?_; rintro e w' ⟨rfl, rfl⟩)
    go_ret2
    exact ⟨rfl, rfl⟩
  · by_cases h1 : 256 ≤ o
    · clear hb
      go_enter Try.func54, Try.ntmps54
      go_wp2_with (go_at_call 38; refine (there_yes h).mono ?_; rintro e w' ⟨rfl, rfl⟩)
      go_ret2
      exact ⟨rfl, rfl⟩
    · have h2 : 256 - o < n := by rcases hb with hb | hb | hb <;> omega
      have h0' : 0 ≤ o := by omega
      have h1' : o < 256 := by omega
      have h1d : ¬ 256 ≤ o := h1
      clear hb
      go_enter Try.func54, Try.ntmps54
      go_wp2_with (go_at_call 38; refine (there_yes h).mono ?_; rintro e w' ⟨rfl, rfl⟩)
      go_ret2
      exact ⟨rfl, rfl⟩
theorem room_gone {w : World} {p F Q c : Nat} {s : St} (h : PoolAt w p F Q c s) (f : Int) (hg : s.gone f) (o n : Int) (h0 : 0 ≤ o) (h1 : o < 256) (h2 : n ≤ 256 - o) :
    Calls Try.prog 54 #[.pointer (some ⟨p, 0, none⟩), .int .i64 f, .int .i64 o, .int .i64 n] w fun e w' => e = .returned (.tuple #[.slice none 0 0, .int .i64 6]) ∧ w = w' := by
  have h1d : ¬ 256 ≤ o := by omega
  have h0d : ¬ o < 0 := by omega
  have h2d : ¬ 256 - o < n := by omega
  have HG := Lib.hid hg
  clear hg
  go_enter Try.func54, Try.ntmps54
  go_wp2_with (first
    | (go_at_call 38; refine (there_yes h).mono ?_; rintro e w' ⟨rfl, rfl⟩)
    | (go_at_call 51; refine (owned_gone h f HG.out).mono ?_; rintro e w' ⟨rfl, rfl⟩))
  go_ret2
  exact ⟨rfl, rfl⟩
theorem pageA_arr : Try.prog.underlying 74 = some (.array (Try.prog.arrayLen 74) (Try.prog.elem 74)) := by kernel_rfl
theorem pageA_len : Try.prog.arrayLen 74 = 256 := by kernel_rfl
theorem pageA_one (w : World) : (sizeOf (Try.prog.elem 74)).run Try.prog w = .ok 1 w := by kernel_rfl
theorem run_room (w : World) (B b o n : Nat) (h1 : o < 256) (h5 : o + n ≤ 256) :
    (Instr.sliceAt 74 (.pointer (some ⟨B, b, none⟩)) (some (.int .i64 o)) (some (.int .i64 ((o : Int) + n))) none).run Try.prog w = .ok (.slice (some ⟨B, b + o, none⟩) n (256 - o)) w := by
  rw [run_sliceAt_array_lh w _ _ pageA_arr _ _ _ _ (by omega) (by omega) (by rw [pageA_len]; omega), pageA_one, pageA_len]
  have e1 : ((o : Int) + n).toNat = o + n := by omega
  simp only [Result.andThen_ok, slicedAt, Int.toNat_natCast, e1, Nat.mul_one, Addr.add_lit]
  rw [if_neg (by omega), show o + n - o = n by omega]
set_option maxRecDepth 100000 in
theorem room_yes {w : World} {p F Q c : Nat} {s : St} (h : PoolAt w p F Q c s) (f : Nat) (hf : f < s.n) (hh : 0 < s.hold f) (o n : Nat) (h1 : o < 256) (h2 : n ≤ 256 - o) :
    Calls Try.prog 54 #[.pointer (some ⟨p, 0, none⟩), .int .i64 f, .int .i64 o, .int .i64 n] w fun e w' => e = .returned (.tuple #[.slice (some ⟨F, f * 258 + 2 + o, none⟩) n (256 - o), .int .i64 0]) ∧ w = w' := by
  have h1d : ¬ (256 : Int) ≤ o := by omega
  have h2d : ¬ (256 : Int) - o < n := by omega
  have h3 : (o : Int) + n ≤ 256 := by omega
  have hr := fun w => run_room w F (f * 258 + 2) o n h1 (by omega)
  have HP := Lib.hid h
  clear h
  go_enter Try.func54, Try.ntmps54
  go_wp2_with (first
    | (go_at_call 38; refine (there_yes HP.out).mono ?_; rintro e w' ⟨rfl, rfl⟩)
    | (go_at_call 51; refine (owned_yes HP.out f hf hh).mono ?_; rintro e w' ⟨rfl, rfl⟩))
  go_ret2
  exact ⟨rfl, rfl⟩

/-! ### Byte -/
theorem byte_arg {w : World} {p F Q c : Nat} {s : St} (h : PoolAt w p F Q c s) (f o : Int) (hb : o < 0 ∨ 256 ≤ o) :
    Calls Try.prog 26 #[.pointer (some ⟨p, 0, none⟩), .int .i64 f, .int .i64 o] w fun e w' => e = .returned (.tuple #[.int .u8 0, .int .i64 2]) ∧ w = w' := by
  have hb' : noRoom o 1 := by rcases hb with hb | hb; exact .inl hb; exact .inr (.inl hb)
  clear hb
  have HB := Lib.hid hb'
  clear hb'
  go_enter Try.func26, Try.ntmps26
  go_wp2_with (go_at_call 54; refine (room_arg h f o 1 HB.out).mono ?_; rintro e w' ⟨rfl, rfl⟩)
  go_ret2
  exact ⟨rfl, rfl⟩
theorem byte_gone {w : World} {p F Q c : Nat} {s : St} (h : PoolAt w p F Q c s) (f : Int) (hg : s.gone f) (o : Int) (h0 : 0 ≤ o) (h1 : o < 256) :
    Calls Try.prog 26 #[.pointer (some ⟨p, 0, none⟩), .int .i64 f, .int .i64 o] w fun e w' => e = .returned (.tuple #[.int .u8 0, .int .i64 6]) ∧ w = w' := by
  have HG := Lib.hid hg
  clear hg
  go_enter Try.func26, Try.ntmps26
  go_wp2_with (go_at_call 54; refine (room_gone h f HG.out o 1 h0 h1 (by omega)).mono ?_; rintro e w' ⟨rfl, rfl⟩)
  go_ret2
  exact ⟨rfl, rfl⟩
theorem byte_yes {w : World} {p F Q c : Nat} {s : St} (h : PoolAt w p F Q c s) (f : Nat) (hf : f < s.n) (hh : 0 < s.hold f) (o : Nat) (h1 : o < 256) :
    Calls Try.prog 26 #[.pointer (some ⟨p, 0, none⟩), .int .i64 f, .int .i64 o] w fun e w' => e = .returned (.tuple #[.int .u8 (s.byt f o), .int .i64 0]) ∧ w = w' := by
  have HP := Lib.hid h
  have hc := h.byt f o hf h1
  have H := fun w' (HP' : PoolAt w' p F Q c s) => room_yes HP' f hf hh o 1 h1 (by omega)
  clear h
  go_enter Try.func26, Try.ntmps26
  go_wp2_with (go_at_call 54; refine (H _ HP.out).mono ?_; rintro e w' ⟨rfl, rfl⟩)
  go_ret2
  exact ⟨rfl, rfl⟩

/-! ### Put -/
/-- Bytes that stand in memory behind an address. -/
def BytesOf (w : World) (A : Option Addr) (L : List Int) : Prop := 0 < L.length → ∃ ad, A = some ad ∧ ∀ j x, L[j]? = some x → w.cell? (ad.add j) = some (.int .u8 x)
theorem wpList_copy_amid {P : Program} {w : World} {ops : Array Oper} {rest : List Oper} {o : Oper} {a : Act} {Q : Exit → Act → World → Prop} (hgd : o.guard = none) (d s : Operand) (dT sT : TypeId)
    (ho : o.op = .call { callee := .builtin .copy, args := #[d, s], argTypes := #[dT, sT] }) (elem : TypeId) (hu : P.underlying dT = some (.slice elem)) (hsz : (P.info? elem).map (·.size) = some 1)
    (g off dLen dCap : Nat) (A : Option Addr) (sLen sCap : Nat) (hd : a.eval d = .slice (some ⟨g, off, none⟩) dLen dCap) (hs : a.eval s = .slice A sLen sCap)
    (cur : Array Value) (t : TypeId) (hg : w.heap[g]? = some (.cells cur t (0, 0))) (L : List Int) (hn : L.length = Nat.min sLen dLen) (hB : BytesOf w A L) (hfit : off + L.length ≤ cur.size)
    (h : wpList P ops Q rest (a.put o.dst (goInt L.length)) (w.setRow g (splice cur.toList off (L.map (Value.int .u8))).toArray)) : wpList P ops Q (o :: rest) a w := by
  by_cases h0 : L.length = 0
  · obtain rfl : L = [] := List.eq_nil_of_length_eq_zero h0
    refine wpList_copy_nothing hgd d s dT sT ho elem hu hsz _ A dLen dCap sLen sCap hd hs (by simpa using hn.symm) ?_
    have e : w.setRow g (splice cur.toList off ([].map (Value.int .u8))).toArray = w := by
      simp only [splice, List.map_nil, List.length_nil, Nat.add_zero, List.nil_append, List.take_append_drop, Array.toArray_toList]
      exact setRow_self w g cur t (0, 0) hg
    rw [e] at h
    exact h
  · obtain ⟨ad, rfl, hc⟩ := hB (by omega)
    refine wpList_copy_own hgd d s dT sT ho elem hu hsz g off dLen dCap ad sLen sCap hd hs cur t hg (L.map (Value.int .u8)) (by rw [List.length_map]; exact hn) (fun j v hv => ?_) (by rw [List.length_map]; exact hfit) (fun v hv => ?_) ?_
    · rw [List.getElem?_map] at hv
      cases e : L[j]? with
      | none => rw [e] at hv; cases hv
      | some x => rw [e] at hv; cases hv; exact hc j x e
    · obtain ⟨x, -, rfl⟩ := List.mem_map.1 hv; rfl
    · unfold splice at h; rw [List.length_map] at h ⊢; exact h
theorem pool_put {w : World} {p F Q c : Nat} {s : St} (h : PoolAt w p F Q c s) {cur : Array Value} {t : TypeId} (hr : w.heap[F]? = some (.cells cur t (0, 0))) (f : Nat) (hf : f < s.n) (o : Nat) (L : List Int) (hL : o + L.length ≤ 256) (hb : ∀ x ∈ L, 0 ≤ x ∧ x < 256) :
    PoolAt (w.setRow F (splice cur.toList (f * 258 + 2 + o) (L.map (Value.int .u8))).toArray) p F Q c (s.putAt f o L) := by
  rw [Nat.add_assoc]
  refine pool_span h hr f (2 + o) (L.map (Value.int .u8)) hf (by rw [List.length_map]; omega) (ok_putAt h.ok f o L hb) rfl rfl (fun j hj => ?_) (fun i j hi hj hne => ?_)
  · rw [List.length_map] at hj
    have e : (s.putAt f o L).byt f (o + j) = L.getD j 0 := by
      show (if f = f ∧ o ≤ o + j ∧ o + j < o + L.length then L.getD (o + j - o) 0 else s.byt f (o + j)) = _
      rw [if_pos ⟨rfl, by omega, by omega⟩, show o + j - o = j by omega]
    unfold St.cv
    rw [if_neg (by omega), if_neg (by omega), show 2 + o + j - 2 = o + j by omega, e, List.getElem?_map, List.getD_eq_getElem?_getD, List.getElem?_eq_getElem hj]
    rfl
  · rw [List.length_map] at hne
    unfold St.cv
    have e1 : (s.putAt f o L).own i = s.own i := rfl
    have e2 : (s.putAt f o L).hold i = s.hold i := rfl
    rw [e1, e2]
    by_cases h0 : j = 0
    · rw [if_pos h0, if_pos h0]
    · by_cases h1 : j = 1
      · rw [if_neg h0, if_neg h0, if_pos h1, if_pos h1]
      · rw [if_neg h0, if_neg h0, if_neg h1, if_neg h1]
        have e3 : (s.putAt f o L).byt i (j - 2) = s.byt i (j - 2) := by
          show (if i = f ∧ o ≤ j - 2 ∧ j - 2 < o + L.length then L.getD (j - 2 - o) 0 else s.byt i (j - 2)) = _
          rw [if_neg (by omega)]
        rw [e3]
theorem put_arg {w : World} {p F Q c : Nat} {s : St} (h : PoolAt w p F Q c s) (f o : Int) (A : Option Addr) (n m : Nat) (hn : (n : Int) ≤ 9223372036854775807) (hb : noRoom o n) :
    Calls Try.prog 25 #[.pointer (some ⟨p, 0, none⟩), .int .i64 f, .int .i64 o, .slice A n m] w fun e w' => e = .returned (.int .i64 2) ∧ w = w' := by
  have HB := Lib.hid hb
  clear hb
  go_enter Try.func25, Try.ntmps25
  go_wp2_with (first
    | (go_at_call 54; refine (room_arg h f o n HB.out).mono ?_; rintro e w' ⟨rfl, rfl⟩)
    | (with_reducible refine wpList_copy_nothing rfl _ _ 32 32 rfl 5 Try.underlying32 (by kernel_rfl) none A 0 0 n m rfl rfl (Nat.min_eq_right (Nat.zero_le _)) ?_))
  go_ret
  exact ⟨rfl, rfl⟩
theorem put_gone {w : World} {p F Q c : Nat} {s : St} (h : PoolAt w p F Q c s) (f : Int) (hg : s.gone f) (o : Int) (A : Option Addr) (n m : Nat) (h0 : 0 ≤ o) (h1 : o < 256) (h2 : (n : Int) ≤ 256 - o) :
    Calls Try.prog 25 #[.pointer (some ⟨p, 0, none⟩), .int .i64 f, .int .i64 o, .slice A n m] w fun e w' => e = .returned (.int .i64 6) ∧ w = w' := by
  have HG := Lib.hid hg
  clear hg
  go_enter Try.func25, Try.ntmps25
  go_wp2_with (first
    | (go_at_call 54; refine (room_gone h f HG.out o n h0 h1 h2).mono ?_; rintro e w' ⟨rfl, rfl⟩)
    | (with_reducible refine wpList_copy_nothing rfl _ _ 32 32 rfl 5 Try.underlying32 (by kernel_rfl) none A 0 0 n m rfl rfl (Nat.min_eq_right (Nat.zero_le _)) ?_))
  go_ret
  exact ⟨rfl, rfl⟩
set_option maxRecDepth 100000 in
theorem put_yes {w : World} {p F Q c : Nat} {s : St} (h : PoolAt w p F Q c s) (f : Nat) (hf : f < s.n) (hh : 0 < s.hold f) (o : Nat) (A : Option Addr) (n m : Nat) (L : List Int) (hL : L.length = n) (h1 : o < 256) (h2 : n ≤ 256 - o) (hB : BytesOf w A L) (hb : ∀ x ∈ L, 0 ≤ x ∧ x < 256) :
    Calls Try.prog 25 #[.pointer (some ⟨p, 0, none⟩), .int .i64 f, .int .i64 o, .slice A n m] w fun e w' => e = .returned (.int .i64 0) ∧ PoolAt w' p F Q c (s.putAt f o L) ∧ w.grownBy w' (some F) := by
  have HP := Lib.hid h
  obtain ⟨cur, t, hr, hs, -⟩ := h.row
  have hfit : f * 258 + 2 + o + L.length ≤ cur.size := by rw [hs]; omega
  have HW := Lib.hid (pool_put h hr f hf o L (by omega) hb)
  have HL := Lib.hid (show L.length = Nat.min n n by rw [hL]; exact (Nat.min_self n).symm)
  have HR := Lib.hid hr
  have HF := Lib.hid hfit
  have HB := Lib.hid hB
  clear h hr hfit hL hs hb hB
  go_enter Try.func25, Try.ntmps25
  go_wp2_with (first
    | (go_at_call 54; refine (room_yes HP.out f hf hh o n h1 h2).mono ?_; rintro e w' ⟨rfl, rfl⟩)
    | (with_reducible refine wpList_copy_amid rfl _ _ 32 32 rfl 5 Try.underlying32 (by kernel_rfl) F (f * 258 + 2 + o) n (256 - o) A n m rfl rfl cur t HR.out L HL.out HB.out HF.out ?_))
  go_ret
  exact ⟨rfl, HW.out, pool_span_grown _ _⟩

end Go.Proofs.Ytjbamldhoeblbaa
