/- The chapter's rows: known() is true. -/
import Derived.Test.YtjbamldhoeblbaaFrmI
namespace Go.Proofs.Ytjbamldhoeblbaa
open Go.RowKit Go.Shelf

theorem new_no_at {w : World} (n : Int) (A : Option Addr) (m c : Nat) (L : List Int) (hm : L.length = m) (hA : IntsOf w A L) (hk : (m : Int) ≤ 9223372036854775807) (h : ¬ NewOk n L) :
    Calls Try.prog 10 #[.int .i64 n, .slice A m c] w fun e w' => e = .returned (.tuple #[.pointer none, .int .i64 2]) ∧ w = w' := by subst hm; exact new_no n A c L hA hk h
theorem new_yes_at {w : World} (n : Nat) (A : Option Addr) (m c : Nat) (L : List Int) (hm : L.length = m) (hA : IntsOf w A L) (h : NewOk n L) : Calls Try.prog 10 #[.int .i64 n, .slice A m c] w (NewOut n L w) := by subst hm; exact new_yes n A c L hA h
theorem ints_at (W : World) (g : Nat) (t : TypeId) (L : List Int) (h : W.heap[g]? = some (.cells (L.map (Value.int .i64)).toArray t (0, 0))) : IntsOf W (some ⟨g, 0, none⟩) L := fun _ => ⟨_, _, rfl, fun j hj => by
  rw [Nat.zero_add, cell_of_row _ _ _ _ _ _ h, List.getElem?_toArray, List.getElem?_map, List.getElem?_eq_getElem hj]
  unfold at0; rw [List.getD_eq_getElem?_getD, List.getElem?_eq_getElem hj]; rfl⟩
theorem alloc2 (w : World) (a b : Obj) : ((w.alloc a).alloc b).heap[w.heap.size + 1]? = some b := by
  have := heap_alloc_new (w.alloc a) b
  rwa [World.size_alloc] at this
theorem not_4_32 : ¬ NewOk 4 [3, 2] := fun h => by have := h.q 1 (by decide); revert this; unfold badAt; decide
theorem ok_4_21 : NewOk 4 [2, 1] := ⟨by decide, by decide, by decide, by decide, fun k hk => by
  match k, hk with
  | 0, _ => unfold badAt; decide
  | 1, _ => unfold badAt; decide⟩

/-- A pool of the call's own: its blocks lie behind H; what lay ahead is as it was. -/
structure PoolOwn (w0 w : World) (p F Q c : Nat) (s : St) : Prop where
  pool : PoolAt w p F Q c s
  below : Below w0.heap.size w0 w
  hF : w0.heap.size ≤ F
theorem PoolOwn.next {w0 w w1 : World} {p F Q c : Nat} {s s' : St} (h : PoolOwn w0 w p F Q c s) (hp : PoolAt w1 p F Q c s') (hg : w.grownBy w1 (some F)) : PoolOwn w0 w1 p F Q c s' := ⟨hp, h.below.trans (grown_below hg h.below.size h.hF), h.hF⟩
theorem PoolOwn.step {w0 w w1 : World} {p F Q c : Nat} {s : St} (h : PoolOwn w0 w p F Q c s) (hb : Below w.heap.size w w1) : PoolOwn w0 w1 p F Q c s := ⟨h.pool.below hb, h.below.trans (hb.mono h.below.size), h.hF⟩
theorem PoolOwn.of_new {w0 w w1 : World} {p F Q c : Nat} {s : St} (hb : Below w0.heap.size w0 w) (hp : PoolAt w1 p F Q c s) (h1 : Below w.heap.size w w1) (hF : w.heap.size ≤ F) : PoolOwn w0 w1 p F Q c s := ⟨hp, hb.trans (h1.mono hb.size), Nat.le_trans hb.size hF⟩

def K0 : St := fresh 4 [2, 1]
def K1 : St := K0.granted 0 0
def K2 : St := K1.granted 1 0
def K3 : St := K2.granted 2 1
def K4 : St := K3.putAt 1 255 [7]
def K5 : St := K4.withHold 1 2
def K6 : St := K5.withHold 1 1
def K7 : St := K6.freed 1
def K8 : St := K7.granted 1 0

theorem grant_lit {w : World} {p F Q c : Nat} {s : St} (h : PoolAt w p F Q c s) (a m : Nat) (a' m' : Int) (ea : (a : Int) = a') (em : (m : Int) = m') (ha : a < s.k) (hf : (s.used a : Int) < s.quota a) (hm : m < s.n) (hz : s.hold m = 0) (hl : ∀ i, i < m → 0 < s.hold i) :
    Calls Try.prog 17 #[.pointer (some ⟨p, 0, none⟩), .int .i64 a'] w fun e w' => e = .returned (.tuple #[.int .i64 m', .int .i64 0]) ∧ PoolAt w' p F Q c (s.granted m a') ∧ w.grownBy w' (some F) := by subst ea em; exact grant_yes h a ha hf m hm hz hl
theorem grant_full_lit {w : World} {p F Q c : Nat} {s : St} (h : PoolAt w p F Q c s) (a : Nat) (a' : Int) (ea : (a : Int) = a') (ha : a < s.k) (hf : s.quota a ≤ s.used a) :
    Calls Try.prog 17 #[.pointer (some ⟨p, 0, none⟩), .int .i64 a'] w fun e w' => e = .returned (.tuple #[.int .i64 0, .int .i64 5]) ∧ Below w.heap.size w w' := by subst ea; exact grant_full h a ha hf
theorem bytes_of (w : World) (L : List Int) (g : Nat) (t : TypeId) (h : w.heap[g]? = some (.cells (L.map (Value.int .u8)).toArray t (0, 0))) : BytesOf w (some ⟨g, 0, none⟩) L := fun _ => ⟨_, rfl, fun j x hx => by
  rw [Addr.add_lit, Nat.zero_add, cell_of_row _ _ _ _ _ _ h, List.getElem?_toArray, List.getElem?_map, hx]; rfl⟩
theorem put_lit {w : World} {p F Q c : Nat} {s : St} (h : PoolAt w p F Q c s) (f o n m : Nat) (f' o' : Int) (ef : (f : Int) = f') (eo : (o : Int) = o') (hf : f < s.n) (hh : 0 < s.hold f) (A : Option Addr) (L : List Int) (hL : L.length = n) (h1 : o < 256) (h2 : n ≤ 256 - o) (hB : BytesOf w A L) (hb : ∀ x ∈ L, 0 ≤ x ∧ x < 256) :
    Calls Try.prog 25 #[.pointer (some ⟨p, 0, none⟩), .int .i64 f', .int .i64 o', .slice A n m] w fun e w' => e = .returned (.int .i64 0) ∧ PoolAt w' p F Q c (s.putAt f o L) ∧ w.grownBy w' (some F) := by subst ef eo; exact put_yes h f hf hh o A n m L hL h1 h2 hB hb
theorem byte_lit {w : World} {p F Q c : Nat} {s : St} (h : PoolAt w p F Q c s) (f o : Nat) (f' o' x : Int) (ef : (f : Int) = f') (eo : (o : Int) = o') (hf : f < s.n) (hh : 0 < s.hold f) (h1 : o < 256) (hx : s.byt f o = x) :
    Calls Try.prog 26 #[.pointer (some ⟨p, 0, none⟩), .int .i64 f', .int .i64 o'] w fun e w' => e = .returned (.tuple #[.int .u8 x, .int .i64 0]) ∧ w = w' := by subst ef eo hx; exact byte_yes h f hf hh o h1
theorem hold_lit {w : World} {p F Q c : Nat} {s : St} (h : PoolAt w p F Q c s) (f : Nat) (f' x : Int) (ef : (f : Int) = f') (hf : f < s.n) (hh : 0 < s.hold f) (hm : s.hold f < 65535) (hx : s.hold f + 1 = x) :
    Calls Try.prog 18 #[.pointer (some ⟨p, 0, none⟩), .int .i64 f'] w fun e w' => e = .returned (.int .i64 0) ∧ PoolAt w' p F Q c (s.withHold f x) ∧ w.grownBy w' (some F) := by subst ef hx; exact hold_yes h f hf hh hm
theorem more_lit {w : World} {p F Q c : Nat} {s : St} (h : PoolAt w p F Q c s) (f : Nat) (f' x : Int) (ef : (f : Int) = f') (hf : f < s.n) (hh : 1 < s.hold f) (hx : s.hold f - 1 = x) :
    Calls Try.prog 19 #[.pointer (some ⟨p, 0, none⟩), .int .i64 f'] w fun e w' => e = .returned (.tuple #[.bool false, .int .i64 0]) ∧ PoolAt w' p F Q c (s.withHold f x) ∧ w.grownBy w' (some F) := by subst ef hx; exact drop_more h f hf hh
theorem last_lit {w : World} {p F Q c : Nat} {s : St} (h : PoolAt w p F Q c s) (f : Nat) (f' : Int) (ef : (f : Int) = f') (hf : f < s.n) (hh : s.hold f = 1) :
    Calls Try.prog 19 #[.pointer (some ⟨p, 0, none⟩), .int .i64 f'] w fun e w' => e = .returned (.tuple #[.bool true, .int .i64 0]) ∧ PoolAt w' p F Q c (s.freed f) ∧ w.grownBy w' (some F) := by subst ef; exact drop_last h f hf hh
theorem free_lit {w : World} {p F Q c : Nat} {s : St} (h : PoolAt w p F Q c s) (x : Int) (hx : (s.n : Int) - s.held = x) : Calls Try.prog 21 #[.pointer (some ⟨p, 0, none⟩)] w fun e w' => e = .returned (.int .i64 x) ∧ Below w.heap.size w w' := by subst hx; exact free_any h
theorem used_lit {w : World} {p F Q c : Nat} {s : St} (h : PoolAt w p F Q c s) (a x : Int) (hx : (s.used a : Int) = x) : Calls Try.prog 16 #[.pointer (some ⟨p, 0, none⟩), .int .i64 a] w fun e w' => e = .returned (.int .i64 x) ∧ Below w.heap.size w w' := by subst hx; exact used_any h a
theorem few (P : Nat → Prop) (m : Nat) (h : ∀ i, i < m → P i) : ∀ i, i < m → P i := h

set_option maxRecDepth 100000 in
set_option maxHeartbeats 4000000 in
theorem known_any (w : World) : Calls Try.prog 9 #[] w fun e w' => e = .returned (.bool true) ∧ Below w.heap.size w w' := by
  go_enter Try.func9, Try.ntmps9
  go_wp2_with fail
  refine (new_no_at 4 _ 2 2 [3, 2] rfl (ints_at _ _ 3 [3, 2] (heap_alloc_new w _)) (by decide) not_4_32).mono ?_
  rintro e w' ⟨rfl, rfl⟩
  go_wp2_with fail
  refine (new_yes_at 4 _ 2 2 [2, 1] rfl (ints_at _ _ 3 [2, 1] (alloc2 w _ _)) ok_4_21).mono ?_
  rintro e w1 ⟨p, F, Q, c, rfl, hp, hb, hF, -, -⟩
  have O := Lib.hid (PoolOwn.of_new (w0 := w) (((Below.refl _ w).alloc (Nat.le_refl _) _).alloc (by simp) _) (s := K0) hp hb hF)
  clear hp hb hF
  go_wp2_with fail
  refine (grant_lit O.out.pool 0 0 0 0 rfl rfl (by decide) (by decide) (by decide) (by decide) (by decide)).mono ?_
  rintro e w2 ⟨rfl, hp, hg⟩
  have O' := Lib.hid (O.out.next (s' := K1) hp hg)
  clear hp hg O
  have O := O'
  clear O'
  go_wp2_with fail
  refine (grant_lit O.out.pool 0 1 0 1 rfl rfl (by decide) (by decide) (by decide) (by decide) (by decide)).mono ?_
  rintro e w3 ⟨rfl, hp, hg⟩
  have O' := Lib.hid (O.out.next (s' := K2) hp hg)
  clear hp hg O
  have O := O'
  clear O'
  go_wp2_with fail
  refine (grant_full_lit O.out.pool 0 0 rfl (by decide) (by decide)).mono ?_
  rintro e w4 ⟨rfl, hb⟩
  have O' := Lib.hid (O.out.step hb)
  clear hb O
  have O := O'
  clear O'
  go_wp2_with fail
  refine (grant_lit O.out.pool 1 2 1 2 rfl rfl (by decide) (by decide) (by decide) (by decide) (by decide)).mono ?_
  rintro e w5 ⟨rfl, hp, hg⟩
  have O' := Lib.hid (O.out.next (s' := K3) hp hg)
  clear hp hg O
  have O := O'
  clear O'
  go_wp2_with fail
  refine (grant_arg O.out.pool 2 (by decide)).mono ?_
  rintro e w' ⟨rfl, rfl⟩
  go_wp2_with fail
  refine (put_lit (O.out.step ((Below.refl _ _).alloc (Nat.le_refl _) _)).pool 1 255 1 1 1 255 rfl rfl (by decide) (by decide) _ [7] rfl (by decide) (by decide) (bytes_of _ [7] _ _ (heap_alloc_new _ _)) (by decide)).mono ?_
  rintro e w6 ⟨rfl, hp, hg⟩
  have O' := Lib.hid ((O.out.step ((Below.refl _ _).alloc (Nat.le_refl _) _)).next (s' := K4) hp hg)
  clear hp hg O
  have O := O'
  clear O'
  go_wp2_with fail
  refine (put_arg (O.out.step ((Below.refl _ _).alloc (Nat.le_refl _) _)).pool 1 255 _ 2 2 (by decide) (by unfold noRoom; decide)).mono ?_
  rintro e w' ⟨rfl, rfl⟩
  have O' := Lib.hid (O.out.step ((Below.refl _ _).alloc (Nat.le_refl _) (.cells #[.int .u8 7, .int .u8 8] 5)))
  clear O
  have O := O'
  clear O'
  go_wp2_with fail
  refine (byte_lit O.out.pool 1 255 1 255 7 rfl rfl (by decide) (by decide) (by decide) (by decide)).mono ?_
  rintro e w' ⟨rfl, rfl⟩
  go_wp2_with fail
  refine (hold_lit O.out.pool 1 1 2 rfl (by decide) (by decide) (by decide) (by decide)).mono ?_
  rintro e w7 ⟨rfl, hp, hg⟩
  have O' := Lib.hid (O.out.next (s' := K5) hp hg)
  clear hp hg O
  have O := O'
  clear O'
  go_wp2_with fail
  refine (more_lit O.out.pool 1 1 1 rfl (by decide) (by decide) (by decide)).mono ?_
  rintro e w8 ⟨rfl, hp, hg⟩
  have O' := Lib.hid (O.out.next (s' := K6) hp hg)
  clear hp hg O
  have O := O'
  clear O'
  go_wp2_with fail
  refine (last_lit O.out.pool 1 1 rfl (by decide) (by decide)).mono ?_
  rintro e w9 ⟨rfl, hp, hg⟩
  have O' := Lib.hid (O.out.next (s' := K7) hp hg)
  clear hp hg O
  have O := O'
  clear O'
  go_wp2_with fail
  refine (drop_gone O.out.pool 1 (.inr (.inr ⟨1, rfl, by decide, by decide⟩))).mono ?_
  rintro e w' ⟨rfl, rfl⟩
  go_wp2_with fail
  refine (grant_lit O.out.pool 0 1 0 1 rfl rfl (by decide) (by decide) (by decide) (by decide) (by decide)).mono ?_
  rintro e w10 ⟨rfl, hp, hg⟩
  have O' := Lib.hid (O.out.next (s' := K8) hp hg)
  clear hp hg O
  have O := O'
  clear O'
  go_wp2_with fail
  refine (byte_lit O.out.pool 1 255 1 255 0 rfl rfl (by decide) (by decide) (by decide) (by decide)).mono ?_
  rintro e w' ⟨rfl, rfl⟩
  go_wp2_with fail
  refine (free_lit O.out.pool 1 (by decide)).mono ?_
  rintro e w11 ⟨rfl, hb⟩
  have O' := Lib.hid (O.out.step hb)
  clear hb O
  have O := O'
  clear O'
  go_wp2_with fail
  refine (used_lit O.out.pool 0 2 (by decide)).mono ?_
  rintro e w12 ⟨rfl, hb⟩
  have O' := Lib.hid (O.out.step hb)
  clear hb O
  have O := O'
  clear O'
  go_wp2
  go_ret
  exact ⟨rfl, O.out.below⟩

end Go.Proofs.Ytjbamldhoeblbaa
