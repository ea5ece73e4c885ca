/- FramesMany and FramesHeld: how often a frame is held. -/
import Derived.Test.YtjbamldhoeblbaaFrmJ
namespace Go.Proofs.Ytjbamldhoeblbaa
open Go.RowKit Go.Shelf

theorem withHold_twice (s : St) (f : Nat) (x y : Int) (hf : f < s.n) : (s.withHold f x).withHold f y = s.withHold f y := by
  unfold St.withHold
  rw [show ({ s with fr := s.fr.set f (s.own f, x) } : St).own f = s.own f from own_withHold s f x hf f]
  simp
theorem granted_held (s : St) (f : Nat) (a : Int) (hf : f < s.n) : (s.granted f a).withHold f 1 = s.granted f a := by
  unfold St.withHold
  rw [own_granted s f a hf f, if_pos rfl]
  unfold St.granted; simp
/-- One frame, held so often. -/
def H1 (k : Int) : St := ((fresh 1 [1]).granted 0 0).withHold 0 k
theorem h1_n (k : Int) : (H1 k).n = 1 := by unfold H1; rw [n_withHold, n_granted, fresh_n]
theorem h1_hold (k : Int) : (H1 k).hold 0 = k := by unfold H1; rw [hold_withHold _ _ _ (by rw [n_granted, fresh_n]; decide), if_pos rfl]
theorem h1_own (k : Int) : (H1 k).own 0 = 0 := by unfold H1; rw [own_withHold _ _ _ (by rw [n_granted, fresh_n]; decide), own_granted _ _ _ (by rw [fresh_n]; decide), if_pos rfl]
theorem h1_set (k x : Int) : (H1 k).withHold 0 x = H1 x := by unfold H1; rw [withHold_twice _ _ _ _ (by rw [n_granted, fresh_n]; decide)]
theorem h1_one : H1 1 = (fresh 1 [1]).granted 0 0 := by unfold H1; exact granted_held _ _ _ (by rw [fresh_n]; decide)
theorem h1_free (k : Int) (h : 0 < k) : ((H1 k).n : Int) - (H1 k).held = 0 := by
  unfold St.held; rw [h1_n]; show (1 : Int) - ((H1 k).heldTo 0 + (if 0 < (H1 k).hold 0 then 1 else 0) : Nat) = 0
  rw [h1_hold, if_pos h]; rfl
theorem h1_freed (k : Int) : (((H1 k).freed 0).n : Int) - ((H1 k).freed 0).held = 1 := by
  unfold St.held; rw [n_freed, h1_n]; show (1 : Int) - (((H1 k).freed 0).heldTo 0 + (if 0 < ((H1 k).freed 0).hold 0 then 1 else 0) : Nat) = 1
  rw [hold_freed _ _ (by rw [h1_n]; decide), if_pos rfl, if_neg (by decide)]; rfl
theorem ok_1_1 : NewOk 1 [1] := ⟨by decide, by decide, by decide, by decide, fun k hk => by
  match k, hk with
  | 0, _ => unfold badAt; decide⟩

theorem of_lit {w : World} {p F Q c : Nat} {s : St} (h : PoolAt w p F Q c s) (f : Nat) (f' x y : Int) (ef : (f : Int) = f') (hf : f < s.n) (hh : 0 < s.hold f) (hx : s.own f = x) (hy : s.hold f = y) :
    Calls Try.prog 27 #[.pointer (some ⟨p, 0, none⟩), .int .i64 f'] w fun e w' => e = .returned (.tuple #[.agg #[.int .i64 f', .int .i64 x, .int .i64 y], .int .i64 0]) ∧ Below w.heap.size w w' := by subst ef hx hy; exact of_yes h f hf hh
theorem hold_full_lit {w : World} {p F Q c : Nat} {s : St} (h : PoolAt w p F Q c s) (f : Nat) (f' : Int) (ef : (f : Int) = f') (hf : f < s.n) (hm : s.hold f = 65535) :
    Calls Try.prog 18 #[.pointer (some ⟨p, 0, none⟩), .int .i64 f'] w fun e w' => e = .returned (.int .i64 5) ∧ w = w' := by subst ef; exact hold_full h f hf hm

set_option maxRecDepth 100000 in
set_option maxHeartbeats 2000000 in
theorem many_any (w : World) : Calls Try.prog 7 #[] w fun e w' => e = .returned (.bool true) ∧ Below w.heap.size w w' := by
  go_enter Try.func7, Try.ntmps7
  go_wp2_with fail
  refine (new_yes_at 1 _ 1 1 [1] rfl (ints_at _ _ 3 [1] (heap_alloc_new w _)) ok_1_1).mono ?_
  rintro e w1 ⟨p, F, Q, c, rfl, hp, hb, hF, -, -⟩
  have O := Lib.hid (PoolOwn.of_new (w0 := w) ((Below.refl _ w).alloc (Nat.le_refl _) _) (s := fresh 1 [1]) hp hb hF)
  clear hp hb hF
  go_wp2_with fail
  refine (grant_lit O.out.pool 0 0 0 0 rfl rfl (by decide) (by decide) (by decide) (by decide) (by decide)).mono ?_
  rintro e w2 ⟨rfl, hp, hg⟩
  have O2 := Lib.hid (O.out.next (s' := H1 1) (by rw [h1_one]; exact hp) hg)
  clear hp hg O
  go_wp2
  go_loopw [3] (fun i W => ∃ k : Nat, k ≤ 65534 ∧ i = .int .i64 k ∧ PoolOwn w W p F Q c (H1 (k + 1))) (fun i _ => 65534 - (intOf i).toNat)
  case atStart => exact ⟨0, Nat.zero_le _, rfl, O2.out⟩
  case round =>
    obtain ⟨k, hk, rfl, hO⟩ := hrel
    have O := Lib.hid hO
    clear hO
    by_cases hlt : k < 65534
    · have hlt' : (k : Int) < 65534 := by omega
      have h1 := Lib.hid (show 0 < (H1 ((k : Int) + 1)).hold 0 by rw [h1_hold]; omega)
      have h2 := Lib.hid (show (H1 ((k : Int) + 1)).hold 0 < 65535 by rw [h1_hold]; omega)
      go_wp2_with (refine (hold_lit O.out.pool 0 0 (k + 1 + 1) rfl (by rw [h1_n]; decide) h1.out h2.out (by rw [h1_hold])).mono ?_; rintro e w3 ⟨rfl, hp, hg⟩; rw [h1_set] at hp; have O3 := Lib.hid (O.out.next hp hg); clear hp hg)
      go_roundw
      case rel => exact ⟨k + 1, by omega, by go_num, by rw [show ((k + 1 : Nat) : Int) + 1 = (k : Int) + 1 + 1 by omega]; exact O3.out⟩
      case measure => simp [intOf]; omega
    · have HK := Lib.hid (show k = 65534 by omega)
      have hge : ¬ (k : Int) < 65534 := by omega
      have HX := Lib.hid (show ((k : Int) + 1) = 65535 by omega)
      clear hlt hk
      rw [HX.out] at O
      go_wp2_with fail
      refine (of_lit O.out.pool 0 0 0 65535 rfl (by rw [h1_n]; decide) (by rw [h1_hold]; decide) (h1_own _) (h1_hold _)).mono ?_
      rintro e w3 ⟨rfl, hb⟩
      have O3 := Lib.hid (O.out.step hb)
      clear hb O
      have O4 := fun o => Lib.hid (O3.out.step ((Below.refl _ _).alloc (Nat.le_refl _) o))
      go_wp2_with (first
        | (refine (hold_full_lit (O4 _).out.pool 0 0 rfl (by rw [h1_n]; decide) (h1_hold _)).mono ?_; rintro e w' ⟨rfl, rfl⟩)
        | (refine (known_any _).mono ?_; rintro e w5 ⟨rfl, hb5⟩; have O5 := Lib.hid ((O4 _).out.step hb5); clear hb5))
      go_ret
      exact ⟨rfl, O5.out.below⟩

end Go.Proofs.Ytjbamldhoeblbaa
