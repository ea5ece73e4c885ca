/- The document's Gone. -/
import Derived.Test.YtakgjakcbpdefaaCaqG
namespace Go.Proofs.Ytakgjakcbpdefaa
open Go.RowKit

theorem own_baseC {w : World} {base base' : Nat} {e : TypeId} {size : Nat} {v : Value} {n : Nat} {xs : List Value} (h : w.ownsRow base e size v n xs) (hb : base' ≤ base) : w.ownsRow base' e size v n xs := by
  obtain ⟨h1, h2 | ⟨g, cap, cur, h3, h4, h5⟩⟩ := h
  · exact ⟨h1, .inl h2⟩
  · exact ⟨h1, .inr ⟨g, cap, cur, h3, Nat.le_trans hb h4, h5⟩⟩
def keepC (S : List Cap) (id : Int) (its : Bool) (c : Cap) : Bool := !overB S id c.id || (c.id == id && !its)
def restTo (S : List Cap) (id : Int) (its : Bool) (k : Nat) : List Cap := (S.take k).filter (keepC S id its)
theorem restTo_succ {S : List Cap} {id : Int} {its : Bool} {k : Nat} {x : Cap} (h : S[k]? = some x) : restTo S id its (k + 1) = restTo S id its k ++ (if keepC S id its x = true then [x] else []) := by
  unfold restTo
  rw [List.take_add_one, h, List.filter_append]
  congr 1
  by_cases e : keepC S id its x = true
  · rw [if_pos e]; simp [e]
  · rw [if_neg e]; simp [e]
theorem restTo_len (S : List Cap) (id : Int) (its : Bool) (k : Nat) : (restTo S id its k).length ≤ k := Nat.le_trans (List.length_filter_le _ _) (by simp; omega)
theorem keepC_ways (S : List Cap) (id : Int) (its : Bool) (x : Cap) : ((overB S id x.id = false ∨ (overB S id x.id = true ∧ (x.id == id) = true ∧ its = false)) ∧ keepC S id its x = true) ∨
    (((overB S id x.id = true ∧ (x.id == id) = false) ∨ (overB S id x.id = true ∧ (x.id == id) = true ∧ its = true)) ∧ keepC S id its x = false) := by
  unfold keepC
  cases overB S id x.id <;> cases (x.id == id) <;> cases its <;> simp
/-- What Gone comes to. -/
def goneQ (T : Tab) (a id : Int) (its : Bool) : Out :=
  if accB a = true then if mineB T.caps a id = true then ⟨⟨restTo T.caps id its T.caps.length, T.last⟩, (T.caps.length : Int) - ((restTo T.caps id its T.caps.length).length : Int), 0⟩ else ⟨T, 0, 6⟩ else ⟨T, 0, 2⟩
section
variable {w : World} {B q : Nat} {T : Tab}
theorem qgone_end {wr : World} {v : Value} {id : Int} {its : Bool} {n : Nat} (h : QAt w B q T) (hB : B ≤ w.heap.size) (hb : Below w.heap.size w wr) (ho : wr.ownsRow w.heap.size 43 7 v (restTo T.caps id its n).length (rowC (restTo T.caps id its n))) :
    QAt (wr.setCell ⟨q, 0, none⟩ v) B q ⟨restTo T.caps id its n, T.last⟩ ∧ DK B q w (wr.setCell ⟨q, 0, none⟩ v) := by
  obtain ⟨u, h1, -⟩ := h.tab
  have r1 := (hb.block q h.lt).trans h1
  refine ⟨⟨h.hq, v, heap_setCell_same wr q 0 _ _ v r1, ?_⟩, (DK.of_below hb).trans (DK.of_set B q 0 wr v)⟩
  exact owns_eqC (own_baseC ho hB) fun g hg => heap_setCell_other _ _ _ _ (fun e => by have := (ho.lt g hg).1; have := h.lt; have e' : g = q := e; omega)
set_option maxHeartbeats 4000000 in
set_option maxRecDepth 100000 in
theorem qgone_any (h : QAt w B q T) (hok : TabOk T) (hB : B ≤ w.heap.size) (hn : T.caps.length ≤ 1000) (a id : Int) (its : Bool) :
    Calls Try.prog 34 #[.pointer (some ⟨q, 0, none⟩), .int .i64 a, .int .i64 id, .bool its] w (QOut w B q (goneQ T a id its)) := by
  have HE := Lib.hid (fun x => QOut.no h (Below.refl _ w) x)
  have HM := Lib.hid (qmine_any h hok hn a id)
  have H := Lib.hid h
  have HK := Lib.hid hok
  have HBB := Lib.hid hB
  have HN := Lib.hid hn
  unfold goneQ
  clear h hok hB hn
  cases ha : accB a with
  | false =>
    rw [if_neg (by simp)]
    go_enter Try.func34, Try.ntmps34
    go_wp2_with (first | (go_at_call 51; refine (qaccount_any _ _).mono ?_; rintro e w' ⟨rfl, rfl⟩))
    go_ret2
    exact HE.out 2
  | true =>
    rw [if_pos rfl]
    cases hm : mineB T.caps a id with
    | false =>
      rw [if_neg (by simp)]
      rw [hm] at HM
      clear hm
      go_enter Try.func34, Try.ntmps34
      go_wp2_with (first | (go_at_call 51; refine (qaccount_any _ _).mono ?_; rintro e w' ⟨rfl, rfl⟩) | (go_at_call 53; refine HM.out.mono ?_; rintro e w' ⟨rfl, rfl⟩))
      go_ret2
      exact HE.out 6
    | true =>
      rw [if_pos rfl]
      rw [hm] at HM
      have hid1 : 1 ≤ id := by
        unfold mineB at hm
        cases hf : findC T.caps id with
        | none => rw [hf] at hm; cases hm
        | some c =>
          obtain ⟨h1, h2⟩ := find_mem hf
          rw [← h2]; exact (HK.out.ok c h1).i1
      have HID := Lib.hid hid1
      clear hm hid1
      obtain ⟨i0, hi, hz0, hz1, hz2⟩ := info_parts Try.inCap
      obtain ⟨A, cp, rq, -, hcs, c0, -, -, hq⟩ := H.out.out
      have HC := Lib.hid hcs
      have RQ := Lib.hid rq
      obtain ⟨n, hnn⟩ : ∃ n, T.caps.length = n := ⟨_, rfl⟩
      have hn1 : n ≤ 1000 := by rw [← hnn]; exact HN.out
      rw [hnn] at c0
      have HNN := Lib.hid hnn
      rw [hnn]
      clear hcs hnn rq
      go_enter Try.func34, Try.ntmps34
      go_wp2_with (first | (go_at_call 51; refine (qaccount_any _ _).mono ?_; rintro e w' ⟨rfl, rfl⟩) | (go_at_call 53; refine HM.out.mono ?_; rintro e w' ⟨rfl, rfl⟩))
      go_loopg [10, 11] n (fun g v i W => ∃ k : Nat, k + g = n ∧ i = .int .i64 (k : Int) ∧ W.ownsRow w.heap.size 43 7 v (restTo T.caps id its k).length (rowC (restTo T.caps id its k)) ∧ Below w.heap.size w W)
      case atStart => exact ⟨0, by omega, rfl, World.ownsRow_nil _ _ _ _, Below.refl _ _⟩
      case round =>
        obtain ⟨k, hk, rfl, hown, hB⟩ := hrel
        have HOW := Lib.hid hown
        have HB := Lib.hid hB
        have c0r := (hB.cell (p := ⟨q, 0, none⟩) hq).trans c0
        have hle := restTo_len T.caps id its k
        have HLE := Lib.hid hle
        obtain ⟨Av, cv, rfl, -, -⟩ := own_formC hown
        clear hown hB
        by_cases hlt : k < n
        · have hlt2 : (k : Int) < n := by omega
          obtain ⟨x, hx⟩ : ∃ x, T.caps[k]? = some x := ⟨_, List.getElem?_eq_getElem (by rw [HNN.out]; exact hlt)⟩
          obtain ⟨g, rfl, hg, hc⟩ := (HC.out.below HB.out) k x hx
          have k0 := hc 0 (by omega)
          have k1 := hc 1 (by omega)
          have k2 := hc 2 (by omega)
          have k3 := hc 3 (by omega)
          have k4 := hc 4 (by omega)
          have k5 := hc 5 (by omega)
          have k6 := hc 6 (by omega)
          simp only [capL, Nat.add_zero] at k0 k1 k2 k3 k4 k5 k6
          simp at k0 k1 k2 k3 k4 k5 k6
          have HS := Lib.hid (restTo_succ (id := id) (its := its) hx)
          have HOV := Lib.hid (fun (W : World) (hW : QAt W B q T) => qover_any hW HK.out HN.out id x.id HID.out)
          have HA2 := Lib.hid (fun o => H.out.step (HB.out.alloc HB.out.size o))
          clear hc hx hle
          rcases keepC_ways T.caps id its x with ⟨ways, hkp⟩ | ⟨ways, hkp⟩
          · have HS := Lib.hid (HS.out.trans (by rw [if_pos hkp]))
            clear hkp
            rcases ways with y1 | ⟨y1, y2, rfl⟩
            all_goals
              go_wp2_with (first
                | (go_at_call 36; refine (HOV.out _ (HA2.out _)).mono ?_; rintro e w2 ⟨rfl, rfl⟩)
                | (at_builtin; refine wpList_append_own _ rfl _ _ 27 rfl w.heap.size 43 i0 (.agg #[.int .i64 0, .int .i64 0, .int .i64 0, .int .i64 0, .int .i64 0, .int .i64 0, .int .i64 0]) 7 56 Try.underlying27 hi hz0 hz1 hz2 rfl (by decide) _ _ _ rfl ((HOW.out.alloc _).alloc _) ⟨wr.heap.size + 1, 0, none⟩ 1 1 (capL x) rfl rfl (by have := cells_newC (wr.alloc (.cells #[.int .i64 x.id, .int .i64 x.parent, .int .i64 x.account, .int .i64 x.maker, .int .i64 x.kind, .int .i64 x.object, .int .i64 x.rights] 43)) (capL x) 43; rwa [World.size_alloc] at this) (capL_one _) (by have := HLE.out; unfold maxLen; omega) (by have := HLE.out; omega) (by have := HB.out.size; simp; omega) ?_; intro v' w3 hown' hg3 hnil3; have HO3 := Lib.hid hown'; have HG3 := Lib.hid hg3; clear hown' hg3 hnil3))
              go_roundg (n - (k + 1))
              case measure => omega
              case rel =>
                refine ⟨k + 1, by omega, by go_num, ?_, ?_⟩
                · rw [HS.out, List.length_append, rowC_append]
                  have := HO3.out
                  simpa [rowC] using this
                · exact ((HB.out.alloc HB.out.size _).alloc (by have := HB.out.size; simp; omega) _).grown HG3.out (by have := HB.out.size; simp; omega) (fun j hj => (HOW.out.lt j hj).1)
          · have HS := Lib.hid (HS.out.trans (by rw [if_neg (by rw [hkp]; simp), List.append_nil]))
            clear hkp
            rcases ways with ⟨y1, y2⟩ | ⟨y1, y2, rfl⟩
            all_goals
              go_wp2_with (first
                | (go_at_call 36; refine (HOV.out _ (HA2.out _)).mono ?_; rintro e w2 ⟨rfl, rfl⟩))
              go_roundg (n - (k + 1))
              case measure => omega
              case rel =>
                refine ⟨k + 1, by omega, by go_num, ?_, HB.out.alloc HB.out.size _⟩
                rw [HS.out]
                exact HOW.out.alloc _
        · obtain rfl : n = k := by omega
          have hlt2 : ¬ (n : Int) < n := by omega
          have fz := frozen_of_row _ _ 0 _ _ ((HB.out.block q hq).trans RQ.out)
          have ql : q < wr.heap.size := Nat.lt_of_lt_of_le hq HB.out.size
          have HEND := Lib.hid (qgone_end H.out HBB.out HB.out HOW.out)
          have hw := show IntKind.i64.wrap ((n : Int) - ((restTo T.caps id its n).length : Int)) = (n : Int) - ((restTo T.caps id its n).length : Int) from IntWalk.i64_in _ (by omega)
          clear hle
          go_wp2_with fail
          go_ret2
          exact ⟨rfl, HEND.out⟩
end
end Go.Proofs.Ytakgjakcbpdefaa
