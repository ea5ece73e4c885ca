/- A range over the capabilities that there are: what has been met, in whatever order; Made, May. -/
import Derived.Test.YtakgjakcbpdefaaCapC
namespace Go.Proofs.Ytakgjakcbpdefaa
open Go.RowKit
open Go.Maps (Keyed)

def keyL (id : Int) : Lit := .int .i64 id
theorem same_key (a b : Int) : (Lit.int .i64 a).sameKey (.int .i64 b) = (a == b) := by
  simp [Lit.sameKey]
  rfl
/-- What has been met of those that p picks. -/
def metC (S : List Cap) (left : Lit → Bool) (p : Cap → Bool) : List Cap := S.filter (fun d => !left (.int .i64 d.id) && p d)
theorem met_start (S : List Cap) (left : Lit → Bool) (p : Cap → Bool) (h : ∀ c ∈ S, left (.int .i64 c.id) = true) : metC S left p = [] := by
  unfold metC; rw [List.filter_eq_nil_iff]; intro c hc; simp [h c hc]
theorem met_end (S : List Cap) (left : Lit → Bool) (p : Cap → Bool) (h : ∀ kl, left kl = false) : metC S left p = S.filter p := by
  unfold metC; congr 1; funext d; simp [h]
theorem met_step (left : Lit → Bool) (p : Cap → Bool) (c : Cap) (hl : left (.int .i64 c.id) = true) : ∀ {S : List Cap}, S.Pairwise (fun c d => c.id < d.id) → c ∈ S →
    (metC S (fun z => left z && !z.sameKey (.int .i64 c.id)) p).Perm (metC S left p ++ (if p c then [c] else []))
  | [], _, h => by simp at h
  | a :: S, hp, h => by
    obtain ⟨h1, h2⟩ := List.pairwise_cons.1 hp
    have other : ∀ d, d.id ≠ c.id → (!(left (.int .i64 d.id) && !(Lit.int .i64 d.id).sameKey (.int .i64 c.id)) && p d) = (!left (.int .i64 d.id) && p d) := fun d hd => by
      have e : (d.id == c.id) = false := by simpa using hd
      rw [same_key, e]; simp
    have here : (!(left (.int .i64 c.id) && !(Lit.int .i64 c.id).sameKey (.int .i64 c.id)) && p c) = p c := by rw [same_key]; simp
    unfold metC at *
    rcases List.mem_cons.1 h with rfl | h'
    · have e : S.filter (fun d => !(left (.int .i64 d.id) && !(Lit.int .i64 d.id).sameKey (.int .i64 c.id)) && p d) = S.filter (fun d => !left (.int .i64 d.id) && p d) :=
        List.filter_congr fun d hd => other d (by have := h1 d hd; omega)
      have e2 : (!left (.int .i64 c.id) && p c) = false := by rw [hl]; rfl
      simp only [List.filter_cons]
      rw [e, here, e2]
      cases p c
      · simp
      · simpa using (List.perm_append_singleton c _).symm
    · have ne : a.id ≠ c.id := by have := h1 c h'; omega
      have ih := met_step left p c hl h2 h'
      unfold metC at ih
      simp only [List.filter_cons]
      rw [other a ne]
      split
      · exact ih.cons a
      · exact ih

/-- The range's step over the capabilities. -/
theorem wpList_next_caps (w : World) {ops : Array Oper} {rest : List Oper} {o : Oper} {a : Act} {Q : Exit → Act → World → Prop} (hg : o.guard = none) (it : Operand) (hop : o.op = Op.next it false)
    (b r n : Nat) (D : DataW Unit) (S : List Cap) (left : Lit → Bool) (cnt : Nat) (hit : a.eval it = .pointer (some ⟨r, 0, none⟩)) (h : w.ranges Try.prog 2 capE b r n D left cnt) (hS : MapIs D S)
    (hDone : (∀ kl, left kl = false) → wpList Try.prog ops Q rest (a.put o.dst (.tuple #[.bool false])) w)
    (hMore : ∀ (c : Cap) (w' : World) (cnt' : Nat), c ∈ S → left (.int .i64 c.id) = true → (Lit.int .i64 c.id).wf = true → w'.ranges Try.prog 2 capE b r n D (fun z => left z && !z.sameKey (.int .i64 c.id)) cnt' → cnt' < cnt →
      w.grownBy w' (some r) → w'.heap.size = w.heap.size → (Instr.entry (.pointer (some ⟨r, 0, none⟩))).run Try.prog w' = .ok (.tuple #[.int .i64 c.id, capV c]) w' → wpList Try.prog ops Q rest (a.put o.dst (.tuple #[.bool true, .int .i64 c.id, capV c])) w') :
    wpList Try.prog ops Q (o :: rest) a w := by
  refine wpList_next_ranges w hg it hop 2 Try.kid capE (Value.int .i64) capV (fun key kl hkey => by obtain ⟨x, rfl, _⟩ := Maps.keyOf_int_inv Try.underlying2 hkey; exact ⟨x, rfl⟩)
    (fun v y hv => by obtain ⟨c, rfl, _⟩ := capE_inv hv; exact ⟨c, rfl⟩) b r n D left cnt hit h (fun _ hl => hDone hl) ?_
  intro x c kl y w' cnt' hkey hlk hv hat hrg hlt hgr hsz hen
  obtain ⟨x', ex, rfl, hwx⟩ := Maps.keyOf_int_inv Try.underlying2 hkey
  cases ex
  have hy : y.1 = capD c := by rw [capE_mk] at hv; rw [← Option.some.inj hv]
  rw [hy] at hat
  have hhas := Maps.has_true_of_atKey hat
  rw [hS.1] at hhas
  cases hf : findC S x with
  | none => rw [hf] at hhas; cases hhas
  | some d =>
    obtain ⟨hm, hid⟩ := find_mem hf
    have := hS.2.1 x
    rw [hat, get_mem hf] at this
    have e := capD_inj this
    subst e hid
    exact hMore c w' cnt' hm hlk hwx hrg hlt hgr hsz hen

theorem met_le (S : List Cap) (left : Lit → Bool) (p : Cap → Bool) {n : Nat} (h : S.length ≤ n) : ((metC S left p).length : Int) ≤ n := by have := List.length_filter_le (fun d : Cap => !left (.int .i64 d.id) && p d) S; unfold metC; omega
theorem tab_ranges {w : World} {t b : Nat} {T : Tab} (h : TabAt w t b T) : ∃ D : DataW Unit, w.ownsMap Try.prog 2 capE b T.last D ∧ MapIs D T.caps := h.map
theorem met_all (S : List Cap) (D : DataW Unit) (hD : MapIs D S) (hs : S.Pairwise (fun c d => c.id < d.id)) : ∀ c ∈ S, Maps.has D (.int .i64 c.id) = true := fun c hc => by rw [hD.1, find_self hs hc]; rfl

set_option maxRecDepth 100000 in
set_option maxHeartbeats 2000000 in
theorem made_any {w : World} {t b : Nat} {T : Tab} (h : TabAt w t b T) (hb : T.last ≤ 1000) (a : Int) :
    Calls Try.prog 27 #[.pointer (some ⟨t, 0, none⟩), .int .i64 a] w fun e w' => e = .returned (.int .i64 (madeBy T.caps a : Nat)) ∧ Below w.heap.size w w' := by
  obtain ⟨D, hown, hD⟩ := h.map
  have HU := Lib.hid h.ok.up
  have HLEN := Lib.hid (show T.caps.length ≤ 1000 from Nat.le_trans h.ok.len hb)
  have HALL := Lib.hid (met_all T.caps D hD h.ok.up)
  have HD := Lib.hid hD
  have HOW := Lib.hid hown
  have H := Lib.hid h
  clear hD h hb hown
  go_enter Try.func27, Try.ntmps27
  go_wp2_with (first
    | (go_at_call 30; refine (there_any H.out).mono ?_; rintro e w' ⟨rfl, rfl⟩)
    | (at_range; refine wpList_range_own _ rfl _ 59 rfl 2 43 Try.kid Try.underlying59 capE b T.last D rfl HOW.out ?_; intro w0 hrg0 hg0 hs0))
  go_frame
  go_loopw [5] (fun v wr => ∃ (left : Lit → Bool) (cnt : Nat), v = .int .i64 ((metC T.caps left (fun c => c.maker == a)).length : Int) ∧ wr.ranges Try.prog 2 capE b w.heap.size T.last D left cnt ∧ Below w.heap.size w wr)
    (fun _ wr => wr.rangeLeft b w.heap.size)
  case atStart => exact ⟨_, _, by rw [met_start _ _ _ HALL.out]; rfl, hrg0, (Below.refl _ w).grown hg0 (Nat.le_refl _) (by simp)⟩
  case round =>
    obtain ⟨left, cnt, rfl, hrg, hbl⟩ := hrel
    have HRG := Lib.hid hrg
    have HBL := Lib.hid hbl
    clear hrg hbl
    go_wp2_with (first
      | (at_next; refine wpList_next_caps _ rfl _ rfl b w.heap.size T.last D T.caps left cnt rfl HRG.out HD.out ?_ ?_)
      | go_in)
    · intro hl0
      go_wp2_with fail
      go_ret
      refine ⟨?_, HBL.out⟩
      rw [met_end _ _ _ hl0]; rfl
    · intro c w1 cnt1 hmem hlx hwf hrg1 hlt hg1 hs1 hen
      have HM := Lib.hid hmem
      have HP := Lib.hid (met_step left (fun c => c.maker == a) c hlx HU.out hmem)
      have HRG1 := Lib.hid hrg1
      have HLT := Lib.hid hlt
      have HG := Lib.hid (HBL.out.grown hg1 HBL.out.size (by rintro k hk; cases hk; exact Nat.le_refl _))
      have HSZ := Lib.hid (show w.heap.size ≤ w1.heap.size by rw [hs1]; exact HBL.out.size)
      clear hmem hlx hwf hrg1 hlt hg1 hs1
      unfold capV at hen
      cases hm : c.maker == a
      · go_wp2_with fail
        go_roundw
        case rel =>
          refine ⟨_, cnt1, ?_, HRG1.out.alloc _, HG.out.alloc HSZ.out _⟩
          have hp := HP.out.length_eq
          rw [hm] at hp
          rw [hp]; simp
        case measure => rw [(HRG1.out.alloc _).left_eq, HRG.out.left_eq]; exact HLT.out
      · have hN := met_le T.caps left (fun c => c.maker == a) HLEN.out
        go_wp2_with fail
        go_roundw
        case rel =>
          refine ⟨_, cnt1, ?_, HRG1.out.alloc _, HG.out.alloc HSZ.out _⟩
          have hp := HP.out.length_eq
          rw [hm] at hp
          rw [hp, if_pos rfl, List.length_append, List.length_singleton]
          go_num
        case measure => rw [(HRG1.out.alloc _).left_eq, HRG.out.left_eq]; exact HLT.out
end Go.Proofs.Ytakgjakcbpdefaa
