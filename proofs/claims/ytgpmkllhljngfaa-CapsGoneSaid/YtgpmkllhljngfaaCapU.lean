/- CapsGone: the walk. -/
import Derived.Test.YtgpmkllhljngfaaCapS
namespace Go.Proofs.Ytgpmkllhljngfaa
open Go.RowKit Go.Sort
attribute [local go_sem] Oper.semAt_some

theorem range_capS {F : Fence} {n : Nat} {P : Program} {g : Operand} {ps : Array Tmp} {assign body : Code} {Q : Exit → Act → World → Prop} {a : Act} {w : World} (p slot : Tmp) (hps : ps = #[p])
    (hro : F.round = none) (h1 : 1 ≤ n) {gf : Nat} {lb : Array Value} (hg : a.eval g = .func (.func gf) #[] lb) (hFg : F.fn gf) (eg : ∀ args w, (callFunc gf args).run P w = .ok (.enter gf args) w)
    {S : List Cap} {I : Nat → World → Prop} {Ix : Code → World → Prop} (hseq : StepsCap F (n - 1) P gf lb S I)
    (hI : OwnFrom w.heap.size I) (hIx : ∀ c, OwnFrom w.heap.size (fun (_ : Unit) W => Ix c W)) (h0 : I 0 w)
    (hassign : ∀ (l k : Nat) (W : World) (K : Act → World → Prop), K { tmps := (a.tmps.setIfInBounds p (capV (atC S k))).setIfInBounds slot (.pointer (some ⟨W.heap.size, 0, none⟩)), defers := [] } (W.alloc (boxC (atC S k))) →
      assign.wpIn (F.inRound l) (n - 1 - 1) P (Exit.then K (fun _ _ _ => False)) { tmps := a.tmps.setIfInBounds p (capV (atC S k)), defers := [] } W)
    (hbody : ∀ (l k B : Nat) (W : World), k < S.length → w.heap.size ≤ B → W.heap[B]? = some (boxC (atC S k)) → I k W →
      body.wpIn (F.inRound l) (n - 1 - 1) P (RoundCap I Ix k W) { tmps := (a.tmps.setIfInBounds p (capV (atC S k))).setIfInBounds slot (.pointer (some ⟨B, 0, none⟩)), defers := [] } W)
    (hdone : ∀ (D : Nat) (W : World), w.heap.size ≤ D → I S.length W → W.heap[D]? = some (.deferred (some [])) → Q .normal { a with defers := { target := .collected D, args := #[] } :: a.defers } W)
    (hstop : ∀ (D : Nat) (c : Code) (W : World), w.heap.size ≤ D → Ix c W → W.heap[D]? = some (.deferred (some [])) → c.wpIn F n P Q { a with defers := { target := .collected D, args := #[] } :: a.defers } W) :
    (Code.rangeFunc g ps assign body).wpIn F n P Q a w := by
  subst hps
  exact range_cap hro h1 hg hFg eg hseq rfl hI hIx h0 (fun k B => { tmps := (a.tmps.setIfInBounds p (capV (atC S k))).setIfInBounds slot (.pointer (some ⟨B, 0, none⟩)), defers := [] }) (fun l k W K hK => by have h := hassign l k W K hK; simpa using h) hbody hdone hstop
theorem wpIn_meetQ {F : Fence} {n : Nat} {P : Program} {c : Code} {M : Act → World → Prop} {Q : Exit → Act → World → Prop} {a : Act} {w : World} (h : c.wpIn F n P (Exit.then M (fun _ _ _ => False)) a w) (hK : ∀ a w, M a w → Q .normal a w) : c.wpIn F n P Q a w :=
  wpIn_mono h (fun e a w hh => by cases e; exact hK _ _ hh; all_goals exact hh.elim)
/-- The frame at the head of the steps' loop. -/
def gF (A : Option Addr) (n c : Nat) (itself : Bool) (H V : Nat) (u : Nat → Value) (k : Nat) : Act := { tmps := #[.slice A n c, u 1, .bool itself, u 3, .pointer (some ⟨H, 0, none⟩), u 5, .pointer (some ⟨H + 1, 0, none⟩), .pointer (some ⟨V, 0, none⟩), .int .i64 k, u 9, u 10, u 11, u 12, u 13, u 14, u 15, u 16, u 17, u 18, u 19, u 20, u 21, u 22, u 23, u 24, u 25, u 26, u 27, u 28, u 29, u 30, u 31, u 32, u 33, u 34, u 35, u 36, u 37, u 38, u 39, u 40, u 41, u 42, u 43, u 44, u 45, u 46, u 47, u 48, u 49, u 50, u 51, u 52, u 53, u 54, u 55, u 56, u 57, u 58, u 59, u 60, u 61, u 62, u 63, u 64, u 65, u 66, u 67, u 68, u 69, u 70, u 71, u 72, u 73, u 74, u 75, u 76, u 77, u 78, u 79, u 80, u 81, u 82, u 83, u 84, u 85, u 86, u 87, u 88, u 89, u 90, u 91, u 92, u 93, u 94, u 95, u 96, u 97, u 98, u 99, u 100, u 101, u 102, u 103, u 104, u 105, u 106, u 107, u 108, u 109, u 110, u 111, u 112, u 113, u 114, u 115, u 116, u 117, u 118, u 119, u 120, u 121, u 122, u 123, u 124, u 125, u 126, u 127, u 128, u 129, u 130, u 131, u 132, u 133, u 134, u 135, u 136, u 137, u 138, u 139, u 140, u 141, u 142], defers := [] }
theorem gF_of {A : Option Addr} {n c : Nat} {itself : Bool} {H V k : Nat} (a : Act) (h : a = gF A n c itself H V (fun i => a.tmps.getD i undef) k) : ∃ u, a = gF A n c itself H V u k := ⟨_, h⟩
theorem ginv_of (A : Option Addr) (n c : Nat) (itself : Bool) (H V : Nat) {Rel : Nat → Prop} (a : Act) (k : Nat) (hr : Rel k) (h : a = gF A n c itself H V (fun i => a.tmps.getD i undef) k) : ∃ u k, Rel k ∧ a = gF A n c itself H V u k := ⟨_, k, hr, h⟩
/-- What stands at a round's head. -/
def GRel (w : World) (V t b : Nat) (id : Int) (k : Nat) (W : World) : Prop :=
  ∃ T, TabOwn w W t b T ∧ T.last ≤ k ∧ W.heap[w.heap.size]? = some (.cells #[.int .i64 id] 2 (0, 0)) ∧ W.heap[w.heap.size + 1]? = some (.cells #[.bool false] 4 (0, 0)) ∧ W.heap[V]? = some (.cells #[.pointer (some ⟨t, 0, none⟩)] 24 (0, 0))
theorem GRel.below {w W W' : World} {V t b k : Nat} {id : Int} (h : GRel w V t b id k W) (hb : Below W.heap.size W W') : GRel w V t b id k W' := by
  obtain ⟨T, h1, h2, h3, h4, h5⟩ := h
  exact ⟨T, h1.step hb, h2, (hb.block _ (Array.getElem?_eq_some_iff.1 h3).1).trans h3, (hb.block _ (Array.getElem?_eq_some_iff.1 h4).1).trans h4, (hb.block _ (Array.getElem?_eq_some_iff.1 h5).1).trans h5⟩
theorem GRel.turn {w W W' : World} {V t b k : Nat} {id : Int} {T T2 : Tab} (hT : TabOwn w W t b T) (h3 : W.heap[w.heap.size]? = some (.cells #[.int .i64 id] 2 (0, 0))) (h4 : W.heap[w.heap.size + 1]? = some (.cells #[.bool false] 4 (0, 0))) (h5 : W.heap[V]? = some (.cells #[.pointer (some ⟨t, 0, none⟩)] 24 (0, 0)))
    (h1 : TabAt W' t b T2) (hb : Turned t b W W') (hl : T2.last ≤ k) (ht : w.heap.size + 1 < t) (hbb : w.heap.size + 1 < b) (tV : t < V) (bV : b < V) : GRel w V t b id k W' :=
  ⟨T2, hT.one h1 hb, hl, (hb.block _ (Array.getElem?_eq_some_iff.1 h3).1 (by omega) (by omega)).trans h3, (hb.block _ (Array.getElem?_eq_some_iff.1 h4).1 (by omega) (by omega)).trans h4, (hb.block _ (Array.getElem?_eq_some_iff.1 h5).1 (by omega) (by omega)).trans h5⟩

def pickP (S : List Cap) (id : Int) (c : Cap) : Bool := overB S id c.id && (c.id != id)
/-- What stands at the head of a round that gathers what was derived. -/
def GoneI (w5 : World) (U : Nat) (S : List Cap) (id : Int) (j : Nat) (W : World) : Prop :=
  w5.grownBy W (some U) ∧ ∃ v, W.heap[U]? = some (.cells #[v] 48 (0, 0)) ∧ W.ownsRow w5.heap.size 2 1 v ((S.take j).filter (pickP S id)).length (((S.take j).filter (pickP S id)).map idV)
theorem owns_kept {W W' : World} {base : Nat} {e : TypeId} {size : Nat} {v : Value} {n : Nat} {xs : List Value} {row : Option Nat} (h : W.ownsRow base e size v n xs) (hg : W.grownBy W' row) (hr : ∀ r, row = some r → ∃ o : Obj, W.heap[r]? = some o ∧ o.isCells = false) : W'.ownsRow base e size v n xs := by
  obtain ⟨h1, h2 | ⟨g, cap, cur, h3, h4, h5, h6⟩⟩ := h
  · exact ⟨h1, .inl h2⟩
  · exact ⟨h1, .inr ⟨g, cap, cur, h3, h4, (grownBy_keeps_cells hg hr h5 rfl).trans h5, h6⟩⟩
theorem goneI_own (w5 : World) (U : Nat) (S : List Cap) (id : Int) : OwnFrom w5.heap.size (GoneI w5 U S id) := by
  rintro j W W' row ⟨h1, v, h2, h3⟩ hg hr
  have hr' : ∀ r, row = some r → ∃ o : Obj, W.heap[r]? = some o ∧ o.isCells = false := fun r e => (hr r e).2
  exact ⟨h1.andThen hg (fun j e => .inl (hr j e).1), v, (grownBy_keeps_cells hg hr' h2 rfl).trans h2, owns_kept h3 hg hr'⟩
theorem SeqIs.but {w5 W : World} {F U : Nat} {A : Option Addr} {cap : Nat} {S : List Cap} {x : Value} {ty : TypeId} (h : SeqIs w5 F A cap S) (hg : w5.grownBy W (some U)) (hU : w5.heap[U]? = some (.cells #[x] ty (0, 0))) (hF : F ≠ U) : SeqIs W F A cap S := by
  obtain ⟨h1, h2, h3⟩ := h
  refine ⟨Nat.lt_of_lt_of_le h1 hg.size, (World.cell?_of_block (a := ⟨F, 0, none⟩) (hg.block F h1 (fun e => hF (Option.some.inj e)))).trans h2, fun hS => ?_⟩
  obtain ⟨g, e, hl, cur, t, hr, hs, hc⟩ := h3 hS
  have hgU : g ≠ U := by
    rintro rfl
    rw [hU] at hr
    cases hr
    cases S with
    | nil => exact hS rfl
    | cons a S => simp at hs; omega
  exact ⟨g, e, Nat.lt_of_lt_of_le hl hg.size, cur, t, (hg.block g hl (fun e => hgU (Option.some.inj e))).trans hr, hs, hc⟩
theorem TabAt.but {w5 W : World} {t b U : Nat} {T : Tab} {x : Value} {ty : TypeId} (h : TabAt w5 t b T) (hg : w5.grownBy W (some U)) (hU : w5.heap[U]? = some (.cells #[x] ty (0, 0))) : TabAt W t b T := by
  refine h.keep (hg.block t h.ht (fun e => ?_)) (hg.block b h.hb (fun e => ?_))
  · obtain rfl := Option.some.inj e
    have := h.tab; rw [hU] at this; cases this
  · obtain rfl := Option.some.inj e
    obtain ⟨D, ⟨es, clock, h1, -⟩, -⟩ := h.map
    rw [hU] at h1; cases h1
theorem grown_below_none {W W' : World} (h : Below W.heap.size W W') : W.grownBy W' none := ⟨h.os, h.tape, h.output, h.size, fun k hk _ => h.block k hk⟩
theorem own_slice8 {w : World} {B : Nat} {e : TypeId} {k : Nat} {v : Value} {n : Nat} {xs : List Value} (h : w.ownsRow B e k v n xs) : ∃ a c, v = .slice a n c := by
  obtain ⟨-, ⟨rfl, rfl⟩ | ⟨g, cap, cur, rfl, -⟩⟩ := h
  · exact ⟨_, _, rfl⟩
  · exact ⟨_, _, rfl⟩
theorem own_cells {w : World} {B : Nat} {e : TypeId} {k : Nat} {v : Value} {n : Nat} {xs : List Value} (h : w.ownsRow B e k v n xs) {g : Nat} {o : Obj} (hv : v.ownBlock = some g) (ho : w.heap[g]? = some o) : o.isCells = true := by
  obtain ⟨-, ⟨rfl, -⟩ | ⟨g', cap, cur, rfl, -, hb, -⟩⟩ := h
  · cases hv
  · obtain rfl : g' = g := by simpa [Value.ownBlock] using hv
    rw [hb] at ho; cases ho; rfl
theorem pick_gone {T : Tab} (h : TabOk T) {id : Int} (hi : 1 ≤ id) : T.caps.filter (pickP T.caps id) = goneC T.caps id := by
  unfold goneC
  refine List.filter_congr fun c hc => ?_
  unfold pickP overB
  by_cases e : c.id = id
  · have : isUnder T.caps id c.id = false := by rw [e]; exact isUnder_self h.par hi
    rw [this]; simp [e]
  · have e1 : (c.id != id) = true := by simpa using e
    have e2 : (id == c.id) = false := by simpa using (fun h => e h.symm)
    rw [e1, e2]; simp
theorem take_pick (S : List Cap) (p : Cap → Bool) (j : Nat) (hj : j < S.length) : (S.take (j + 1)).filter p = (S.take j).filter p ++ (if p (atC S j) then [atC S j] else []) := by
  rw [List.take_add_one, List.getElem?_eq_getElem hj, List.filter_append]
  have e : atC S j = S[j] := by unfold atC; rw [List.getD_eq_getElem?_getD, List.getElem?_eq_getElem hj]; rfl
  rw [e]
  simp [List.filter_cons]
theorem both_mem {S : List Cap} (hS : S.Pairwise (fun c d => c.id < d.id)) {c d : Cap} (hc : c ∈ S) (hd : d ∈ S) : bothB S c.id d.id = true := by unfold bothB; rw [find_self hS hc, find_self hS hd]; rfl
/-- The frame at the head of the second loop. -/
def hF (itself : Bool) (H V U D : Nat) (m : Int) (u : Nat → Value) (k : Nat) : Act := { tmps := #[u 0, u 1, .bool itself, u 3, .pointer (some ⟨H, 0, none⟩), u 5, .pointer (some ⟨H + 1, 0, none⟩), .pointer (some ⟨V, 0, none⟩), u 8, u 9, u 10, .pointer (some ⟨U, 0, none⟩), u 12, u 13, u 14, u 15, .int .i64 m, .int .i64 0, .int .i64 k, u 19, u 20, u 21, u 22, u 23, u 24, u 25, u 26, u 27, u 28, u 29, u 30, u 31, u 32, u 33, u 34, u 35, u 36, u 37, u 38, u 39, u 40, u 41, u 42, u 43, u 44, u 45, u 46, u 47, u 48, u 49, u 50, u 51, u 52, u 53, u 54, u 55, u 56, u 57, u 58, u 59, u 60, u 61, u 62, u 63, u 64, u 65, u 66, u 67, u 68, u 69, u 70, u 71, u 72, u 73, u 74, u 75, u 76, u 77, u 78, u 79, u 80, u 81, u 82, u 83, u 84, u 85, u 86, u 87, u 88, u 89, u 90, u 91, u 92, u 93, u 94, u 95, u 96, u 97, u 98, u 99, u 100, u 101, u 102, u 103, u 104, u 105, u 106, u 107, u 108, u 109, u 110, u 111, u 112, u 113, u 114, u 115, u 116, u 117, u 118, u 119, u 120, u 121, u 122, u 123, u 124, u 125, u 126, u 127, u 128, u 129, u 130, u 131, u 132, u 133, u 134, u 135, u 136, u 137, u 138, u 139, u 140, u 141, u 142], defers := [{ target := .collected D, args := #[] }] }
theorem hinv_of (itself : Bool) (H V U D : Nat) (m : Int) {Rel : Nat → Prop} (a : Act) (k : Nat) (hr : Rel k) (h : a = hF itself H V U D m (fun i => a.tmps.getD i undef) k) : ∃ u k, Rel k ∧ a = hF itself H V U D m u k := ⟨_, k, hr, h⟩
theorem hF_of {itself : Bool} {H V U D : Nat} {m : Int} {k : Nat} (a : Act) (h : a = hF itself H V U D m (fun i => a.tmps.getD i undef) k) : ∃ u, a = hF itself H V U D m u k := ⟨_, h⟩
def h3F (itself : Bool) (H V U D : Nat) (m : Int) (u : Nat → Value) (k : Nat) : Act := { tmps := #[u 0, u 1, .bool itself, u 3, .pointer (some ⟨H, 0, none⟩), u 5, .pointer (some ⟨H + 1, 0, none⟩), .pointer (some ⟨V, 0, none⟩), u 8, u 9, u 10, .pointer (some ⟨U, 0, none⟩), u 12, u 13, u 14, u 15, .int .i64 m, .int .i64 0, .int .i64 k, u 19, .int .i64 6, u 21, u 22, u 23, u 24, u 25, u 26, u 27, u 28, u 29, u 30, u 31, u 32, u 33, u 34, u 35, u 36, u 37, u 38, u 39, u 40, u 41, u 42, u 43, u 44, u 45, u 46, u 47, u 48, u 49, u 50, u 51, u 52, u 53, u 54, u 55, u 56, u 57, u 58, u 59, u 60, u 61, u 62, u 63, u 64, u 65, u 66, u 67, u 68, u 69, u 70, u 71, u 72, u 73, u 74, u 75, u 76, u 77, u 78, u 79, u 80, u 81, u 82, u 83, u 84, u 85, u 86, u 87, u 88, u 89, u 90, u 91, u 92, u 93, u 94, u 95, u 96, u 97, u 98, u 99, u 100, u 101, u 102, u 103, u 104, u 105, u 106, u 107, u 108, u 109, u 110, u 111, u 112, u 113, u 114, u 115, u 116, u 117, u 118, u 119, u 120, u 121, u 122, u 123, u 124, u 125, u 126, u 127, u 128, u 129, u 130, u 131, u 132, u 133, u 134, u 135, u 136, u 137, u 138, u 139, u 140, u 141, u 142], defers := [{ target := .collected D, args := #[] }] }
theorem h3F_of {itself : Bool} {H V U D : Nat} {m : Int} {k : Nat} (a : Act) (h : a = h3F itself H V U D m (fun i => a.tmps.getD i undef) k) : ∃ u, a = h3F itself H V U D m u k := ⟨_, h⟩
/-- What stands at the second loop's head. -/
structure HRel (w : World) (t b V U D : Nat) (id : Int) (v : Value) (base : Nat) (T : Tab) (L : List Cap) (W : World) : Prop where
  own : TabOwn w W t b T
  i : W.heap[w.heap.size]? = some (.cells #[.int .i64 id] 2 (0, 0))
  r : W.heap[w.heap.size + 1]? = some (.cells #[.bool false] 4 (0, 0))
  var : W.heap[V]? = some (.cells #[.pointer (some ⟨t, 0, none⟩)] 24 (0, 0))
  u : W.heap[U]? = some (.cells #[v] 48 (0, 0))
  row : W.ownsRow base 2 1 v L.length (L.map idV)
  d : W.heap[D]? = some (.deferred (some []))
theorem HRel.below {w W W' : World} {t b V U D : Nat} {id : Int} {v : Value} {base : Nat} {T : Tab} {L : List Cap} (h : HRel w t b V U D id v base T L W) (hb : Below W.heap.size W W') : HRel w t b V U D id v base T L W' :=
  have k : ∀ {j : Nat} {o : Obj}, W.heap[j]? = some o → W'.heap[j]? = some o := fun hj => (hb.block _ (Array.getElem?_eq_some_iff.1 hj).1).trans hj
  ⟨h.own.step hb, k h.i, k h.r, k h.var, k h.u, owns_kept h.row (grown_below_none hb) (by simp), k h.d⟩
theorem HRel.turn {w W W' : World} {t b V U D : Nat} {id : Int} {v : Value} {base : Nat} {T T' : Tab} {L : List Cap} (h : HRel w t b V U D id v base T L W) (hT : TabAt W' t b T') (hb : Turned t b W W') (h1 : w.heap.size + 1 < t) (h2 : w.heap.size + 1 < b) (h3 : t < V) (h4 : b < V) (h5 : V < U) (h6 : U < base) (h7 : base ≤ D) :
    HRel w t b V U D id v base T' L W' := by
  have k : ∀ {j : Nat} {o : Obj}, W.heap[j]? = some o → j ≠ t → j ≠ b → W'.heap[j]? = some o := fun hj e1 e2 => (hb.block _ (Array.getElem?_eq_some_iff.1 hj).1 e1 e2).trans hj
  refine ⟨h.own.one hT hb, k h.i (by omega) (by omega), k h.r (by omega) (by omega), k h.var (by omega) (by omega), k h.u (by omega) (by omega), ?_, k h.d (by omega) (by omega)⟩
  obtain ⟨r1, r2 | ⟨g, cap, cur, r3, r4, r5, r6⟩⟩ := h.row
  · exact ⟨r1, .inl r2⟩
  · exact ⟨r1, .inr ⟨g, cap, cur, r3, r4, k r5 (by omega) (by omega), r6⟩⟩
theorem ids_cell {W : World} {base : Nat} {av : Option Addr} {cv : Nat} {L : List Cap} (h : W.ownsRow base 2 1 (.slice av L.length cv) L.length (L.map idV)) {i : Nat} (hi : i < L.length) : ∃ g, av = some ⟨g, 0, none⟩ ∧ W.cell? ⟨g, i, none⟩ = some (.int .i64 (idAt L i)) := by
  obtain ⟨r1, ⟨r2, r3⟩ | ⟨g, cap, cur, r3, r4, r5, r6, r7, r8, r9⟩⟩ := h
  · omega
  · cases r3
    refine ⟨g, rfl, ?_⟩
    rw [cell_of_row _ _ _ _ _ _ r5]
    have e : (cur.toList.take (L.length * 1))[i]? = some (.int .i64 (idAt L i)) := by
      rw [r9, List.getElem?_map, List.getElem?_eq_getElem hi]
      unfold idAt; rw [List.getD_eq_getElem?_getD, List.getElem?_eq_getElem hi]; rfl
    rw [List.getElem?_take_of_lt (by omega)] at e
    simpa using e
theorem pw2_own (w : World) : OwnFrom (w.heap.size + 2) (fun (_ : Unit) W => W.heap[w.heap.size + 1]? = some (.cells #[.bool true] 4 (0, 0)) ∧ Below w.heap.size w W) :=
  OwnFrom.and (fun _ W W' row hs hg hr => (hg.block _ (Array.getElem?_eq_some_iff.1 hs).1 (fun e => by have := (hr _ e.symm).1; omega)).trans hs) (ownFrom_below (Nat.le_refl _) (by omega))
theorem under_left {T : Tab} (h : TabOk T) (id : Int) : ∀ (n : Nat) (c : Cap), c ∈ leftC T.caps id → under (leftC T.caps id) id n c.id = false := by
  intro n
  induction n with
  | zero => intro c _; rfl
  | succ n ih =>
    intro c hc
    have hl := left_ok h id
    obtain ⟨hm, hu⟩ := List.mem_filter.1 hc
    have hu' : isUnder T.caps id c.id = false := by simpa using hu
    rw [under_child h hm] at hu'
    show ((getC (leftC T.caps id) c.id).parent == id || (!((getC (leftC T.caps id) c.id).parent == 0) && under (leftC T.caps id) id n (getC (leftC T.caps id) c.id).parent)) = false
    rw [get_self hl.up hc]
    rw [Bool.or_eq_false_iff] at hu' ⊢
    refine ⟨hu'.1, ?_⟩
    by_cases h0 : c.parent = 0
    · simp [h0]
    · obtain ⟨p, hp, e, -⟩ := (h.within c hm).resolve_left h0
      have h0' : (c.parent == 0) = false := by simpa using h0
      have h2 := hu'.2
      rw [h0'] at h2 ⊢
      simp only [Bool.not_false, Bool.true_and] at h2 ⊢
      rw [← e]
      exact ih p (List.mem_filter.2 ⟨hp, by rw [e, h2]; rfl⟩)
theorem gone_left {T : Tab} (h : TabOk T) (id : Int) : goneC (leftC T.caps id) id = [] := by
  unfold goneC
  rw [List.filter_eq_nil_iff]
  intro c hc
  have := under_left h id (c.id.toNat + 1) c hc
  unfold isUnder; rw [this]; simp
theorem find_filter_no {S : List Cap} {p : Cap → Bool} {id : Int} (h : ∀ c ∈ S, c.id = id → p c = false) : findC (S.filter p) id = none := find_none fun c hc e => by
  obtain ⟨h1, h2⟩ := List.mem_filter.1 hc
  rw [h c h1 e] at h2; cases h2
theorem acc_of {c : Cap} {n : Nat} (h : CapOk c n) : accB c.account = true := accB_iff.2 ⟨h.a0, h.a1⟩
theorem revoke_is {T : Tab} (h : TabOk T) {c : Cap} (hc : c ∈ T.caps) : revokeO T c.account c.id = ⟨⟨leftC T.caps c.id, T.last⟩, ((goneC T.caps c.id).length : Int), 0⟩ := by
  unfold revokeO; rw [if_pos (own_some (acc_of (h.ok c hc)) (find_self h.up hc) rfl)]
theorem self_left {T : Tab} (h : TabOk T) {c : Cap} (hc : c ∈ T.caps) : c ∈ leftC T.caps c.id := List.mem_filter.2 ⟨hc, by rw [isUnder_self h.par (h.ok c hc).i1]; rfl⟩
theorem drop_is {T : Tab} (h : TabOk T) {c : Cap} (hc : c ∈ T.caps) : dropO ⟨leftC T.caps c.id, T.last⟩ c.account c.id = ⟨⟨(leftC (leftC T.caps c.id) c.id).filter (fun d => !(d.id == c.id)), T.last⟩, 1, 0⟩ := by
  have hl := left_ok h c.id
  unfold dropO; rw [if_pos (own_some (acc_of (h.ok c hc)) (find_self hl.up (self_left h hc)) rfl), gone_left h]; rfl
theorem none_left {T : Tab} (h : TabOk T) (id : Int) {d : Cap} (hd : d ∈ goneC T.caps id) : findC (leftC T.caps id) d.id = none := find_filter_no fun c _ e => by
  rw [e, (List.mem_filter.1 hd).2]; rfl
theorem none_drop {T : Tab} (h : TabOk T) (id : Int) {d : Cap} (hd : d ∈ goneC T.caps id) : findC ((leftC (leftC T.caps id) id).filter (fun e => !(e.id == id))) d.id = none := find_none fun c hc e => by
  have h1 := (List.mem_filter.1 (List.mem_filter.1 hc).1).1
  exact (find_none_iff.1 (none_left h id hd)) c h1 e
theorem none_self (S : List Cap) (id : Int) : findC (S.filter (fun e => !(e.id == id))) id = none := find_filter_no fun c _ e => by simp [e]
set_option maxRecDepth 100000 in
set_option maxHeartbeats 40000000 in
theorem gone_in {w : World} (A : Option Addr) (n c : Nat) (R : Nat → StepS) (id : Int) (itself : Bool) (hA : StepsOf w A n R) (hR : ∀ i, i < n → (R i).fits) (hn : n ≤ 60) (hid : (Lit.int .i64 id).wf = true) :
    CallsIn Fence.wide 8 Try.prog 6 #[.slice A n c, .int .i64 id, .bool itself] w fun e w' => e = .returned (.bool true) ∧ Below w.heap.size w w' := by
  have hn' : (n : Int) ≤ 60 := by omega
  have hn2 : ¬ (60 : Int) < n := by omega
  have HA := Lib.hid hA
  have HR := Lib.hid hR
  have HN := Lib.hid hn
  have HID := Lib.hid hid
  clear hA hR hn hid
  refine callsIn_of_wp_marks Try.func6 rfl trivial ?_ rfl
  simp only [Try.ntmps6, List.size_toArray, List.length_cons, List.length_nil, Nat.reduceAdd, Nat.reduceSub, Array.replicate_succ, Array.replicate_zero, List.push_toArray, List.append_toArray, List.nil_append, List.cons_append]
  gi_wp2_with fail
  refine ⟨trivial, ?_⟩
  gi_at_call 10
  refine (callsIn_wide.2 (new_two _)).mono ?_
  rintro e w0 ⟨t, b, rfl, h0, hbl, ht, hb⟩
  simp only [World.size_alloc] at ht hb hbl
  have hwt : w.heap.size + 1 < t := by omega
  have hwb : w.heap.size + 1 < b := by omega
  have htV := h0.ht
  have hbV := h0.hb
  have REL := Lib.hid (show GRel w w0.heap.size t b id 0 (w0.alloc (.cells #[.pointer (some ⟨t, 0, none⟩)] 24)) from
    ⟨_, ⟨h0.step ((Below.refl _ _).alloc (Nat.le_refl _) _), ((((Below.refl _ w).alloc (Nat.le_refl _) _).alloc (by simp) _).trans (hbl.mono (by omega))).alloc (by have := hbl.size; simp at this; omega) _, by omega, by omega⟩, Nat.le_refl _,
      (Below.heap_alloc _ _ _ (by have := hbl.size; simp at this; omega)).trans ((hbl.block w.heap.size (by omega)).trans ((Below.heap_alloc _ _ _ (by simp)).trans (heap_alloc_new w _))),
      (Below.heap_alloc _ _ _ (by have := hbl.size; simp at this; omega)).trans ((hbl.block (w.heap.size + 1) (by omega)).trans (heap_at _ _ _ (by simp))), heap_alloc_new w0 _⟩)
  clear h0 hbl ht hb
  gi_wp2_with fail
  generalize hV : w0.heap.size = V at *
  generalize hW0 : w0.alloc (.cells #[.pointer (some ⟨t, 0, none⟩)] 24) = W0 at *
  clear hV hW0
  refine wpIn_loop (fun a' W => ∃ u k, (k ≤ n ∧ GRel w V t b id k W) ∧ a' = gF A n c itself w.heap.size V u k) (fun a' _ => n - (intOf (a'.tmps.getD 8 undef)).toNat) ?_ ?_
  · exact ginv_of A n c itself w.heap.size V _ 0 ⟨Nat.zero_le _, REL.out⟩ rfl
  clear REL
  rintro a' W ⟨u, k, ⟨hk, hrel⟩, rfl⟩
  unfold gF
  have HREL := Lib.hid hrel
  obtain ⟨T, hT, hTk, hi, hr, hvar⟩ := hrel
  have HT := Lib.hid hT
  by_cases hlt : k < n
  · have hlt' : (k : Int) < n := by omega
    obtain ⟨ba, oa, rfl, s0, s1, s2, s3, s4, s5, s6⟩ := steps_cell HA.out HT.out.below hlt
    have cV : W.cell? ⟨V, 0, none⟩ = some (.pointer (some ⟨t, 0, none⟩)) := by rw [cell_of_row _ _ _ _ _ _ hvar]; rfl
    have ONE := Lib.hid (one_any (HT.out.tab.step (Below.refl _ W).drew) (by have := HN.out; omega) (R k) (HR.out k hlt))
    have LAST := Lib.hid (oneO_last HT.out.tab.ok (R k) (HR.out k hlt))
    have NEXT := Lib.hid (fun w2 T2 h1 hb hl => GRel.turn (W' := w2) (T2 := T2) (k := k + 1) hT hi hr hvar h1 hb hl hwt hwb htV hbV)
    have HTK := Lib.hid hTk
    clear hT hi hr hvar hTk
    obtain ⟨s, hs⟩ : ∃ s, s = R k := ⟨_, rfl⟩
    rw [← hs] at ONE LAST s0 s1 s2 s3 s4 s5 s6
    clear hs
    unfold stepV at ONE
    gi_wp2_with fail
    refine wpIn_meetQ (M := fun a' W2 => (∃ u, a' = gF (some ⟨ba, oa, none⟩) n c itself w.heap.size V u k) ∧ GRel w V t b id (k + 1) W2) ?_ ?_
    · gi_region_with (refine ⟨trivial, ?_⟩; gi_at_call 17; refine (callsIn_wide.2 ONE.out).mono ?_; rintro e w2 ⟨rfl, h1, hb1⟩; have R2 := Lib.hid (NEXT.out w2 _ h1 ((Turned.of_below (Below.refl _ W).drew).trans hb1) (by have := LAST.out; have := HTK.out; omega)); clear h1 hb1)
      all_goals exact ⟨gF_of _ rfl, R2.out⟩
    clear ONE LAST NEXT HTK HT HREL cV s0 s1 s2 s3 s4 s5 s6
    rintro a' W2 ⟨⟨u2, rfl⟩, hrel⟩
    have HREL := Lib.hid hrel
    clear hrel
    unfold gF
    gi_wp2_with fail
    refine ⟨ginv_of (some ⟨ba, oa, none⟩) n c itself w.heap.size V _ (k + 1) ⟨hlt, HREL.out⟩ rfl, ?_⟩
    simp [intOf]; omega
  · have hge : ¬ (k : Int) < n := by omega
    have HLEN := Lib.hid (show T.caps.length ≤ 1000 by have := HT.out.tab.ok.len; have := HN.out; omega)
    have HTK := Lib.hid hTk
    have cV : W.cell? ⟨V, 0, none⟩ = some (.pointer (some ⟨t, 0, none⟩)) := by rw [cell_of_row _ _ _ _ _ _ hvar]; rfl
    have cI : W.cell? ⟨w.heap.size, 0, none⟩ = some (.int .i64 id) := by rw [cell_of_row _ _ _ _ _ _ hi]; rfl
    have HI := Lib.hid hi
    have HRES := Lib.hid hr
    have HVAR := Lib.hid hvar
    clear hT hTk hi hr hvar
    cases hf : findC T.caps id with
    | none =>
      have HOF := Lib.hid (of_any HT.out.tab id HID.out nilC false (get_none hf) (by rw [hf]; rfl) (fun _ => rfl))
      gi_wp2_with fail
      refine ⟨trivial, ?_⟩
      refine (callsIn_wide.2 HOF.out).mono ?_
      rintro e w3 ⟨rfl, hb3⟩
      have B3 := Lib.hid hb3
      clear HOF hb3 cV cI hf
      unfold capV nilC
      gi_wp2_with fail
      refine ⟨trivial, ?_⟩
      refine (callsIn_wide.2 (known_any _)).mono ?_
      rintro e w4 ⟨rfl, hb4⟩
      have B4 := Lib.hid ((B3.out.alloc B3.out.size (boxC nilC)).trans (hb4.mono (by have := B3.out.size; simp; omega)))
      have r4 := (B4.out.block _ (Array.getElem?_eq_some_iff.1 HRES.out).1).trans HRES.out
      have R4 := Lib.hid r4
      have c4 : w4.cell? ⟨w.heap.size + 1, 0, none⟩ = some (.bool false) := by rw [cell_of_row _ _ _ _ _ _ r4]; rfl
      have f4 : w4.frozen? ⟨w.heap.size + 1, 0, none⟩ = false := by simp [World.frozen?, r4]
      clear hb4 r4
      gi_wp2_with fail
      refine ⟨.bool true, ?_, rfl, (HT.out.below.trans (B4.out.mono HT.out.below.size)).setCell (Nat.le_succ _) _⟩
      have hc : (w4.setCell ⟨w.heap.size + 1, 0, none⟩ (.bool true)).cell? ⟨w.heap.size + 1, 0, none⟩ = some (.bool true) := by rw [cell_of_row _ _ _ _ _ _ (one_setCell R4.out)]; rfl
      simp [results, Try.f6, go_sem, hc]
    | some cc =>
      obtain ⟨hcm, rfl⟩ := find_mem hf
      have HCM := Lib.hid hcm
      have HOF := Lib.hid (of_any HT.out.tab cc.id HID.out cc true (get_mem hf) (by rw [hf]; rfl) (fun e => by cases e))
      gi_wp2_with fail
      refine ⟨trivial, ?_⟩
      refine (callsIn_wide.2 HOF.out).mono ?_
      rintro e w3 ⟨rfl, hb3⟩
      have hb4 := (hb3.alloc hb3.size (boxC cc)).alloc (by have := hb3.size; simp; omega) (.cells #[.slice none 0 0] 48)
      have HALL := Lib.hid (all_any (HT.out.tab.step hb4) (by have := HTK.out; have := HN.out; omega) (-1))
      have B4 := Lib.hid hb4
      have B3 := Lib.hid hb3
      have cV4 : ((w3.alloc (boxC cc)).alloc (.cells #[.slice none 0 0] 48)).cell? ⟨V, 0, none⟩ = some (.pointer (some ⟨t, 0, none⟩)) := (hb4.cell (p := ⟨V, 0, none⟩) (World.block_lt_of_cell? W _ cV)).trans cV
      have cV3 : w3.cell? ⟨V, 0, none⟩ = some (.pointer (some ⟨t, 0, none⟩)) := (hb3.cell (p := ⟨V, 0, none⟩) (World.block_lt_of_cell? W _ cV)).trans cV
      have ltV3 : V < w3.heap.size := World.block_lt_of_cell? w3 _ cV3
      clear HOF hb3 hb4 cV cI hf hcm cV4
      unfold capV
      unfold boxC at HALL B4
      gi_wp2_with fail
      refine ⟨trivial, ?_⟩
      refine (callsIn_wide.2 HALL.out).mono ?_
      rintro e w5 ⟨F, rfl, hseq, hb5, hFg⟩
      rw [all_minus] at hseq
      obtain ⟨A5, cap, hs⟩ := hseq.is
      have HS := Lib.hid hs
      have B5 := Lib.hid (B4.out.trans (hb5.mono B4.out.size))
      have T5 := Lib.hid (HT.out.step B5.out)
      have rU := (hb5.block (w3.heap.size + 1) (by simp)).trans (heap_at (w3.alloc (.cells #[.int .i64 cc.id, .int .i64 cc.parent, .int .i64 cc.account, .int .i64 cc.maker, .int .i64 cc.kind, .int .i64 cc.object, .int .i64 cc.rights] 43)) (.cells #[.slice none 0 0] 48) (w3.heap.size + 1) (by simp))
      have rC := (hb5.block w3.heap.size (by simp; omega)).trans ((Below.heap_alloc _ (.cells #[.slice none 0 0] 48) _ (by simp)).trans (heap_alloc_new w3 (.cells #[.int .i64 cc.id, .int .i64 cc.parent, .int .i64 cc.account, .int .i64 cc.maker, .int .i64 cc.kind, .int .i64 cc.object, .int .i64 cc.rights] 43)))
      have cV5 : w5.cell? ⟨V, 0, none⟩ = some (.pointer (some ⟨t, 0, none⟩)) := (B5.out.cell (p := ⟨V, 0, none⟩) (Array.getElem?_eq_some_iff.1 HVAR.out).1).trans (by rw [cell_of_row _ _ _ _ _ _ HVAR.out]; rfl)
      have cI5 : w5.cell? ⟨w.heap.size, 0, none⟩ = some (.int .i64 cc.id) := (B5.out.cell (p := ⟨w.heap.size, 0, none⟩) (Array.getElem?_eq_some_iff.1 HI.out).1).trans (by rw [cell_of_row _ _ _ _ _ _ HI.out]; rfl)
      have RU := Lib.hid rU
      have RC := Lib.hid rC
      have CV5 := Lib.hid cV5
      have CI5 := Lib.hid cI5
      have hFU : F ≠ w3.heap.size + 1 := by simp at hFg; omega
      have ltU : w3.heap.size + 1 < w5.heap.size := (Array.getElem?_eq_some_iff.1 rU).1
      have hVU : V ≠ w3.heap.size + 1 := by omega
      have hIU : w.heap.size ≠ w3.heap.size + 1 := by have := HT.out.below.size; have := B3.out.size; omega
      obtain ⟨i0, hi, hz0, hz1, hz2⟩ := info_parts Try.infoId
      clear hseq hs hb5 HALL hFg rU rC cV5 cI5 cV3
      have q := eql_seq
      unfold seqV
      gi_wp2_with fail
      refine range_capS 58 13 rfl rfl (by omega) (gf := 58) (lb := #[.pointer (some ⟨F, 0, none⟩)]) (S := T.caps) (I := GoneI w5 (w3.heap.size + 1) T.caps cc.id) (Ix := fun _ _ => False) rfl trivial (enters_of Try.func58 (by kernel_rfl) rfl)
        (values_steps 7 (by omega) F A5 cap T.caps HLEN.out _ (fun k W hI => HS.out.but hI.1 RU.out hFU)) (goneI_own w5 _ _ _) (fun c => fun _ _ _ _ h _ _ => h)
        ⟨World.grownBy.refl w5 _, .slice none 0 0, RU.out, rfl, .inl ⟨rfl, rfl⟩⟩
        ?assign ?body ?done ?stop
      case assign =>
        intro l j W K hK
        unfold boxC capV at *
        dsimp only at hK ⊢
        go_frame
        gi_wp2
        exact hK
      case body =>
        rintro l j B W6 hj hB hbox ⟨hg, v, hu, hown⟩
        have HG := Lib.hid hg
        have HOWN := Lib.hid hown
        have HU6 := Lib.hid hu
        have HM := Lib.hid (atC_mem hj)
        obtain ⟨⟨c0, -, -, -, -, -, -⟩, -, hltB⟩ := seven_of hbox
        have T6 := Lib.hid (T5.out.tab.but hg RU.out)
        have hwfx : (Lit.int .i64 (atC T.caps j).id).wf = true := by
          have h1 := (HT.out.tab.ok.ok _ (atC_mem hj)).i1
          have h2 := (HT.out.tab.ok.ok _ (atC_mem hj)).i2
          have := HTK.out
          have := HN.out
          exact wf_small (by omega) (by omega)
        have HOV := over_any T6.out cc.id (atC T.caps j).id HID.out hwfx
        rw [both_mem HT.out.tab.ok.up HCM.out (atC_mem hj)] at HOV
        simp only [Bool.true_and, if_pos] at HOV
        have HOV := Lib.hid HOV
        have cV6 : W6.cell? ⟨V, 0, none⟩ = some (.pointer (some ⟨t, 0, none⟩)) := (World.cell?_of_block (a := ⟨V, 0, none⟩) (hg.block V (World.block_lt_of_cell? w5 _ CV5.out) (fun e => hVU (Option.some.inj e)))).trans CV5.out
        have cI6 : W6.cell? ⟨w.heap.size, 0, none⟩ = some (.int .i64 cc.id) := (World.cell?_of_block (a := ⟨w.heap.size, 0, none⟩) (hg.block w.heap.size (World.block_lt_of_cell? w5 _ CI5.out) (fun e => hIU (Option.some.inj e)))).trans CI5.out
        have TAKE := Lib.hid (take_pick T.caps (pickP T.caps cc.id) j hj)
        have hBU : B ≠ w3.heap.size + 1 := by omega
        have hltU : w3.heap.size + 1 < W6.heap.size := Nat.lt_of_lt_of_le ltU hg.size
        clear hg hown hu hbox hj hwfx
        unfold capV
        dsimp only
        go_frame
        generalize atC T.caps j = x at c0 HOV HM TAKE ⊢
        have HPX := Lib.hid (show pickP T.caps cc.id x = (overB T.caps cc.id x.id && (x.id != cc.id)) from rfl)
        generalize overB T.caps cc.id x.id = is at HOV HPX
        have HLL := Lib.hid (show ((T.caps.take j).filter (pickP T.caps cc.id)).length ≤ 1000 from Nat.le_trans (List.length_filter_le _ _) (by have := List.length_take_le j T.caps; have := HLEN.out; simp; omega))
        generalize (T.caps.take j).filter (pickP T.caps cc.id) = L at TAKE HOWN HLL
        gi_wp2_with fail
        refine ⟨trivial, ?_⟩
        refine (CallsIn.inRound l (callsIn_wide.2 HOV.out)).mono ?_
        rintro e w7 ⟨rfl, hb7⟩
        have hg7 := grown_below_none hb7
        have HG7 := Lib.hid (HG.out.andThen hg7 (by simp))
        have HOWN7 := Lib.hid (owns_kept HOWN.out hg7 (by simp))
        have rU7 := (hb7.block _ hltU).trans HU6.out
        have RU7 := Lib.hid rU7
        have B7 := Lib.hid hb7
        have c07 := (hb7.cell (p := ⟨B, 0, none⟩) hltB).trans c0
        have cU7 : w7.cell? ⟨w3.heap.size + 1, 0, none⟩ = some v := by rw [cell_of_row _ _ _ _ _ _ rU7]; rfl
        have cI7 := (hb7.cell (p := ⟨w.heap.size, 0, none⟩) (World.block_lt_of_cell? W6 _ cI6)).trans cI6
        clear hg7 rU7 hb7 HOV c0 cV6 cI6
        have NO := Lib.hid (fun (hp : pickP T.caps cc.id x = false) => (show KeepsOthers W6 w7 ∧ GoneI w5 (w3.heap.size + 1) T.caps cc.id (j + 1) w7 from
          ⟨keeps_below B7.out, HG7.out, v, RU7.out, by rw [TAKE.out, hp]; simpa using HOWN7.out⟩))
        cases is
        · gi_wp2_with fail
          exact NO.out (by rw [HPX.out]; rfl)
        · cases hne : x.id != cc.id
          · gi_wp2_with fail
            exact NO.out (by rw [HPX.out, hne]; rfl)
          · clear NO
            gi_wp2_with (gi_at_builtin; refine wpListIn_append_own _ rfl _ _ 48 rfl w5.heap.size 2 i0 (.int .i64 0) 1 8 Try.underlying48 hi hz0 hz1 hz2 rfl (by decide) _ _ _ rfl (HOWN7.out.alloc _) ⟨w7.heap.size, 0, none⟩ 1 1 [idV x] rfl rfl (cell_one_new _ _ _) (by simp [Value.oneCell', idV]) (by have := HLL.out; unfold maxLen; omega) (by have := HLL.out; omega) (by have := HG7.out.size; simp; omega) ?_; intro v' w8 hown8 hg8 _; obtain ⟨a8, c8, rfl⟩ := own_slice8 hown8; have r8 := (hg8.block (w3.heap.size + 1) (by rw [World.size_alloc]; have := (Array.getElem?_eq_some_iff.1 RU7.out).1; omega) (row_ne_low (HOWN7.out.alloc (.cells #[.int .i64 x.id] 2)) ltU)).trans ((Below.heap_alloc w7 (.cells #[.int .i64 x.id] 2) _ (Array.getElem?_eq_some_iff.1 RU7.out).1).trans RU7.out); have cU8 : w8.cell? ⟨w3.heap.size + 1, 0, none⟩ = some v := (by rw [cell_of_row _ _ _ _ _ _ r8]; rfl); have fU8 : w8.frozen? ⟨w3.heap.size + 1, 0, none⟩ = false := (by simp [World.frozen?, r8]); have R8 := Lib.hid r8; clear r8)
            have hgA : w7.grownBy w8 v.ownBlock := (World.grownBy_alloc w7 _ _).trans hg8
            have hbv : ∀ g, v.ownBlock = some g → w5.heap.size ≤ g := fun g hgv => (HOWN7.out.lt g hgv).1
            refine ⟨((keeps_below B7.out).trans (KeepsOthers.of_grownBy hgA (fun g o hgv ho => own_cells HOWN7.out hgv ho))).trans (KeepsOthers.setCell _ _ _), ?_, .slice a8 (L.length + 1) c8, one_setCell R8.out, ?_⟩
            · exact (HG7.out.andThen hgA (fun g hgv => .inl (hbv g hgv))).andThen (grownBy_setCell' w8 _ _) (fun g hgv => .inr hgv)
            · have h9 : L ++ [x] = (T.caps.take (j + 1)).filter (pickP T.caps cc.id) := by rw [TAKE.out, HPX.out, hne]; rfl
              rw [← h9, List.length_append, List.map_append]
              exact hown8.kept (grownBy_setCell' w8 _ _) (.inr (row_ne_low hown8 ltU).symm)
      case done =>
        rintro D W6 hD ⟨hg, v, hu, hown⟩ hK
        rw [List.take_length, pick_gone HT.out.tab.ok (HT.out.tab.ok.ok cc HCM.out).i1] at hown
        have T6 := T5.out.tab.but hg RU.out
        have keep : ∀ {j : Nat} {o : Obj}, w5.heap[j]? = some o → j ≠ w3.heap.size + 1 → W6.heap[j]? = some o := fun hj hne => (hg.block _ (Array.getElem?_eq_some_iff.1 hj).1 (fun e => hne (Option.some.inj e))).trans hj
        have k5 : ∀ {j : Nat} {o : Obj}, W.heap[j]? = some o → w5.heap[j]? = some o := fun hj => (B5.out.block _ (Array.getElem?_eq_some_iff.1 hj).1).trans hj
        have hsz := HT.out.below.size
        have hsz3 := B3.out.size
        have REL6 := Lib.hid (show HRel w t b V (w3.heap.size + 1) D cc.id v w5.heap.size T (goneC T.caps cc.id) W6 from
          ⟨⟨T6, (HT.out.below.trans (B5.out.mono hsz)).trans ⟨hg.os, hg.tape, hg.output, hg.size, fun k hk => hg.block k (by have := B5.out.size; omega) (fun e => by have := Option.some.inj e; omega)⟩, HT.out.ht, HT.out.hb⟩,
            keep (k5 HI.out) hIU, keep (k5 HRES.out) (by omega), keep (k5 HVAR.out) hVU, hu, hown, hK⟩)
        have cA6 : W6.cell? ⟨w3.heap.size, 2, none⟩ = some (.int .i64 cc.account) := by rw [cell_of_row _ _ _ _ _ _ (keep RC.out (by omega))]; rfl
        have rC6 := Lib.hid (keep RC.out (by omega))
        have cV6 : W6.cell? ⟨V, 0, none⟩ = some (.pointer (some ⟨t, 0, none⟩)) := by rw [cell_of_row _ _ _ _ _ _ REL6.out.var]; rfl
        have cI6 : W6.cell? ⟨w.heap.size, 0, none⟩ = some (.int .i64 cc.id) := by rw [cell_of_row _ _ _ _ _ _ REL6.out.i]; rfl
        have HREV := Revoke_any T6 (by have := HTK.out; have := HN.out; omega) cc.account cc.id HID.out
        rw [revoke_is HT.out.tab.ok HCM.out] at HREV
        have HREV := Lib.hid HREV
        have OKT := Lib.hid HT.out.tab.ok
        have hwt6 : w.heap.size + 1 < t := hwt
        have hC9t : w3.heap.size ≠ t ∧ w3.heap.size ≠ b := by omega
        have hUt : w3.heap.size + 1 ≠ t ∧ w3.heap.size + 1 ≠ b := by omega
        clear hg hu hown hK T6 keep k5
        gi_wp2_with fail
        refine ⟨trivial, ?_⟩
        refine (callsIn_wide.2 HREV.out).mono ?_
        rintro e W7 ⟨rfl, hT7, hb7⟩
        have hVU' : V < w3.heap.size + 1 := by omega
        have R7 := REL6.out.turn hT7 hb7 hwt hwb htV hbV hVU' ltU hD
        have REL7 := Lib.hid R7
        have HLG := Lib.hid (show (goneC T.caps cc.id).length ≤ 1000 from Nat.le_trans (List.length_filter_le _ _) HLEN.out)
        have hNL : ((goneC T.caps cc.id).length : Int) ≤ 1000 := by have := HLG.out; omega
        have rC7 := (hb7.block w3.heap.size (Array.getElem?_eq_some_iff.1 rC6.out).1 hC9t.1 hC9t.2).trans rC6.out
        have cA7 : W7.cell? ⟨w3.heap.size, 2, none⟩ = some (.int .i64 cc.account) := by rw [cell_of_row _ _ _ _ _ _ rC7]; rfl
        have cV7 : W7.cell? ⟨V, 0, none⟩ = some (.pointer (some ⟨t, 0, none⟩)) := by rw [cell_of_row _ _ _ _ _ _ R7.var]; rfl
        have cI7 : W7.cell? ⟨w.heap.size, 0, none⟩ = some (.int .i64 cc.id) := by rw [cell_of_row _ _ _ _ _ _ R7.i]; rfl
        clear hT7 hb7 R7 cA6 cV6 cI6 HREV REL6 rC6 rC7 HREL B4 HS T5 RU RC CV5 CI5
        dsimp only
        generalize hLL : goneC T.caps cc.id = L at REL7 HLG hNL ⊢
        have HLL := Lib.hid hLL
        clear hLL
        cases itself with
        | false =>
          obtain ⟨av, cv, rfl⟩ := own_slice8 REL7.out.row
          gi_wp2_with fail
          have NOND := Lib.hid (show ∀ d ∈ L, findC (leftC T.caps cc.id) d.id = none from fun d hd => none_left OKT.out cc.id (by rw [HLL.out]; exact hd))
          have MEM := Lib.hid (show ∀ d ∈ L, d ∈ T.caps from fun d hd => by rw [← HLL.out] at hd; exact (List.mem_filter.1 hd).1)
          refine wpIn_loop (fun a' W => ∃ u k, (k ≤ L.length ∧ HRel w t b V (w3.heap.size + 1) D cc.id (.slice av L.length cv) w5.heap.size ⟨leftC T.caps cc.id, T.last⟩ L W) ∧ a' = hF false w.heap.size V (w3.heap.size + 1) D (L.length : Int) u k) (fun a' _ => L.length - (intOf (a'.tmps.getD 18 undef)).toNat) ?_ ?_
          · exact hinv_of false w.heap.size V (w3.heap.size + 1) D (L.length : Int) _ 0 ⟨Nat.zero_le _, REL7.out⟩ rfl
          clear REL7 cA7 cV7 cI7
          rintro a' Wr ⟨u9, i, ⟨hi9, hrel⟩, rfl⟩
          unfold hF
          have HREL := Lib.hid hrel
          have cU9 : Wr.cell? ⟨w3.heap.size + 1, 0, none⟩ = some (.slice av L.length cv) := by rw [cell_of_row _ _ _ _ _ _ hrel.u]; rfl
          have cV9 : Wr.cell? ⟨V, 0, none⟩ = some (.pointer (some ⟨t, 0, none⟩)) := by rw [cell_of_row _ _ _ _ _ _ hrel.var]; rfl
          have cI9 : Wr.cell? ⟨w.heap.size, 0, none⟩ = some (.int .i64 cc.id) := by rw [cell_of_row _ _ _ _ _ _ hrel.i]; rfl
          clear hrel
          by_cases hlt9 : i < L.length
          · have hlt9' : (i : Int) < L.length := by omega
            obtain ⟨gv, rfl, ck⟩ := ids_cell HREL.out.row hlt9
            have hgl : gv < Wr.heap.size := World.block_lt_of_cell? Wr _ ck
            have hVl : V < Wr.heap.size := World.block_lt_of_cell? Wr _ cV9
            have hUl : w3.heap.size + 1 < Wr.heap.size := World.block_lt_of_cell? Wr _ cU9
            have hOF := fun W' (hb : Below Wr.heap.size Wr W') => of_any (HREL.out.own.tab.step hb) (idAt L i) (by
              have hm := MEM.out _ (List.getElem_mem hlt9)
              have e : idAt L i = (L[i]).id := by unfold idAt; rw [List.getD_eq_getElem?_getD, List.getElem?_eq_getElem hlt9]; rfl
              have h1 := (OKT.out.ok _ hm).i1
              have h2 := (OKT.out.ok _ hm).i2
              have := HTK.out
              have := HN.out
              rw [e]; exact wf_small (by omega) (by omega)) nilC false (by
              have e : idAt L i = (L[i]).id := by unfold idAt; rw [List.getD_eq_getElem?_getD, List.getElem?_eq_getElem hlt9]; rfl
              rw [e]; exact get_none (NOND.out _ (List.getElem_mem hlt9))) (by
              have e : idAt L i = (L[i]).id := by unfold idAt; rw [List.getD_eq_getElem?_getD, List.getElem?_eq_getElem hlt9]; rfl
              rw [e, NOND.out _ (List.getElem_mem hlt9)]; rfl) (fun _ => rfl)
            have HOF := fun W' (hb : Below Wr.heap.size Wr W') => Lib.hid (hOF W' hb)
            clear hOF
            unfold capV nilC at HOF
            gi_wp2_with fail
            refine wpIn_meetQ (M := fun a' W2 => (∃ u, a' = h3F false w.heap.size V (w3.heap.size + 1) D (L.length : Int) u i) ∧ HRel w t b V (w3.heap.size + 1) D cc.id (.slice (some ⟨gv, 0, none⟩) L.length cv) w5.heap.size ⟨leftC T.caps cc.id, T.last⟩ L W2) ?_ ?_
            · gi_region_with (first
                | (refine ⟨trivial, ?_⟩; gi_at_call 19; refine (callsIn_wide.2 (HOF _ (Below.refl _ Wr).drew).out).mono ?_; rintro e W11 ⟨rfl, hb11⟩; have B11 : Hid (Below Wr.heap.size Wr W11) := Lib.hid ((Below.refl _ Wr).drew.trans hb11); clear hb11)
                | (refine ⟨trivial, ?_⟩; gi_at_call 19; refine (callsIn_wide.2 (HOF _ ((Below.refl _ Wr).alloc (Nat.le_refl _) _).drew).out).mono ?_; rintro e W11 ⟨rfl, hb11⟩; have B11 : Hid (Below Wr.heap.size Wr W11) := Lib.hid (((Below.refl _ Wr).alloc (Nat.le_refl _) _).drew.trans (hb11.mono (by simp))); have d11 := (hb11.block Wr.heap.size (by simp)).trans (heap_alloc_new Wr _); obtain ⟨⟨x0, x1, x2, x3, x4, x5, x6⟩, ⟨y0, y1, y2, y3, y4, y5, y6⟩, z11⟩ := seven_of d11; clear hb11 d11))
              all_goals
                refine ⟨h3F_of _ rfl, HREL.out.below ?_⟩
                first
                  | with_reducible exact B11.out.alloc B11.out.size _
                  | with_reducible exact below_set7 B11.out (Nat.le_refl _) _ _ _ _ _ _ _
            clear HREL cU9 cV9 cI9 HOF ck hgl hVl hUl
            rintro a' W2 ⟨⟨u12, rfl⟩, hrel⟩
            have HREL := Lib.hid hrel
            clear hrel
            unfold h3F
            gi_wp2_with fail
            refine ⟨hinv_of false w.heap.size V (w3.heap.size + 1) D (L.length : Int) _ (i + 1) ⟨hlt9, HREL.out⟩ rfl, ?_⟩
            simp [intOf]; omega
          · have hge9 : ¬ (i : Int) < L.length := by omega
            have HO9 := Lib.hid (of_any HREL.out.own.tab cc.id HID.out cc true (get_mem (find_self (left_ok OKT.out cc.id).up (self_left OKT.out HCM.out))) (by rw [find_self (left_ok OKT.out cc.id).up (self_left OKT.out HCM.out)]; rfl) (fun e => by cases e))
            unfold capV at HO9
            gi_wp2_with fail
            refine ⟨trivial, ?_⟩
            refine (callsIn_wide.2 HO9.out).mono ?_
            rintro e W12 ⟨rfl, hb12⟩
            have B12 := Lib.hid hb12
            have c12 : W12.cell? ⟨w3.heap.size + 1, 0, none⟩ = some (.slice av L.length cv) := (hb12.cell (p := ⟨w3.heap.size + 1, 0, none⟩) (World.block_lt_of_cell? Wr _ cU9)).trans cU9
            have l12 : w3.heap.size + 1 < W12.heap.size := World.block_lt_of_cell? W12 _ c12
            clear hb12 HO9 cU9 cV9 cI9
            gi_wp2_with fail
            refine ⟨trivial, ?_⟩
            refine (callsIn_wide.2 (known_any _)).mono ?_
            rintro e W13 ⟨rfl, hb13⟩
            have R13 := Lib.hid (HREL.out.below ((B12.out.alloc B12.out.size _).trans (hb13.mono (by have := B12.out.size; simp; omega))))
            have c13 : W13.cell? ⟨w.heap.size + 1, 0, none⟩ = some (.bool false) := by rw [cell_of_row _ _ _ _ _ _ R13.out.r]; rfl
            have f13 : W13.frozen? ⟨w.heap.size + 1, 0, none⟩ = false := by simp [World.frozen?, R13.out.r]
            have b13 := Lib.hid R13.out.own.below
            have r13 := Lib.hid R13.out.r
            have d13 := Lib.hid R13.out.d
            have hD1 : w.heap.size + 1 < D := by omega
            clear hb13 R13 HREL B12 c12
            gi_wp2_with fail
            refine leaves_marks (B := w.heap.size + 2) (Pw := fun W => W.heap[w.heap.size + 1]? = some (.cells #[.bool true] 4 (0, 0)) ∧ Below w.heap.size w W) (pw2_own w) [D] _ ⟨one_setCell r13.out, b13.out.setCell (Nat.le_succ _) _⟩ (by simp) ?_ ?_
            · intro D' hD'
              obtain rfl := List.mem_singleton.1 hD'
              exact ⟨hD1, (heap_setCell_other W13 ⟨w.heap.size + 1, 0, none⟩ _ _ (Nat.ne_of_gt hD1)).trans d13.out⟩
            · rintro W' ⟨hr, hb⟩
              refine ⟨.bool true, ?_, rfl, hb⟩
              have hc : W'.cell? ⟨w.heap.size + 1, 0, none⟩ = some (.bool true) := by rw [cell_of_row _ _ _ _ _ _ hr]; rfl
              simp [results, Try.f6, go_sem, hc]
        | true =>
          have HDROP := Drop_any REL7.out.own.tab (by have := HTK.out; have := HN.out; simp; omega) cc.account cc.id HID.out
          rw [drop_is OKT.out HCM.out] at HDROP
          have HDROP := Lib.hid HDROP
          gi_wp2_with fail
          refine ⟨trivial, ?_⟩
          refine (callsIn_wide.2 HDROP.out).mono ?_
          rintro e W8 ⟨rfl, hT8, hb8⟩
          have R8 := REL7.out.turn hT8 hb8 hwt hwb htV hbV hVU' ltU hD
          have REL8 := Lib.hid R8
          have cU8 : W8.cell? ⟨w3.heap.size + 1, 0, none⟩ = some v := by rw [cell_of_row _ _ _ _ _ _ R8.u]; rfl
          obtain ⟨av, cv, rfl⟩ := own_slice8 R8.row
          clear hT8 hb8 R8 cA7 cV7 cI7 HDROP REL7
          dsimp only
          gi_wp2_with fail
          have NOND := Lib.hid (show ∀ d ∈ L, findC ((leftC (leftC T.caps cc.id) cc.id).filter (fun d => !(d.id == cc.id))) d.id = none from fun d hd => none_drop OKT.out cc.id (by rw [HLL.out]; exact hd))
          have MEM := Lib.hid (show ∀ d ∈ L, d ∈ T.caps from fun d hd => by rw [← HLL.out] at hd; exact (List.mem_filter.1 hd).1)
          refine wpIn_loop (fun a' W => ∃ u k, (k ≤ L.length ∧ HRel w t b V (w3.heap.size + 1) D cc.id (.slice av L.length cv) w5.heap.size ⟨(leftC (leftC T.caps cc.id) cc.id).filter (fun d => !(d.id == cc.id)), T.last⟩ L W) ∧ a' = hF true w.heap.size V (w3.heap.size + 1) D (1 + (L.length : Int) - 1) u k) (fun a' _ => L.length - (intOf (a'.tmps.getD 18 undef)).toNat) ?_ ?_
          · exact hinv_of true w.heap.size V (w3.heap.size + 1) D (1 + (L.length : Int) - 1) _ 0 ⟨Nat.zero_le _, REL8.out⟩ rfl
          clear REL8 cU8
          rintro a' Wr ⟨u9, i, ⟨hi9, hrel⟩, rfl⟩
          unfold hF
          have HREL := Lib.hid hrel
          have cU9 : Wr.cell? ⟨w3.heap.size + 1, 0, none⟩ = some (.slice av L.length cv) := by rw [cell_of_row _ _ _ _ _ _ hrel.u]; rfl
          have cV9 : Wr.cell? ⟨V, 0, none⟩ = some (.pointer (some ⟨t, 0, none⟩)) := by rw [cell_of_row _ _ _ _ _ _ hrel.var]; rfl
          have cI9 : Wr.cell? ⟨w.heap.size, 0, none⟩ = some (.int .i64 cc.id) := by rw [cell_of_row _ _ _ _ _ _ hrel.i]; rfl
          clear hrel
          by_cases hlt9 : i < L.length
          · have hlt9' : (i : Int) < L.length := by omega
            obtain ⟨gv, rfl, ck⟩ := ids_cell HREL.out.row hlt9
            have hgl : gv < Wr.heap.size := World.block_lt_of_cell? Wr _ ck
            have hVl : V < Wr.heap.size := World.block_lt_of_cell? Wr _ cV9
            have hUl : w3.heap.size + 1 < Wr.heap.size := World.block_lt_of_cell? Wr _ cU9
            have hOF := fun W' (hb : Below Wr.heap.size Wr W') => of_any (HREL.out.own.tab.step hb) (idAt L i) (by
              have hm := MEM.out _ (List.getElem_mem hlt9)
              have e : idAt L i = (L[i]).id := by unfold idAt; rw [List.getD_eq_getElem?_getD, List.getElem?_eq_getElem hlt9]; rfl
              have h1 := (OKT.out.ok _ hm).i1
              have h2 := (OKT.out.ok _ hm).i2
              have := HTK.out
              have := HN.out
              rw [e]; exact wf_small (by omega) (by omega)) nilC false (by
              have e : idAt L i = (L[i]).id := by unfold idAt; rw [List.getD_eq_getElem?_getD, List.getElem?_eq_getElem hlt9]; rfl
              rw [e]; exact get_none (NOND.out _ (List.getElem_mem hlt9))) (by
              have e : idAt L i = (L[i]).id := by unfold idAt; rw [List.getD_eq_getElem?_getD, List.getElem?_eq_getElem hlt9]; rfl
              rw [e, NOND.out _ (List.getElem_mem hlt9)]; rfl) (fun _ => rfl)
            have HOF := fun W' (hb : Below Wr.heap.size Wr W') => Lib.hid (hOF W' hb)
            clear hOF
            unfold capV nilC at HOF
            gi_wp2_with fail
            refine wpIn_meetQ (M := fun a' W2 => (∃ u, a' = h3F true w.heap.size V (w3.heap.size + 1) D (1 + (L.length : Int) - 1) u i) ∧ HRel w t b V (w3.heap.size + 1) D cc.id (.slice (some ⟨gv, 0, none⟩) L.length cv) w5.heap.size ⟨(leftC (leftC T.caps cc.id) cc.id).filter (fun d => !(d.id == cc.id)), T.last⟩ L W2) ?_ ?_
            · gi_region_with (first
                | (refine ⟨trivial, ?_⟩; gi_at_call 19; refine (callsIn_wide.2 (HOF _ (Below.refl _ Wr).drew).out).mono ?_; rintro e W11 ⟨rfl, hb11⟩; have B11 : Hid (Below Wr.heap.size Wr W11) := Lib.hid ((Below.refl _ Wr).drew.trans hb11); clear hb11)
                | (refine ⟨trivial, ?_⟩; gi_at_call 19; refine (callsIn_wide.2 (HOF _ ((Below.refl _ Wr).alloc (Nat.le_refl _) _).drew).out).mono ?_; rintro e W11 ⟨rfl, hb11⟩; have B11 : Hid (Below Wr.heap.size Wr W11) := Lib.hid (((Below.refl _ Wr).alloc (Nat.le_refl _) _).drew.trans (hb11.mono (by simp))); have d11 := (hb11.block Wr.heap.size (by simp)).trans (heap_alloc_new Wr _); obtain ⟨⟨x0, x1, x2, x3, x4, x5, x6⟩, ⟨y0, y1, y2, y3, y4, y5, y6⟩, z11⟩ := seven_of d11; clear hb11 d11))
              all_goals
                refine ⟨h3F_of _ rfl, HREL.out.below ?_⟩
                first
                  | with_reducible exact B11.out.alloc B11.out.size _
                  | with_reducible exact below_set7 B11.out (Nat.le_refl _) _ _ _ _ _ _ _
            clear HREL cU9 cV9 cI9 HOF ck hgl hVl hUl
            rintro a' W2 ⟨⟨u12, rfl⟩, hrel⟩
            have HREL := Lib.hid hrel
            clear hrel
            unfold h3F
            gi_wp2_with fail
            refine ⟨hinv_of true w.heap.size V (w3.heap.size + 1) D (1 + (L.length : Int) - 1) _ (i + 1) ⟨hlt9, HREL.out⟩ rfl, ?_⟩
            simp [intOf]; omega
          · have hge9 : ¬ (i : Int) < L.length := by omega
            have HO9 := Lib.hid (of_any HREL.out.own.tab cc.id HID.out nilC false (get_none (none_self _ _)) (by rw [none_self]; rfl) (fun _ => rfl))
            unfold capV nilC at HO9
            gi_wp2_with fail
            refine ⟨trivial, ?_⟩
            refine (callsIn_wide.2 HO9.out).mono ?_
            rintro e W12 ⟨rfl, hb12⟩
            have B12 := Lib.hid hb12
            have c12 : W12.cell? ⟨w3.heap.size + 1, 0, none⟩ = some (.slice av L.length cv) := (hb12.cell (p := ⟨w3.heap.size + 1, 0, none⟩) (World.block_lt_of_cell? Wr _ cU9)).trans cU9
            have l12 : w3.heap.size + 1 < W12.heap.size := World.block_lt_of_cell? W12 _ c12
            clear hb12 HO9 cU9 cV9 cI9
            gi_wp2_with fail
            refine ⟨trivial, ?_⟩
            refine (callsIn_wide.2 (known_any _)).mono ?_
            rintro e W13 ⟨rfl, hb13⟩
            have R13 := Lib.hid (HREL.out.below ((B12.out.alloc B12.out.size _).trans (hb13.mono (by have := B12.out.size; simp; omega))))
            have c13 : W13.cell? ⟨w.heap.size + 1, 0, none⟩ = some (.bool false) := by rw [cell_of_row _ _ _ _ _ _ R13.out.r]; rfl
            have f13 : W13.frozen? ⟨w.heap.size + 1, 0, none⟩ = false := by simp [World.frozen?, R13.out.r]
            have b13 := Lib.hid R13.out.own.below
            have r13 := Lib.hid R13.out.r
            have d13 := Lib.hid R13.out.d
            have hD1 : w.heap.size + 1 < D := by omega
            clear hb13 R13 HREL B12 c12
            gi_wp2_with fail
            refine leaves_marks (B := w.heap.size + 2) (Pw := fun W => W.heap[w.heap.size + 1]? = some (.cells #[.bool true] 4 (0, 0)) ∧ Below w.heap.size w W) (pw2_own w) [D] _ ⟨one_setCell r13.out, b13.out.setCell (Nat.le_succ _) _⟩ (by simp) ?_ ?_
            · intro D' hD'
              obtain rfl := List.mem_singleton.1 hD'
              exact ⟨hD1, (heap_setCell_other W13 ⟨w.heap.size + 1, 0, none⟩ _ _ (Nat.ne_of_gt hD1)).trans d13.out⟩
            · rintro W' ⟨hr, hb⟩
              refine ⟨.bool true, ?_, rfl, hb⟩
              have hc : W'.cell? ⟨w.heap.size + 1, 0, none⟩ = some (.bool true) := by rw [cell_of_row _ _ _ _ _ _ hr]; rfl
              simp [results, Try.f6, go_sem, hc]
      case stop =>
        rintro D c W hD h _
        exact h.elim
end Go.Proofs.Ytgpmkllhljngfaa

