/- One side: what each call answers and leaves, whatever is asked. -/
import Derived.Test.YtakpankipagndaaPoK
namespace Go.Proofs.Ytakpankipagndaa
open Go.RowKit (wrap64)
open Go.RowKit
open Go.Maps (Keyed)
attribute [local go_sem] Oper.semAt_some

def claimR (s : Ps) (a : Int) (F : List Ts) : Int × Int × Ps :=
  if s.acc a = true ∧ mayF F = true then match s.free a with
    | some n => ((n : Int), 0, s.claimed a n F)
    | none => (0, 5, s)
  else (0, 2, s)
def closeR (s : Ps) (a n : Int) : Int × Int × Ps := match s.c a n with
  | some X => ((X.rg.length : Int), 0, s.del a n)
  | none => (0, s.why a, s)
def comeR (s : Ps) (P : List Nat) : Int × Ps × List (Nat × Bool) := if 64 < P.length then (3, s, []) else (0, s.comeV P)
def takeR (s : Ps) (a n : Int) : Int × List Nat × Ps := match s.first a n with
  | some P => (0, P, s.took a n)
  | none => (s.whyF a n, [], s)
section
variable {w : World} {O R : Nat → Prop} {p : Nat} {L : Lay12} {s : Ps}
theorem side_claim (h : PoAt w O R p L s) (a : Int) {A : Option Addr} {F : List Ts} {n c : Nat} (hF : FlIn w A n c F) (hn2 : (n : Int) ≤ 9223372036854775807) (hms : s.m < 1000000) :
    Calls Try.prog 17 #[.pointer (some ⟨p, 0, none⟩), .int .i64 a, .slice A n c] w fun e w' => e = .returned (.tuple #[.int .i64 (claimR s a F).1, .int .i64 (claimR s a F).2.1]) ∧ PoTo w O R p (claimR s a F).2.2 w' := by
  unfold claimR
  cases hacc : s.acc a with
  | false =>
    rw [if_neg (by simp)]
    refine (claim_acc12 h hacc _).mono ?_
    rintro e w' ⟨rfl, rfl⟩
    exact ⟨rfl, PoTo.stay h⟩
  | true =>
    cases hm : mayF F with
    | false =>
      rw [if_neg (by simp)]
      refine (claim_may12 h hacc hF hn2 hm).mono ?_
      rintro e w' ⟨rfl, hb⟩
      exact ⟨rfl, PoTo.step h hb⟩
    | true =>
      rw [if_pos ⟨rfl, rfl⟩]
      refine (claim_yes12 h hacc hF hm hms).mono ?_
      intro e w' hh
      unfold ClaimOut at hh
      cases hf : s.free a with
      | some k => rw [hf] at hh; exact hh
      | none =>
        rw [hf] at hh
        obtain ⟨rfl, hb⟩ := hh
        exact ⟨rfl, PoTo.step h hb⟩
theorem side_close (h : PoAt w O R p L s) {a n : Int} (ha : wf12 a) (hn : wf12 n) :
    Calls Try.prog 22 #[.pointer (some ⟨p, 0, none⟩), .int .i64 a, .int .i64 n] w fun e w' => e = .returned (.tuple #[.int .i64 (closeR s a n).1, .int .i64 (closeR s a n).2.1]) ∧ PoTo w O R p (closeR s a n).2.2 w' := by
  unfold closeR
  cases hc : s.c a n with
  | some X =>
    refine (close_yes12 h ha hn hc).mono ?_
    rintro e w' ⟨rfl, hp, ht⟩
    exact ⟨rfl, O, R, L, hp, fun _ hk => .inl hk, fun _ hk => .inl hk, ht⟩
  | none =>
    refine (close_not12 h ha hn hc).mono ?_
    rintro e w' ⟨rfl, rfl⟩
    exact ⟨rfl, PoTo.stay h⟩
/-- .. and a row that was handed out lies apart. -/
def PoTo' (w : World) (O R : Nat → Prop) (p : Nat) (s : Ps) (v : Value) (w' : World) : Prop :=
  ∃ O' R' L', PoAt w' O' R' p L' s ∧ (∀ k, O' k → O k ∨ w.heap.size ≤ k) ∧ (∀ k, R' k → R k ∨ w.heap.size ≤ k) ∧ TurnO O w w' ∧ ∀ k, v.ownBlock = some k → ¬ O' k ∧ ¬ R' k
theorem PoTo'.stay (h : PoAt w O R p L s) {v : Value} (hv : v.ownBlock = none) : PoTo' w O R p s v w := ⟨O, R, L, h, fun _ hk => .inl hk, fun _ hk => .inl hk, TurnO.refl _ _, fun k hk => by rw [hv] at hk; cases hk⟩
def SideCome (w : World) (O R : Nat → Prop) (p : Nat) (r : Int × Ps × List (Nat × Bool)) (e : Ending) (w' : World) : Prop :=
  ∃ v, e = .returned (.tuple #[v, .int .i64 r.1]) ∧ w'.ownsRow w.heap.size 53 2 v r.2.2.length (caL r.2.2) ∧ PoTo' w O R p r.2.1 v w'
theorem side_come (h : PoAt w O R p L s) {A : Option Addr} {n c : Nat} {P : List Nat} (hp : PkF w A n c P) (hR : P ≠ [] → Rd R A ∨ ∀ b o q, A = some ⟨b, o, q⟩ → ¬ O b) :
    Calls Try.prog 19 #[.pointer (some ⟨p, 0, none⟩), .slice A n c] w (SideCome w O R p (comeR s P)) := by
  unfold comeR
  by_cases hl : 64 < P.length
  · rw [if_pos hl]
    refine (come_long12 h A n c (by rw [← hp.len]; exact hl)).mono ?_
    rintro e w' ⟨rfl, rfl⟩
    exact ⟨_, rfl, World.ownsRow_nil _ _ _ _, PoTo'.stay h rfl⟩
  · rw [if_neg hl]
    have hn : n ≤ 64 := by rw [← hp.len]; omega
    unfold Ps.comeV
    cases hh : homeN P with
    | none =>
      refine (come_home12 h hp hn hh).mono ?_
      rintro e w' ⟨rfl, rfl⟩
      exact ⟨_, rfl, World.ownsRow_nil _ _ _ _, PoTo'.stay h rfl⟩
    | some x =>
      refine (come_yes12 h hp (hR (fun e => by rw [e] at hh; cases hh)) hn hh).mono ?_
      rintro e w' ⟨v, R', rfl, ho, hp', -, hr, hv, ht⟩
      exact ⟨v, rfl, ho, O, R', L, hp', fun _ hk => .inl hk, hr, ht, fun k hk => ⟨fun hO => by have := h.lo k hO; have := (ho.lt k hk).1; omega, hv k hk⟩⟩
def SideTake (w : World) (O R : Nat → Prop) (p : Nat) (r : Int × List Nat × Ps) (e : Ending) (w' : World) : Prop :=
  ∃ v, e = .returned (.tuple #[v, .int .i64 r.1]) ∧ PkOut w r.2.1 v w' ∧ PoTo' w O R p r.2.2 v w'
theorem side_take12 (h : PoAt w O R p L s) {a n : Int} (ha : wf12 a) (hn : wf12 n) :
    Calls Try.prog 21 #[.pointer (some ⟨p, 0, none⟩), .int .i64 a, .int .i64 n] w (SideTake w O R p (takeR s a n)) := by
  unfold takeR
  cases hf : s.first a n with
  | some P =>
    refine (take_yes12 h ha hn hf).mono ?_
    rintro e w' ⟨v, rfl, ho, hp, ht⟩
    exact ⟨v, rfl, ho, O, R, L, hp, fun _ hk => .inl hk, fun _ hk => .inl hk, ht, fun k hk => ⟨fun hO => by have := h.lo k hO; have := (World.ownsRow.lt ho k hk).1; omega, fun hO => by have := h.lr k hO; have := (World.ownsRow.lt ho k hk).1; omega⟩⟩
  | none =>
    refine (take_no12 h ha hn hf).mono ?_
    rintro e w' ⟨rfl, rfl⟩
    exact ⟨_, rfl, World.ownsRow_nil _ _ _ _, PoTo'.stay h rfl⟩
theorem side_look12 (h : PoAt w O R p L s) {a n : Int} (ha : wf12 a) (hn : wf12 n) :
    Calls Try.prog 35 #[.pointer (some ⟨p, 0, none⟩), .int .i64 a, .int .i64 n] w fun e w' => ∃ v, e = .returned (.tuple #[v, .int .i64 (takeR s a n).1]) ∧ PkOut w (takeR s a n).2.1 v w' ∧ Below w.heap.size w w' := by
  unfold takeR
  cases hf : s.first a n with
  | some P =>
    refine (look_yes12 h ha hn hf).mono ?_
    rintro e w' ⟨v, rfl, ho, hb⟩
    exact ⟨v, rfl, ho, hb⟩
  | none =>
    refine (look_no12 h ha hn hf).mono ?_
    rintro e w' ⟨rfl, rfl⟩
    exact ⟨_, rfl, World.ownsRow_nil _ _ _ _, Below.refl _ _⟩
end
/-- Ports that were made since w0. -/
structure KnP (w0 W : World) (p : Nat) (s : Ps) (O R : Nat → Prop) (L : Lay12) : Prop where
  po : PoAt W O R p L s
  lo : ∀ k, O k ∨ R k → w0.heap.size ≤ k
  bl : Below w0.heap.size w0 W
theorem KnP.step {w0 W W' : World} {p : Nat} {s : Ps} {O R : Nat → Prop} {L : Lay12} (h : KnP w0 W p s O R L) (hb : Below W.heap.size W W') : KnP w0 W' p s O R L := ⟨h.po.step hb, h.lo, h.bl.trans (hb.mono h.bl.size)⟩
theorem KnP.to {w0 W W' : World} {p : Nat} {s s' : Ps} {O R : Nat → Prop} {L : Lay12} (h : KnP w0 W p s O R L) (k : PoTo W O R p s' W') : ∃ O' R' L', KnP w0 W' p s' O' R' L' := by
  obtain ⟨O', R', L', hp, ho, hr, ht⟩ := k
  have hs := h.bl.size
  refine ⟨O', R', L', hp, fun b hb => ?_, h.bl.trans (ht.below hs (fun b hb => h.lo b (.inl hb)))⟩
  rcases hb with hb | hb
  · rcases ho b hb with h1 | h1
    · exact h.lo b (.inl h1)
    · omega
  · rcases hr b hb with h1 | h1
    · exact h.lo b (.inr h1)
    · omega
/-- Rows that lie apart. -/
def Kept (W : World) (O : Nat → Prop) (Ks : List (Value × Nat × Nat × Nat × List Value)) : Prop := ∀ t ∈ Ks, W.ownsRow 0 t.2.1 t.2.2.1 t.1 t.2.2.2.1 t.2.2.2.2 ∧ ∀ k, t.1.ownBlock = some k → ¬ O k
theorem Kept.nil (W : World) (O : Nat → Prop) : Kept W O [] := fun t ht => by simp at ht
theorem Kept.step {W W' : World} {O : Nat → Prop} {Ks : List (Value × Nat × Nat × Nat × List Value)} (h : Kept W O Ks) (hb : Below W.heap.size W W') : Kept W' O Ks := fun t ht => ⟨owns_eq (h t ht).1 (fun g hg => hb.block g ((h t ht).1.lt g hg).2), (h t ht).2⟩
theorem Kept.turn {W W' : World} {O O' : Nat → Prop} {Ks : List (Value × Nat × Nat × Nat × List Value)} (h : Kept W O Ks) (hT : TurnO O W W') (ho : ∀ k, O' k → O k ∨ W.heap.size ≤ k) : Kept W' O' Ks := fun t ht => by
  obtain ⟨h1, h2⟩ := h t ht
  refine ⟨owns_eq h1 (fun g hg => hT.block g (h1.lt g hg).2 (h2 g hg)), fun k hk hO => ?_⟩
  rcases ho k hO with h3 | h3
  · exact h2 k hk h3
  · have := (h1.lt k hk).2; omega
theorem Kept.cons {W : World} {O : Nat → Prop} {Ks : List (Value × Nat × Nat × Nat × List Value)} (h : Kept W O Ks) {v : Value} {B ty sz n : Nat} {xs : List Value} (hv : W.ownsRow B ty sz v n xs) (hn : ∀ k, v.ownBlock = some k → ¬ O k) : Kept W O ((v, ty, sz, n, xs) :: Ks) := fun t ht => by
  rcases List.mem_cons.1 ht with rfl | ht
  · exact ⟨owns_base hv (Nat.zero_le _), hn⟩
  · exact h t ht
section
variable {w0 W : World} {p : Nat} {s : Ps} {O R : Nat → Prop} {L : Lay12} {Ks : List (Value × Nat × Nat × Nat × List Value)}
/-- Ports that were made since w0, and rows apart. -/
def KnK (w0 W : World) (p : Nat) (s : Ps) (Ks : List (Value × Nat × Nat × Nat × List Value)) : Prop := ∃ O R L, KnP w0 W p s O R L ∧ Kept W O Ks
theorem KnP.toK (K : KnP w0 W p s O R L) (kk : Kept W O Ks) {s' : Ps} {W' : World} (k : PoTo W O R p s' W') : KnK w0 W' p s' Ks := by
  obtain ⟨O', R', L', hp, ho, hr, ht⟩ := k
  have hs := K.bl.size
  refine ⟨O', R', L', ⟨hp, fun b hb => ?_, K.bl.trans (ht.below hs (fun b hb => K.lo b (.inl hb)))⟩, kk.turn ht ho⟩
  rcases hb with hb | hb
  · rcases ho b hb with h1 | h1
    · exact K.lo b (.inl h1)
    · omega
  · rcases hr b hb with h1 | h1
    · exact K.lo b (.inr h1)
    · omega
theorem KnP.toK' (K : KnP w0 W p s O R L) (kk : Kept W O Ks) {s' : Ps} {W' : World} {v : Value} (k : PoTo' W O R p s' v W') {B ty sz n : Nat} {xs : List Value} (hv : W'.ownsRow B ty sz v n xs) : KnK w0 W' p s' ((v, ty, sz, n, xs) :: Ks) := by
  obtain ⟨O', R', L', hp, ho, hr, ht, hd⟩ := k
  have hs := K.bl.size
  refine ⟨O', R', L', ⟨hp, fun b hb => ?_, K.bl.trans (ht.below hs (fun b hb => K.lo b (.inl hb)))⟩, (kk.turn ht ho).cons hv (fun b hb => (hd b hb).1)⟩
  rcases hb with hb | hb
  · rcases ho b hb with h1 | h1
    · exact K.lo b (.inl h1)
    · omega
  · rcases hr b hb with h1 | h1
    · exact K.lo b (.inr h1)
    · omega
theorem KnK.step {W' : World} (h : KnK w0 W p s Ks) (hb : Below W.heap.size W W') : KnK w0 W' p s Ks := by
  obtain ⟨O, R, L, K, kk⟩ := h
  exact ⟨O, R, L, K.step hb, kk.step hb⟩
theorem KnK.bl (h : KnK w0 W p s Ks) : Below w0.heap.size w0 W := by
  obtain ⟨O, R, L, K, kk⟩ := h
  exact K.bl
theorem KnK.row (h : KnK w0 W p s Ks) {t : Value × Nat × Nat × Nat × List Value} (ht : t ∈ Ks) : W.ownsRow 0 t.2.1 t.2.2.1 t.1 t.2.2.2.1 t.2.2.2.2 := by
  obtain ⟨O, R, L, K, kk⟩ := h
  exact (kk t ht).1
theorem kn_claim (h : KnK w0 W p s Ks) (a : Int) {A : Option Addr} {F : List Ts} {n c : Nat} (hF : FlIn W A n c F) (hn2 : (n : Int) ≤ 9223372036854775807) (hms : s.m < 1000000) :
    Calls Try.prog 17 #[.pointer (some ⟨p, 0, none⟩), .int .i64 a, .slice A n c] W fun e w' => e = .returned (.tuple #[.int .i64 (claimR s a F).1, .int .i64 (claimR s a F).2.1]) ∧ KnK w0 w' p (claimR s a F).2.2 Ks := by
  obtain ⟨O, R, L, K, kk⟩ := h
  exact (side_claim K.po a hF hn2 hms).mono fun e w' ⟨he, k⟩ => ⟨he, K.toK kk k⟩
theorem kn_close (h : KnK w0 W p s Ks) {a n : Int} (ha : wf12 a) (hn : wf12 n) :
    Calls Try.prog 22 #[.pointer (some ⟨p, 0, none⟩), .int .i64 a, .int .i64 n] W fun e w' => e = .returned (.tuple #[.int .i64 (closeR s a n).1, .int .i64 (closeR s a n).2.1]) ∧ KnK w0 w' p (closeR s a n).2.2 Ks := by
  obtain ⟨O, R, L, K, kk⟩ := h
  exact (side_close K.po ha hn).mono fun e w' ⟨he, k⟩ => ⟨he, K.toK kk k⟩
/-- A packet that lies in no block of the ports'. -/
def FarP (w0 W : World) (p : Nat) (s : Ps) (A : Option Addr) : Prop := ∀ O R L, KnP w0 W p s O R L → ∀ b o q, A = some ⟨b, o, q⟩ → ¬ O b
theorem FarP.old {A : Option Addr} (h : ∀ b o q, A = some ⟨b, o, q⟩ → b < w0.heap.size) : FarP w0 W p s A := fun O R L K b o q e hO => by have := h b o q e; have := K.lo b (.inl hO); omega
theorem kn_come (h : KnK w0 W p s Ks) {A : Option Addr} {n c : Nat} {P : List Nat} (hp : PkF W A n c P) (hR : FarP w0 W p s A ∨ ∃ O R L, (KnP w0 W p s O R L ∧ Kept W O Ks) ∧ ∀ b o q, A = some ⟨b, o, q⟩ → ¬ O b) :
    Calls Try.prog 19 #[.pointer (some ⟨p, 0, none⟩), .slice A n c] W fun e w' => ∃ v, e = .returned (.tuple #[v, .int .i64 (comeR s P).1]) ∧ KnK w0 w' p (comeR s P).2.1 ((v, 53, 2, (comeR s P).2.2.length, caL (comeR s P).2.2) :: Ks) := by
  rcases hR with hR | ⟨O, R, L, ⟨K, kk⟩, hR⟩
  · obtain ⟨O, R, L, K, kk⟩ := h
    exact (side_come K.po hp (fun _ => .inr (hR O R L K))).mono fun e w' ⟨v, he, ho, k⟩ => ⟨v, he, K.toK' kk k ho⟩
  · exact (side_come K.po hp (fun _ => .inr hR)).mono fun e w' ⟨v, he, ho, k⟩ => ⟨v, he, K.toK' kk k ho⟩
theorem kn_take (h : KnK w0 W p s Ks) {a n : Int} (ha : wf12 a) (hn : wf12 n) :
    Calls Try.prog 21 #[.pointer (some ⟨p, 0, none⟩), .int .i64 a, .int .i64 n] W fun e w' => ∃ v, e = .returned (.tuple #[v, .int .i64 (takeR s a n).1]) ∧ KnK w0 w' p (takeR s a n).2.2 ((v, 5, 1, (takeR s a n).2.1.length, byL (takeR s a n).2.1) :: Ks) := by
  obtain ⟨O, R, L, K, kk⟩ := h
  exact (side_take12 K.po ha hn).mono fun e w' ⟨v, he, ho, k⟩ => ⟨v, he, K.toK' kk k ho⟩
theorem kn_len (h : KnK w0 W p s Ks) {a n : Int} (ha : wf12 a) (hn : wf12 n) : Calls Try.prog 20 #[.pointer (some ⟨p, 0, none⟩), .int .i64 a, .int .i64 n] W fun e w' => e = .returned (.int .i64 (s.len a n : Int)) ∧ W = w' := by
  obtain ⟨O, R, L, K, kk⟩ := h
  exact len_any12 K.po ha hn
theorem kn_lost (h : KnK w0 W p s Ks) {a n : Int} (ha : wf12 a) (hn : wf12 n) : Calls Try.prog 26 #[.pointer (some ⟨p, 0, none⟩), .int .i64 a, .int .i64 n] W fun e w' => e = .returned (.int .i64 (s.lost a n)) ∧ W = w' := by
  obtain ⟨O, R, L, K, kk⟩ := h
  exact lost_any12 K.po ha hn
/-- A packet that was just made. -/
theorem kn_come_new (h : KnK w0 W p s Ks) (P : List Nat) (h8 : ∀ x ∈ P, x < 256) {n : Nat} (hn : P.length = n) :
    Calls Try.prog 19 #[.pointer (some ⟨p, 0, none⟩), .slice (some ⟨W.heap.size, 0, none⟩) n n] (W.alloc (.cells (byL P).toArray 5)) fun e w' => ∃ v, e = .returned (.tuple #[v, .int .i64 (comeR s P).1]) ∧ KnK w0 w' p (comeR s P).2.1 ((v, 53, 2, (comeR s P).2.2.length, caL (comeR s P).2.2) :: Ks) := by
  have hb : Below W.heap.size W (W.alloc (.cells (byL P).toArray 5)) := (Below.refl _ W).alloc (Nat.le_refl _) _
  have hk := h.step hb
  obtain ⟨O, R, L, K, kk⟩ := h
  refine kn_come hk ⟨hn, (fun e => by cases e), fun i x hx => ⟨h8 x (List.mem_of_getElem? hx), W.heap.size, 0, rfl, by simp, ?_⟩⟩ (.inr ⟨O, R, L, ⟨K.step hb, kk.step hb⟩, fun b o q e hO => ?_⟩)
  · rw [cell_of_row _ _ _ _ _ _ (heap_alloc_new W _), Nat.zero_add, List.getElem?_toArray]
    unfold byL
    rw [List.getElem?_map, hx]; rfl
  · cases e
    exact absurd (K.po.lo _ hO) (Nat.lt_irrefl _)
end
end Go.Proofs.Ytakpankipagndaa
