/- CpuMoves: the program's memory and the document's beside it. -/
import Derived.Test.YtknepljmbpdpkaaCpaB
import Derived.Laws.AppendOwnNone
namespace Go.Proofs.Ytknepljmbpdpkaa
open Go.RowKit

/-- append of a slice that came in, nil or not, onto a row of the call's own. -/
theorem app_opt8 {P : Program} {w : World} {ops : Array Oper} {rest : List Oper} {o : Oper} {a : Act} {Q : Exit → Act → World → Prop} (hgd : o.guard = none) (s x : Operand) (t : TypeId)
    (ho : o.op = .call { callee := .builtin .append, args := #[s, x], argTypes := #[t, t] })
    (base : Nat) (e : TypeId) (i : TypeInfo) (z : Value) (size bytes : Nat) (ht : P.underlying t = some (.slice e)) (hi : P.info? e = some i) (hz : i.zero = some z)
    (hsize : i.size = size) (hby : i.bytes = bytes) (hzs : z.cells.size = size) (hsz : 0 < size)
    (v : Value) (n : Nat) (xs : List Value) (hs : a.eval s = v) (hown : w.ownsRow base e size v n xs)
    (A : Option Addr) (m c : Nat) (news : List Value) (hx : a.eval x = .slice A m c) (hA : A = none → m = 0 ∧ c = 0) (hl : news.length = m * size) (hnews : ∀ ad, A = some ad → ∀ j u, news[j]? = some u → w.cell? (ad.add j) = some u) (h1 : ∀ u ∈ news, u.oneCell' = true)
    (h63 : n + m ≤ maxLen) (hbytes : (n + m) * bytes ≤ 140737488355328) (hbase : base ≤ w.heap.size)
    (h : ∀ v' w', w'.ownsRow base e size v' (n + m) (xs ++ news) → w.grownBy w' v.ownBlock → wpList P ops Q rest (a.put o.dst v') w') : wpList P ops Q (o :: rest) a w := by
  cases A with
  | none =>
    obtain ⟨rfl, rfl⟩ := hA rfl
    have hn : news = [] := List.eq_nil_of_length_eq_zero (by simpa using hl)
    subst hn
    exact wpList_append_own_none hgd s x t ho base e i size ht hi v n xs hs hown hx (h v w (by simpa using hown) (World.grownBy.refl w _))
  | some ad =>
    exact wpList_append_own _ hgd s x t ho base e i z size bytes ht hi hz hsize hby hzs hsz v n xs hs hown ad m c news hx hl (hnews ad rfl) h1 h63 hbytes hbase fun v' w' h2 h3 _ => h v' w' h2 h3
theorem src_news {w : World} {A : Option Addr} {l : List Int} (h : SrcBytes w A l) : ∀ ad, A = some ad → ∀ j u, (l.map (Value.int .u8))[j]? = some u → w.cell? (ad.add j) = some u := fun ad e j u hu => by
  rw [List.getElem?_map] at hu
  cases hx : l[j]? with
  | none => rw [hx] at hu; cases hu
  | some x =>
    rw [hx] at hu; cases hu
    have hj := (List.getElem?_eq_some_iff.1 hx).1
    obtain ⟨b, o, e', -, hc⟩ := h (by omega)
    rw [e] at e'
    injection e' with e'
    subst e'
    rw [Addr.add_lit]
    exact hc j x hx
theorem load_neg {w : World} (F : Nat) (x n r : Int) (hn : n < 0) : Calls Try.prog 18 #[ifV F, .int .u32 x, .int .i64 n, .int .i64 r] w fun e w' => e = .returned (.tuple #[.slice none 0 0, .int .u32 0, .bool false]) ∧ w = w' := by
  have hd : decide (n < 0) = true := by simpa using hn
  unfold ifV
  go_enter Try.func18, Try.ntmps18
  go_wp2
  go_ret3
  exact ⟨rfl, rfl⟩

structure MovAt (w V : World) (F B : Nat) (ra : Option Addr) (rc bc p g c2 : Nat) (Ar : Option Addr) (cr : Nat) (m mq : Mem8) (Ad : Option Addr) (dl : List Int) : Prop where
  fl : FlatAt V F B ra rc bc m
  q : QAt V p (some ⟨g, 0, none⟩) c2 Ar cr mq
  d : SrcBytes V Ad dl
  bw : Below w.heap.size w V
  i1 : IntsIn w Ar mq.np mq.ri
  d1 : SrcBytes w Ad dl
  gB : w.heap.size ≤ B
  Bg : B < g
  Bp : B < p
  Fg : F < g
  gp : g < p
  rg : ∀ b o, ra = some ⟨b, o, none⟩ → b < g
  fz : ∀ k, V.frozen? ⟨g, k, none⟩ = false
theorem own_fz {w : World} {B n g c : Nat} {xs : List Value} {e : TypeId} (h : w.ownsRow B e 1 (.slice (some ⟨g, 0, none⟩) n c) n xs) (k : Nat) : w.frozen? ⟨g, k, none⟩ = false := by
  rcases h.2 with ⟨e, -⟩ | ⟨g', cap, cur, e, hg, hc, hn, -⟩
  · cases e
  · injection e with e1 e2 e3
    injection e1 with e1
    injection e1 with e1
    subst e1
    exact frozen_of_row _ _ _ _ _ hc
theorem MovAt.below {w V V' : World} {F B : Nat} {ra : Option Addr} {rc bc p g c2 : Nat} {Ar : Option Addr} {cr : Nat} {m mq : Mem8} {Ad : Option Addr} {dl : List Int} (h : MovAt w V F B ra rc bc p g c2 Ar cr m mq Ad dl) (hb : Below V.heap.size V V') : MovAt w V' F B ra rc bc p g c2 Ar cr m mq Ad dl :=
  { h with fl := h.fl.below hb, q := h.q.below hb, d := h.d.below hb, bw := Bl.step h.bw hb, fz := fun k => (World.frozen?_of_block (w := V) (hb.block g (Nat.lt_trans h.gp h.q.pl))).trans (h.fz k) }
theorem MovAt.glt {w V : World} {F B : Nat} {ra : Option Addr} {rc bc p g c2 : Nat} {Ar : Option Addr} {cr : Nat} {m mq : Mem8} {Ad : Option Addr} {dl : List Int} (h : MovAt w V F B ra rc bc p g c2 Ar cr m mq Ad dl) : g < V.heap.size := Nat.lt_trans h.gp h.q.pl
theorem MovAt.cells {w V : World} {F B : Nat} {ra : Option Addr} {rc bc p g c2 : Nat} {Ar : Option Addr} {cr : Nat} {m mq : Mem8} {Ad : Option Addr} {dl : List Int} (h : MovAt w V F B ra rc bc p g c2 Ar cr m mq Ad dl) (k : Nat) (hk : k < mq.np * 256) : V.cell? ⟨g, k, none⟩ = some (.int .u8 (mq.bt k)) := by
  obtain ⟨b, o, e, -, c⟩ := h.q.bs (by omega)
  injection e with e; injection e with e1 e2 e3
  subst e1 e2
  have := c k hk
  rwa [Nat.zero_add] at this
/-- Behind a store of the program's. -/
theorem MovAt.stored {w V V' : World} {F B : Nat} {ra : Option Addr} {rc bc p g c2 : Nat} {Ar : Option Addr} {cr : Nat} {m m' mq : Mem8} {Ad : Option Addr} {dl : List Int} (h : MovAt w V F B ra rc bc p g c2 Ar cr m mq Ad dl) (hf : FlatAt V' F B ra rc bc m') (ht : Turned V V' [B]) : MovAt w V' F B ra rc bc p g c2 Ar cr m' mq Ad dl := by
  have hb : Below w.heap.size w V' := h.bw.trans (ht.below h.bw.size (by intro b hb; simp at hb; have := h.gB; omega))
  have h1 := h.Bg
  have h2 := h.Bp
  refine { h with fl := hf, q := ⟨h.q.ok, (turned_keep ht h.q.pl (by omega) 0).trans h.q.c0, (turned_keep ht h.q.pl (by omega) 1).trans h.q.c1, Nat.lt_of_lt_of_le h.q.pl ht.size, fun hp => ?_, h.i1.below hb⟩, d := h.d1.below hb, bw := hb, fz := fun k => (World.frozen?_of_block (w := V) (ht.block g h.glt (by simp; omega))).trans (h.fz k) }
  refine ⟨g, 0, rfl, Nat.lt_of_lt_of_le h.glt ht.size, fun k hk => ?_⟩
  rw [Nat.zero_add]
  exact (turned_keep ht h.glt (by omega) k).trans (h.cells k hk)
/-- Behind a store of the document's. -/
theorem MovAt.setq {w V : World} {F B : Nat} {ra : Option Addr} {rc bc p g c2 : Nat} {Ar : Option Addr} {cr : Nat} {m mq : Mem8} {Ad : Option Addr} {dl : List Int} (h : MovAt w V F B ra rc bc p g c2 Ar cr m mq Ad dl) (x : Int) (hx : x.toNat < mq.np * 256) (v : Int) (v0 : 0 ≤ v) (v1 : v < 256) :
    MovAt w (V.setCell ⟨g, x.toNat, none⟩ (.int .u8 v)) F B ra rc bc p g c2 Ar cr m (mq.set x v) Ad dl := by
  have ht : Turned V (V.setCell ⟨g, x.toNat, none⟩ (.int .u8 v)) [g] := Turned.of_set (by simp) _
  have h1 := h.Bg
  have h2 := h.gp
  have h3 := h.Fg
  have h4 := h.gB
  have hb : Below w.heap.size w (V.setCell ⟨g, x.toNat, none⟩ (.int .u8 v)) := h.bw.trans (ht.below h.bw.size (by intro b hb; simp at hb; omega))
  refine { h with fl := h.fl.other ht (by simp; omega) (by simp; omega) (fun _ b o e => by have := h.rg b o e; simp; omega), q := ⟨mem_set_ok h.q.ok _ _ v0 v1, (turned_keep ht h.q.pl (by omega) 0).trans h.q.c0, (turned_keep ht h.q.pl (by omega) 1).trans h.q.c1, Nat.lt_of_lt_of_le h.q.pl ht.size, fun hp => ?_, h.i1.below hb⟩, d := h.d1.below hb, bw := hb, i1 := h.i1, fz := fun k => by rw [← h.fz k]; simp [go_sem] }
  refine ⟨g, 0, rfl, Nat.lt_of_lt_of_le h.glt ht.size, fun k hk => ?_⟩
  have hc := h.cells k hk
  rw [Nat.zero_add]
  show _ = some (Value.int .u8 (if k = x.toNat then v else mq.bt k))
  by_cases e : k = x.toNat
  · rw [e] at hc ⊢
    rw [if_pos rfl, World.cell?_setCell_same' _ _ _ (by rw [hc]; rfl)]
  · rw [if_neg e, World.cell?_setCell_other _ _ _ _ (by intro q; injection q with _ q; exact e q.symm)]
    exact hc
theorem storeM_take (m : Mem8) (x : Int) (l : List Int) (k : Nat) (v : Int) (hv : l[k]? = some v) (h0 : 0 ≤ x) (h1 : x < 4294967296) : storeM m x (l.take (k + 1)) = (storeM m x (l.take k)).set (m32 (x + (k : Int))) v := by
  have hk := (List.getElem?_eq_some_iff.1 hv).1
  have e1 : l.take (k + 1) = l.take k ++ [v] := by rw [List.take_add_one, hv]; rfl
  rw [e1, storeM_snoc v _ m x h0 h1, List.length_take, Nat.min_eq_left (by omega)]
theorem loadL_get (m : Mem8) (x : Int) (n k : Nat) (hk : k < n) : (loadL m x n)[k]? = some (m.bt (m32 (x + (k : Int))).toNat) := by
  unfold loadL
  rw [List.getElem?_map, List.getElem?_range hk]; rfl
end Go.Proofs.Ytknepljmbpdpkaa
