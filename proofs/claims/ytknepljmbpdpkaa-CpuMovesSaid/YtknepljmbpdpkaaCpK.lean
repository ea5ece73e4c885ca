/- The map of the answers. -/
import Derived.Test.YtknepljmbpdpkaaCpJ
namespace Go.Proofs.Ytknepljmbpdpkaa
open Go.RowKit
open Go.Maps (Keyed)

def fnD (f b : Nat) : DataW Unit := .agg [.lit (.int .i64 f), .lit (.int .i64 b)]
def fnN : DataW Unit := .agg []
def fnE (v : Value) : Option (DataW Unit × List MemPlace) := match v with
  | .func (.func f) ⟨[]⟩ ⟨[.pointer (some ⟨b, 0, none⟩)]⟩ => some (fnD f b, [])
  | .nilFunc => some (fnN, [])
  | _ => none
def fnV (f b : Nat) : Value := .func (.func f) #[] #[.pointer (some ⟨b, 0, none⟩)]
theorem fnE_mk (f b : Nat) : fnE (fnV f b) = some (fnD f b, []) := rfl
theorem fnE_is {v : Value} {f b : Nat} {ps : List MemPlace} (h : fnE v = some (fnD f b, ps)) : v = fnV f b := by
  unfold fnE at h
  split at h
  · rename_i f' b'
    have h := congrArg Prod.fst (Option.some.inj h)
    simp [fnD] at h
    obtain ⟨h1, h2⟩ := h
    obtain rfl : f' = f := Int.ofNat_inj.1 h1
    obtain rfl : b' = b := Int.ofNat_inj.1 h2
    rfl
  · simp [fnN, fnD] at h
  · cases h
def litF (op : Int) : Nat := if op = 8 then 37 else if op = 9 then 38 else if op = 10 then 39 else if op = 11 then 41 else if op = 12 then 42 else if op = 13 then 43 else if op = 14 then 44 else if op = 15 then 45 else if op = 16 then 46 else 47
def outF (op : Int) : Nat := if op = 11 ∨ op = 12 then 58 else 57
theorem Try.kOp : Keyed Try.prog 50 := Maps.int_keyed Try.underlying50
/-- The answers so far. -/
structure AnsUp (w : World) (lo mp : Nat) (D : DataW Unit) (n : Nat) (ops : List Int) : Prop where
  own : w.ownsMap Try.prog 50 fnE mp n D
  ml : lo ≤ mp
  has : ∀ op, Maps.has D (.int .i64 op) = decide (op ∈ ops)
  val : ∀ op ∈ ops, ∃ b, D.atKey (.int .i64 op) fnN = fnD (outF op) b ∧ b < w.heap.size ∧ lo ≤ b ∧ b ≠ mp ∧ w.cell? ⟨b, 0, none⟩ = some (.func (.func (litF op)) #[] #[])
theorem AnsUp.lt {w : World} {lo mp n : Nat} {D : DataW Unit} {ops : List Int} (h : AnsUp w lo mp D n ops) : mp < w.heap.size := h.own.lt
theorem AnsUp.start (w : World) : AnsUp (w.alloc (.map #[] 0)) w.heap.size w.heap.size (.map []) 0 [] := ⟨World.ownsMap_made .., Nat.le_refl _, fun _ => rfl, fun _ h => by cases h⟩
theorem AnsUp.alloc {w : World} {lo mp n : Nat} {D : DataW Unit} {ops : List Int} (h : AnsUp w lo mp D n ops) (o : Obj) : AnsUp (w.alloc o) lo mp D n ops :=
  ⟨h.own.alloc o, h.ml, h.has, fun op ho => by
    obtain ⟨b, h1, h2, hlo, h3, h4⟩ := h.val op ho
    exact ⟨b, h1, by simp; omega, hlo, h3, (World.cell?_of_block (w := w) (a := ⟨b, 0, none⟩) (Below.heap_alloc w o b h2)).trans h4⟩⟩
theorem AnsUp.keep {w w' : World} {lo mp n : Nat} {D : DataW Unit} {ops : List Int} (h : AnsUp w lo mp D n ops) (hb : Below w.heap.size w w') : AnsUp w' lo mp D n ops := by
  refine ⟨?_, h.ml, h.has, fun op ho => ?_⟩
  · obtain ⟨es, clock, h1, F, hs, hD⟩ := h.own
    exact ⟨es, clock, (hb.block _ h.lt).trans h1, F, hs, hD⟩
  · obtain ⟨b, h1, h2, hlo, h3, h4⟩ := h.val op ho
    exact ⟨b, h1, Nat.lt_of_lt_of_le h2 hb.size, hlo, h3, (World.cell?_of_block (w := w) (a := ⟨b, 0, none⟩) (hb.block b h2)).trans h4⟩
theorem AnsUp.step {w w' : World} {lo mp n : Nat} {D : DataW Unit} {ops : List Int} (h : AnsUp w lo mp D n ops) (op : Int) (ho : op ∉ ops) (hw : (Lit.int .i64 op).wf = true) {t : TypeId} {f l g : Nat} (hf : f = outF op) (hl : l = litF op) (hgg : g = w.heap.size)
    (hown : w'.ownsMap Try.prog 50 fnE mp (n + 1) (D.put (.int .i64 op) (fnD f g))) (hg : (w.alloc (.cells #[.func (.func l) #[] #[]] t)).grownBy w' (some mp)) :
    AnsUp w' lo mp (D.put (.int .i64 op) (fnD f g)) (n + 1) (ops ++ [op]) := by
  subst hf hl hgg
  have hk : WideAt.IsKeyLit (.int .i64 op) := Try.kOp.key (Maps.keyOf_int_mk Try.underlying50 hw)
  have hm : Maps.IsMap D := h.own.isMap
  have hlt := h.lt
  have hsz : w.heap.size + 1 ≤ w'.heap.size := by have := hg.size; simpa using this
  have hml := h.ml
  refine ⟨hown, h.ml, fun q => ?_, fun q hq => ?_⟩
  · by_cases e : q = op
    · subst e; rw [Maps.has_put_same hm hk]; simp
    · rw [Maps.has_put_other (by simpa using e), h.has]; simp [e]
  · by_cases e : q = op
    · subst e
      refine ⟨w.heap.size, by rw [Maps.atKey_put_same hm hk], by omega, by omega, by omega, ?_⟩
      refine (World.cell?_of_block (w := w.alloc (.cells #[.func (.func (litF q)) #[] #[]] t)) (a := ⟨w.heap.size, 0, none⟩) (hg.block w.heap.size (by simp) (by intro q; injection q with q; omega))).trans ?_
      simp
    · have hq : q ∈ ops := by simpa [e] using hq
      obtain ⟨b, h1, h2, hlo, h3, h4⟩ := h.val q hq
      refine ⟨b, by rw [Maps.atKey_put_other (by simpa using e), h1], by omega, hlo, h3, ?_⟩
      refine (World.cell?_of_block (w := w) (a := ⟨b, 0, none⟩) ?_).trans h4
      rw [hg.block b (by simp; omega) (by intro q; injection q with q; omega)]
      exact Below.heap_alloc w _ b h2

theorem wpList_insert_own {H : Type} {P : Program} (w : World) {ops : Array Oper} {rest : List Oper} {o : Oper} {a : Act} {Q : Exit → Act → World → Prop}
    (hg : o.guard = none) (m x v : Operand) (t : TypeId) (hop : o.op = Op.insert t m x v)
    (k e : TypeId) (K : Keyed P k) (ht : P.underlying t = some (.map k e)) (R : Value → Option (DataW H × List MemPlace)) (b n : Nat) (D : DataW H)
    (hm : a.eval m = .map (some b)) (hown : w.ownsMap P k R b n D) (hn : n < maxLen) (key val : Value) (kl : Lit) (hx : a.eval x = key) (hv : a.eval v = val) (hkey : keyOf P k key = some kl)
    (d : DataW H) (ps : List MemPlace) (hval : R val = some (d, ps))
    (hK : ∀ w', w'.ownsMap P k R b (n + 1) (D.put kl d) → w.grownBy w' (some b) → wpList P ops Q rest (a.put o.dst undef) w') :
    wpList P ops Q (o :: rest) a w := by
  refine wpList_plain hg fun K' hK' => ?_
  obtain ⟨w', hrun, r1, r2⟩ := hown.update K ht hn hkey hval
  unfold Oper.wp
  simp [execOp, hop, hm, hx, hv, hrun, Result.andThen]
  exact hK' _ _ (hK w' r1 r2)

theorem always_any (f : Nat) (w : World) : Calls Try.prog 36 #[.func (.func f) #[] #[]] w fun e w' => e = .returned (fnV 57 w.heap.size) ∧ w.alloc (.cells #[.func (.func f) #[] #[]] 90) = w' := by
  go_enter Try.func36, Try.ntmps36
  go_wp2
  go_ret
  exact ⟨rfl, rfl⟩
theorem unless_any (f : Nat) (w : World) : Calls Try.prog 40 #[.func (.func f) #[] #[]] w fun e w' => e = .returned (fnV 58 w.heap.size) ∧ w.alloc (.cells #[.func (.func f) #[] #[]] 90) = w' := by
  go_enter Try.func40, Try.ntmps40
  go_wp2
  go_ret
  exact ⟨rfl, rfl⟩

/-- What answers hands back. -/
def AnsOut (w : World) (e : Ending) (w' : World) : Prop := ∃ mp D, e = .returned (.map (some mp)) ∧ AnsUp w' w.heap.size mp D 10 [8, 9, 10, 11, 12, 13, 14, 15, 16, 17] ∧ Below w.heap.size w w'
set_option maxHeartbeats 2000000 in
set_option maxRecDepth 100000 in
theorem answers_any (w : World) : Calls Try.prog 26 #[] w (AnsOut w) := by
  have hmm := @run_makeMap Try.prog
  have HA := Lib.hid (AnsUp.start w)
  have HB := Lib.hid ((Below.refl w.heap.size w).alloc (Nat.le_refl _) (.map #[] 0))
  go_enter Try.func26, Try.ntmps26
  go_wp2_with (first
    | (go_at_call 36; refine (always_any _ _).mono ?_; rintro e w' ⟨rfl, rfl⟩)
    | (go_at_call 40; refine (unless_any _ _).mono ?_; rintro e w' ⟨rfl, rfl⟩)
    | (refine wpList_insert_own _ rfl _ _ _ 70 rfl 50 88 Try.kOp Try.underlying70 fnE _ _ _ rfl (HA.out.alloc _).own (by unfold maxLen; omega) (.int .i64 8) _ _ rfl rfl (Maps.keyOf_int_mk Try.underlying50 (by decide)) (fnD _ _) [] rfl ?_; intro w1 hown hg; have HA1 := HA.out.step 8 (by decide) (by decide) rfl rfl (by first | rfl | simp) hown hg; have HB1 := (HB.out.alloc HB.out.size _).grown hg (by simp; have := HB.out.size; omega) (by rintro k ⟨⟩; exact Nat.le_refl _); clear HA HB hown hg; have HA := Lib.hid HA1; have HB := Lib.hid HB1; clear HA1 HB1)
    | (refine wpList_insert_own _ rfl _ _ _ 70 rfl 50 88 Try.kOp Try.underlying70 fnE _ _ _ rfl (HA.out.alloc _).own (by unfold maxLen; omega) (.int .i64 9) _ _ rfl rfl (Maps.keyOf_int_mk Try.underlying50 (by decide)) (fnD _ _) [] rfl ?_; intro w1 hown hg; have HA1 := HA.out.step 9 (by decide) (by decide) rfl rfl (by first | rfl | simp) hown hg; have HB1 := (HB.out.alloc HB.out.size _).grown hg (by simp; have := HB.out.size; omega) (by rintro k ⟨⟩; exact Nat.le_refl _); clear HA HB hown hg; have HA := Lib.hid HA1; have HB := Lib.hid HB1; clear HA1 HB1)
    | (refine wpList_insert_own _ rfl _ _ _ 70 rfl 50 88 Try.kOp Try.underlying70 fnE _ _ _ rfl (HA.out.alloc _).own (by unfold maxLen; omega) (.int .i64 10) _ _ rfl rfl (Maps.keyOf_int_mk Try.underlying50 (by decide)) (fnD _ _) [] rfl ?_; intro w1 hown hg; have HA1 := HA.out.step 10 (by decide) (by decide) rfl rfl (by first | rfl | simp) hown hg; have HB1 := (HB.out.alloc HB.out.size _).grown hg (by simp; have := HB.out.size; omega) (by rintro k ⟨⟩; exact Nat.le_refl _); clear HA HB hown hg; have HA := Lib.hid HA1; have HB := Lib.hid HB1; clear HA1 HB1)
    | (refine wpList_insert_own _ rfl _ _ _ 70 rfl 50 88 Try.kOp Try.underlying70 fnE _ _ _ rfl (HA.out.alloc _).own (by unfold maxLen; omega) (.int .i64 11) _ _ rfl rfl (Maps.keyOf_int_mk Try.underlying50 (by decide)) (fnD _ _) [] rfl ?_; intro w1 hown hg; have HA1 := HA.out.step 11 (by decide) (by decide) rfl rfl (by first | rfl | simp) hown hg; have HB1 := (HB.out.alloc HB.out.size _).grown hg (by simp; have := HB.out.size; omega) (by rintro k ⟨⟩; exact Nat.le_refl _); clear HA HB hown hg; have HA := Lib.hid HA1; have HB := Lib.hid HB1; clear HA1 HB1)
    | (refine wpList_insert_own _ rfl _ _ _ 70 rfl 50 88 Try.kOp Try.underlying70 fnE _ _ _ rfl (HA.out.alloc _).own (by unfold maxLen; omega) (.int .i64 12) _ _ rfl rfl (Maps.keyOf_int_mk Try.underlying50 (by decide)) (fnD _ _) [] rfl ?_; intro w1 hown hg; have HA1 := HA.out.step 12 (by decide) (by decide) rfl rfl (by first | rfl | simp) hown hg; have HB1 := (HB.out.alloc HB.out.size _).grown hg (by simp; have := HB.out.size; omega) (by rintro k ⟨⟩; exact Nat.le_refl _); clear HA HB hown hg; have HA := Lib.hid HA1; have HB := Lib.hid HB1; clear HA1 HB1)
    | (refine wpList_insert_own _ rfl _ _ _ 70 rfl 50 88 Try.kOp Try.underlying70 fnE _ _ _ rfl (HA.out.alloc _).own (by unfold maxLen; omega) (.int .i64 13) _ _ rfl rfl (Maps.keyOf_int_mk Try.underlying50 (by decide)) (fnD _ _) [] rfl ?_; intro w1 hown hg; have HA1 := HA.out.step 13 (by decide) (by decide) rfl rfl (by first | rfl | simp) hown hg; have HB1 := (HB.out.alloc HB.out.size _).grown hg (by simp; have := HB.out.size; omega) (by rintro k ⟨⟩; exact Nat.le_refl _); clear HA HB hown hg; have HA := Lib.hid HA1; have HB := Lib.hid HB1; clear HA1 HB1)
    | (refine wpList_insert_own _ rfl _ _ _ 70 rfl 50 88 Try.kOp Try.underlying70 fnE _ _ _ rfl (HA.out.alloc _).own (by unfold maxLen; omega) (.int .i64 14) _ _ rfl rfl (Maps.keyOf_int_mk Try.underlying50 (by decide)) (fnD _ _) [] rfl ?_; intro w1 hown hg; have HA1 := HA.out.step 14 (by decide) (by decide) rfl rfl (by first | rfl | simp) hown hg; have HB1 := (HB.out.alloc HB.out.size _).grown hg (by simp; have := HB.out.size; omega) (by rintro k ⟨⟩; exact Nat.le_refl _); clear HA HB hown hg; have HA := Lib.hid HA1; have HB := Lib.hid HB1; clear HA1 HB1)
    | (refine wpList_insert_own _ rfl _ _ _ 70 rfl 50 88 Try.kOp Try.underlying70 fnE _ _ _ rfl (HA.out.alloc _).own (by unfold maxLen; omega) (.int .i64 15) _ _ rfl rfl (Maps.keyOf_int_mk Try.underlying50 (by decide)) (fnD _ _) [] rfl ?_; intro w1 hown hg; have HA1 := HA.out.step 15 (by decide) (by decide) rfl rfl (by first | rfl | simp) hown hg; have HB1 := (HB.out.alloc HB.out.size _).grown hg (by simp; have := HB.out.size; omega) (by rintro k ⟨⟩; exact Nat.le_refl _); clear HA HB hown hg; have HA := Lib.hid HA1; have HB := Lib.hid HB1; clear HA1 HB1)
    | (refine wpList_insert_own _ rfl _ _ _ 70 rfl 50 88 Try.kOp Try.underlying70 fnE _ _ _ rfl (HA.out.alloc _).own (by unfold maxLen; omega) (.int .i64 16) _ _ rfl rfl (Maps.keyOf_int_mk Try.underlying50 (by decide)) (fnD _ _) [] rfl ?_; intro w1 hown hg; have HA1 := HA.out.step 16 (by decide) (by decide) rfl rfl (by first | rfl | simp) hown hg; have HB1 := (HB.out.alloc HB.out.size _).grown hg (by simp; have := HB.out.size; omega) (by rintro k ⟨⟩; exact Nat.le_refl _); clear HA HB hown hg; have HA := Lib.hid HA1; have HB := Lib.hid HB1; clear HA1 HB1)
    | (refine wpList_insert_own _ rfl _ _ _ 70 rfl 50 88 Try.kOp Try.underlying70 fnE _ _ _ rfl (HA.out.alloc _).own (by unfold maxLen; omega) (.int .i64 17) _ _ rfl rfl (Maps.keyOf_int_mk Try.underlying50 (by decide)) (fnD _ _) [] rfl ?_; intro w1 hown hg; have HA1 := HA.out.step 17 (by decide) (by decide) rfl rfl (by first | rfl | simp) hown hg; have HB1 := (HB.out.alloc HB.out.size _).grown hg (by simp; have := HB.out.size; omega) (by rintro k ⟨⟩; exact Nat.le_refl _); clear HA HB hown hg; have HA := Lib.hid HA1; have HB := Lib.hid HB1; clear HA1 HB1))
  go_ret
  exact ⟨_, _, rfl, HA.out, HB.out⟩
end Go.Proofs.Ytknepljmbpdpkaa
