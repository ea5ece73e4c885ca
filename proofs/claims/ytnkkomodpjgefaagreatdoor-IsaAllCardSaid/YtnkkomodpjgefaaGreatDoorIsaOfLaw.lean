/- The walk of IsaOf. -/
import Derived.Test.YtnkkomodpjgefaaGreatDoorIsaG
import Derived.Test.YtnkkomodpjgefaaGreatDoorIsaKnown
import Derived.Test.YtnkkomodpjgefaaGreatDoorIsaIns
import Derived.Laws.AppendOwnNone
namespace Go.Proofs.YtnkkomodpjgefaaGreatDoor
open Go.RowKit Go.Sort

/-- append of a slice that came in, nil or not, onto a row of the call's own. -/
theorem app_opt {P : Program} {w : World} {ops : Array Oper} {rest : List Oper} {o : Oper} {a : Act} {Q : Exit → Act → World → Prop} (hgd : o.guard = none) (s x : Operand) (t : TypeId)
    (ho : o.op = .call { callee := .builtin .append, args := #[s, x], argTypes := #[t, t] })
    (base : Nat) (e : TypeId) (i : TypeInfo) (z : Value) (size bytes : Nat) (ht : P.underlying t = some (.slice e)) (hi : P.info? e = some i) (hz : i.zero = some z)
    (hsize : i.size = size) (hby : i.bytes = bytes) (hzs : z.cells.size = size) (hsz : 0 < size)
    (v : Value) (n : Nat) (xs : List Value) (hs : a.eval s = v) (hown : w.ownsRow base e size v n xs)
    (A : Option Addr) (m c : Nat) (news : List Value) (hx : a.eval x = .slice A m c) (hA : A = none → m = 0 ∧ c = 0) (hl : news.length = m * size) (hnews : ∀ ad, A = some ad → ∀ j u, news[j]? = some u → w.cell? (ad.add j) = some u) (h1 : ∀ u ∈ news, u.oneCell' = true)
    (h63 : n + m ≤ maxLen) (hbytes : (n + m) * bytes ≤ 140737488355328) (hbase : base ≤ w.heap.size)
    (h : ∀ v' w', w'.ownsRow base e size v' (n + m) (xs ++ news) → w.grownBy w' v.ownBlock → wpList P ops Q rest (a.put o.dst v') w') : wpList P ops Q (o :: rest) a w := by
  cases A with
  | none =>
    obtain ⟨rfl, rfl⟩ := hA rfl
    have hn : news = [] := List.eq_nil_of_length_eq_zero (by simpa using hl)
    subst hn
    exact wpList_append_own_none hgd s x t ho base e i size ht hi v n xs hs hown hx (h v w (by simpa using hown) (World.grownBy.refl w _))
  | some ad =>
    exact wpList_append_own _ hgd s x t ho base e i z size bytes ht hi hz hsize hby hzs hsz v n xs hs hown ad m c news hx hl (hnews ad rfl) h1 h63 hbytes hbase fun v' w' h2 h3 _ => h v' w' h2 h3

/-- Bytes that came in, nil or not. -/
def BytesAt (w : World) (A : Option Addr) (L : List Int) : Prop := ∀ ad, A = some ad → ∀ j x, L[j]? = some x → w.cell? (ad.add j) = some (.int .u8 x)
theorem BytesAt.below {w w' : World} {A : Option Addr} {L : List Int} (h : BytesAt w A L) (hb : Below w.heap.size w w') : BytesAt w' A L := fun ad e j x hx => by
  have h1 := h ad e j x hx
  rw [hb.cell (World.block_lt_of_cell? w _ h1)]; exact h1
theorem spot_none {w : World} {ad : Addr} {v : Value} (h : w.cell? ad = some v) : ∃ b o, ad = ⟨b, o, none⟩ := by
  obtain ⟨b, o, s⟩ := ad
  cases s with
  | none => exact ⟨b, o, rfl⟩
  | some s =>
    unfold World.cell? at h
    split at h
    · simp at h
    · cases h

theorem BytesAt.news {w : World} {A : Option Addr} {L : List Int} (h : BytesAt w A L) : ∀ ad, A = some ad → ∀ j u, (L.map (Value.int .u8))[j]? = some u → w.cell? (ad.add j) = some u := fun ad e j u hu => by
  rw [List.getElem?_map] at hu
  cases hx : L[j]? with
  | none => rw [hx] at hu; cases hu
  | some x => rw [hx] at hu; cases hu; exact h ad e j x hx
/-- A row of the call's own, as a slice. -/
theorem own_slice {w : World} {B : Nat} {e : TypeId} {v : Value} {k n : Nat} {xs : List Value} (h : w.ownsRow B e k v n xs) (hn : 0 < n) :
    ∃ g cap, v = .slice (some ⟨g, 0, none⟩) n cap ∧ B ≤ g ∧ g < w.heap.size ∧ n ≤ cap ∧ cap ≤ maxLen := by
  rcases h.2 with ⟨_, hx⟩ | ⟨g, cap, cur, rfl, hb, hg, h1, h2, _⟩
  · omega
  · exact ⟨g, cap, rfl, hb, (Array.getElem?_eq_some_iff.1 hg).1, h1, h2⟩
theorem BytesAt.of_own {w : World} {B g cap n : Nat} {L M : List Int} (h : w.ownsRow B 5 1 (.slice (some ⟨g, 0, none⟩) n cap) n ((L ++ M).map (Value.int .u8))) : BytesAt w (some ⟨g, 0, none⟩) L := fun ad e j x hx => by
  cases e
  refine h.cells (g := g) rfl j _ ?_
  rw [List.getElem?_map, List.getElem?_append_left (by rcases Nat.lt_or_ge j L.length with h | h; exact h; rw [List.getElem?_eq_none h] at hx; cases hx), hx]; rfl
theorem str_size (L : List Int) : (strOfNums L).size = L.length := by simp [strOfNums, ByteArray.size]
theorem str_119 : strOfNums [119] = ⟨#[119]⟩ := by kernel_rfl
theorem ins_of {v : Int} (h : isWord v = true) : mayB (oOp v) (oD v) (oA v) (oB v) (oM v) = true ∧ wordOf (oOp v) (oD v) (oA v) (oB v) (oM v) = v := by
  unfold oOp oD oA oB oM
  rw [if_pos h, if_pos h, if_pos h, if_pos h, if_pos h]
  unfold isWord at h
  simpa using h
theorem insEq_self (op d a b m : Int) : insEq op d a b m op d a b m = true := by unfold insEq; simp
theorem str_snoc (L : List Int) (x : Int) : strOfNums (L ++ [x]) = strOfNums L ++ strOfNums [x] := by
  apply ba_eq
  simp [strOfNums, ByteArray.data_append]

def fourV (L : List Int) : Int := fourOf (L.getD 0 0) (L.getD 1 0) (L.getD 2 0) (L.getD 3 0)
def jOp (L : List Int) : Int := if L.length = 4 then oOp (fourV L) else 0
def jD (L : List Int) : Int := if L.length = 4 then oD (fourV L) else 0
def jA (L : List Int) : Int := if L.length = 4 then oA (fourV L) else 0
def jB (L : List Int) : Int := if L.length = 4 then oB (fourV L) else 0
def jM (L : List Int) : Int := if L.length = 4 then oM (fourV L) else 0
def jE (L : List Int) : Int := if L.length = 4 then oE (fourV L) else 4

theorem four_split {L : List Int} (h : L.length = 4) : ∃ x0 x1 x2 x3, L = [x0, x1, x2, x3] := by
  match L, h with
  | [x0, x1, x2, x3], _ => exact ⟨x0, x1, x2, x3, rfl⟩

theorem cells_four {w : World} {A : Option Addr} {x0 x1 x2 x3 : Int} (h : BytesAt w A [x0, x1, x2, x3]) (hA : A ≠ none) :
    ∃ b o, A = some ⟨b, o, none⟩ ∧ w.cell? ⟨b, o, none⟩ = some (.int .u8 x0) ∧ w.cell? ⟨b, o + 1, none⟩ = some (.int .u8 x1) ∧ w.cell? ⟨b, o + 2, none⟩ = some (.int .u8 x2) ∧ w.cell? ⟨b, o + 3, none⟩ = some (.int .u8 x3) := by
  obtain ⟨ad, rfl⟩ := Option.ne_none_iff_exists'.1 hA
  have h0 := h ad rfl 0 x0 rfl
  obtain ⟨b, o, rfl⟩ := spot_none (show w.cell? ad = _ from h0)
  exact ⟨b, o, rfl, h0, h _ rfl 1 x1 rfl, h _ rfl 2 x2 rfl, h _ rfl 3 x3 rfl⟩

theorem read_list {A : Option Addr} {n : Nat} (c : Nat) {L : List Int} {w : World} (h : BytesAt w A L) (hL : L.length = n) (hA : A = none → n = 0 ∧ c = 0) (hr : ∀ x ∈ L, 0 ≤ x ∧ x < 256) :
    Calls Tryz.prog 18 #[.slice A n c] w fun e w' => e = .returned (.tuple #[.agg #[.int .i64 (jOp L), .int .i64 (jD L), .int .i64 (jA L), .int .i64 (jB L), .int .i64 (jM L)], .int .i64 (jE L)]) ∧ Below w.heap.size w w' := by
  by_cases h4 : n = 4
  · subst h4
    obtain ⟨x0, x1, x2, x3, rfl⟩ := four_split hL
    obtain ⟨b, o, rfl, c0, c1, c2, c3⟩ := cells_four h (fun e => by have := hA e; omega)
    exact read_four b o c x0 x1 x2 x3 w c0 c1 c2 c3 (hr _ (by simp)) (hr _ (by simp)) (hr _ (by simp)) (hr _ (by simp))
  · have e : ∀ {α : Type} (a b : α), (if L.length = 4 then a else b) = b := fun a b => if_neg (by omega)
    unfold jOp jD jA jB jM jE
    simp only [e]
    exact read_other A n c w (by rw [bne_iff_ne]; omega)
theorem rread_list {A : Option Addr} {n : Nat} (c : Nat) {L : List Int} {w : World} (h : BytesAt w A L) (hL : L.length = n) (hA : A = none → n = 0 ∧ c = 0) (hr : ∀ x ∈ L, 0 ≤ x ∧ x < 256) :
    Calls Tryz.prog 19 #[.slice A n c] w fun e w' => e = .returned (.tuple #[.agg #[.int .i64 (jOp L), .int .i64 (jD L), .int .i64 (jA L), .int .i64 (jB L), .int .i64 (jM L)], .int .i64 (jE L)]) ∧ Below w.heap.size w w' := by
  by_cases h4 : n = 4
  · subst h4
    obtain ⟨x0, x1, x2, x3, rfl⟩ := four_split hL
    obtain ⟨b, o, rfl, c0, c1, c2, c3⟩ := cells_four h (fun e => by have := hA e; omega)
    exact rread_four b o c x0 x1 x2 x3 w c0 c1 c2 c3 (hr _ (by simp)) (hr _ (by simp)) (hr _ (by simp)) (hr _ (by simp))
  · have e : ∀ {α : Type} (a b : α), (if L.length = 4 then a else b) = b := fun a b => if_neg (by omega)
    unfold jOp jD jA jB jM jE
    simp only [e]
    exact rread_other A n c w (by rw [bne_iff_ne]; omega)

/-- Bytes that came in, as a string. -/
theorem arg_string {w : World} {A : Option Addr} {n c : Nat} {L : List Int} (h : BytesAt w A L) (hL : L.length = n) (hA : A = none → n = 0 ∧ c = 0) :
    (convert 22 9 (.slice A n c)).run Tryz.prog w = .ok (.string (strOfNums L)) w := by
  cases A with
  | none =>
    obtain ⟨rfl, rfl⟩ := hA rfl
    have hz : L = [] := List.eq_nil_of_length_eq_zero hL
    subst hz
    exact run_convert_bytes_nil w 22 5 Tryz.underlying22 Tryz.underlying5 0 0 9 Tryz.underlying9
  | some ad =>
    by_cases hn : n = 0
    · subst hn
      have hz : L = [] := List.eq_nil_of_length_eq_zero hL
      subst hz
      rw [run_convert_bytes_string w 22 9 5 _ 0 c Tryz.underlying22 Tryz.underlying5 Tryz.underlying9]
      simp [Conv.bytesToString, loadCells]
      rfl
    · obtain ⟨x, hx⟩ : ∃ x, L[0]? = some x := ⟨L[0], List.getElem?_eq_getElem (by omega)⟩
      obtain ⟨b, o, rfl⟩ := spot_none (show w.cell? ad = _ from h ad rfl 0 x hx)
      refine run_convert_bytes_arg w 22 5 Tryz.underlying22 Tryz.underlying5 b o n c L hL (fun j hj => ?_) 9 Tryz.underlying9
      have := h _ rfl j (L[j]) (List.getElem?_eq_getElem (by omega))
      rw [List.getD_eq_getElem?_getD, List.getElem?_eq_getElem (by omega)]
      show _ = some (Value.int .u8 L[j])
      rw [← this]
      unfold Addr.add
      split
      · rename_i e; subst e; rfl
      · rfl

end Go.Proofs.YtnkkomodpjgefaaGreatDoor
