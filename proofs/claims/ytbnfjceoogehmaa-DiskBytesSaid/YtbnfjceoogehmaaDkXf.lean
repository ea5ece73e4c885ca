/- DiskBytes: the law. -/
import Derived.Test.YtbnfjceoogehmaaDkXe
import Derived.Test.YtbnfjceoogehmaaDkW
import Derived.Laws.AppendOwnNone
namespace Go.Proofs.Ytbnfjceoogehmaa
open Go.RowKit
open Go.Maps (Keyed)
attribute [local go_sem] Oper.semAt_some

/-- append of a slice that came in, nil or not, onto a row of the call's own. -/
theorem app_opt9 {P : Program} {w : World} {ops : Array Oper} {rest : List Oper} {o : Oper} {a : Act} {Q : Exit → Act → World → Prop} (hgd : o.guard = none) (s x : Operand) (t : TypeId)
    (ho : o.op = .call { callee := .builtin .append, args := #[s, x], argTypes := #[t, t] })
    (base : Nat) (e : TypeId) (i : TypeInfo) (z : Value) (size bytes : Nat) (ht : P.underlying t = some (.slice e)) (hi : P.info? e = some i) (hz : i.zero = some z)
    (hsize : i.size = size) (hby : i.bytes = bytes) (hzs : z.cells.size = size) (hsz : 0 < size)
    (v : Value) (n : Nat) (xs : List Value) (hs : a.eval s = v) (hown : w.ownsRow base e size v n xs)
    (A : Option Addr) (m c : Nat) (news : List Value) (hx : a.eval x = .slice A m c) (hA : A = none → m = 0 ∧ c = 0) (hl : news.length = m * size) (hnews : ∀ ad, A = some ad → ∀ j u, news[j]? = some u → w.cell? (ad.add j) = some u) (h1 : ∀ u ∈ news, u.oneCell' = true)
    (h63 : n + m ≤ maxLen) (hbytes : (n + m) * bytes ≤ 140737488355328) (hbase : base ≤ w.heap.size)
    (h : ∀ v' w', w'.ownsRow base e size v' (n + m) (xs ++ news) → w.grownBy w' v.ownBlock → wpList P ops Q rest (a.put o.dst v') w') : wpList P ops Q (o :: rest) a w := by
  cases A with
  | none =>
    obtain ⟨rfl, rfl⟩ := hA rfl
    have hn : news = [] := List.eq_nil_of_length_eq_zero (by simpa using hl)
    subst hn
    exact wpList_append_own_none hgd s x t ho base e i size ht hi v n xs hs hown hx (h v w (by simpa using hown) (World.grownBy.refl w _))
  | some ad =>
    exact wpList_append_own _ hgd s x t ho base e i z size bytes ht hi hz hsize hby hzs hsz v n xs hs hown ad m c news hx hl (hnews ad rfl) h1 h63 hbytes hbase fun v' w' h2 h3 _ => h v' w' h2 h3
theorem str_119 : strOfNums [119] = ⟨#[119]⟩ := by kernel_rfl
theorem str_snoc9 (l : List Int) : strOfNums (l ++ [119]) = strOfNums l ++ ⟨#[119]⟩ := by
  rw [← str_119]
  apply ByteArray.ext
  simp [strOfNums, ByteArray.data_append]
theorem conv_bytes9 {w : World} {A : Option Addr} {l : List Int} (h : ByteIn w A l) (c : Nat) :
    (convert 35 9 (.slice A l.length c)).run Try.prog w = .ok (.string (strOfNums l)) w := by
  by_cases hn : l.length = 0
  · have hz : l = [] := List.eq_nil_of_length_eq_zero hn
    subst hz
    rw [run_convert_bytes_string w 35 9 5 _ _ c Try.underlying35 Try.underlying5 Try.underlying9]
    cases A <;> simp [Conv.bytesToString, loadCells] <;> rfl
  · obtain ⟨b, o, rfl, -⟩ := h 0 _ (List.getElem?_eq_getElem (by omega))
    refine run_convert_bytes_arg w 35 5 Try.underlying35 Try.underlying5 b o _ c l rfl (fun j hj => ?_) 9 Try.underlying9
    rw [List.getD_eq_getElem?_getD, List.getElem?_eq_getElem hj]
    obtain ⟨b', o', e, hc⟩ := h j _ (List.getElem?_eq_getElem hj)
    cases e
    exact hc
theorem own_pos9 {w : World} {B n : Nat} {v : Value} {xs : List Value} {e : TypeId} (h : w.ownsRow B e 1 v n xs) (hn : 0 < n) : ∃ g c cur, v = .slice (some ⟨g, 0, none⟩) n c ∧ B ≤ g ∧ w.heap[g]? = some (.cells cur e (0, 0)) ∧ n ≤ c ∧ n ≤ cur.size ∧ ∀ (j : Nat) (u : Value), xs[j]? = some u → w.cell? ⟨g, 0 + j, none⟩ = some u := by
  have h0 := h
  rcases h.2 with ⟨_, hx⟩ | ⟨g, c, cur, e, hg, hc, hn2, -, hsz, htake⟩
  · omega
  · refine ⟨g, c, cur, e, hg, hc, hn2, by omega, fun j u hj => ?_⟩
    have := h.cells (g := g) (by rw [e]; rfl) j u hj
    rwa [Addr.add_lit] at this
theorem one_cells9 (w : World) (v : Value) (t : TypeId) : ∀ (j : Nat) (u : Value), [v][j]? = some u → (w.alloc (.cells #[v] t)).cell? ((⟨w.heap.size, 0, none⟩ : Addr).add j) = some u := fun j u h => by
  have hj : j = 0 := by
    have := (List.getElem?_eq_some_iff.1 h).1
    simpa using this
  subst hj
  rw [Addr.add_lit, cell_of_row _ _ _ _ _ _ (heap_alloc_new w _)]
  exact h
theorem of_bad9 {w : World} (A : Option Addr) (m c : Nat) (h : m % 128 ≠ 0 ∨ m = 0) : Calls Try.prog 15 #[.slice A m c] w fun e w' => e = .returned (.tuple #[.pointer none, .int .i64 2]) ∧ w = w' := by
  rcases h with h | rfl
  · exact of_odd9 A m c h
  · exact of_big9 A 0 c (by omega) (by omega)
theorem qof_bad9 {w : World} (A : Option Addr) (m c : Nat) (h : m % 128 ≠ 0 ∨ m = 0) : Calls Try.prog 16 #[.slice A m c] w fun e w' => e = .returned (.pointer none) ∧ w = w' := by
  rcases h with h | rfl
  · exact qof_odd9 A m c h
  · exact qof_big9 A 0 c (by omega) (by omega)
/-- All that came is overwritten, and nothing else. -/
structure OverB (W : World) (g m : Nat) (wr : World) : Prop where
  os : wr.os = W.os
  tape : wr.tape = W.tape
  output : wr.output = W.output
  size : wr.heap.size = W.heap.size
  block : ∀ k, k ≠ g → wr.heap[k]? = W.heap[k]?
  row : ∃ cur, wr.heap[g]? = some (.cells cur 5 (0, 0)) ∧ m ≤ cur.size
theorem OverB.below {B g m : Nat} {w W wr : World} (h : OverB W g m wr) (hb : Below B w W) (hg : B ≤ g) : Below B w wr :=
  ⟨h.os.trans hb.os, h.tape.trans hb.tape, h.output.trans hb.output, by rw [h.size]; exact hb.size, fun k hk => (h.block k (by omega)).trans (hb.block k hk)⟩
theorem OverB.set {g m i : Nat} {W wr : World} (h : OverB W g m wr) (v : Value) : OverB W g m (wr.setCell ⟨g, i, none⟩ v) := by
  obtain ⟨cur, hr, hs⟩ := h.row
  exact ⟨h.os, h.tape, h.output, by rw [← h.size]; simp, fun k hk => (heap_setCell_other _ _ _ _ hk).trans (h.block k hk), _, heap_setCell_same _ _ _ _ _ _ hr, by simpa using hs⟩
theorem QdIs.over {B n k : Nat} {C : Nat → Sec} {v : Value} {b : Nat → Nat} {w w' : World} {g m : Nat} (h : QdIs B n k C v b w) (hb : OverB w g m w') (hg : g < B) : QdIs B n k C v b w' := by
  refine ⟨(hb.block _ (by omega)).trans h.pend, (hb.block _ (by omega)).trans h.disk, h.own.kept (row := some g) ⟨hb.os, hb.tape, hb.output, by rw [hb.size]; exact Nat.le_refl _, fun j hj hne => hb.block j (fun e => hne (by rw [e]))⟩ (.inr (fun e => by have := (h.own.lt _ e).1; omega)), fun i hi => ?_, h.apart⟩
  obtain ⟨h1, h2, h3, h4⟩ := h.sec i hi
  exact ⟨h1, by rw [hb.size]; exact h2, h3, (hb.block _ (by omega)).trans h4⟩
set_option maxRecDepth 100000 in
set_option maxHeartbeats 4000000 in
theorem disk_bytes_bad {w : World} {A : Option Addr} {l : List Int} {c : Nat} (hA : A = none → l.length = 0 ∧ c = 0) (hb : ByteIn w A l) (hm : l.length ≤ 20000) (bad : l.length % 128 ≠ 0 ∨ l.length = 0) :
    Calls Try.prog 4 #[.slice A l.length c] w fun e w' => e = .returned (.bool true) ∧ Below w.heap.size w w' := by
  obtain ⟨i0, hi, hz0, hz1, hz2⟩ := info_parts Try.infoU8k
  have hz2 : i0.bytes = 1 := hz2
  have HB := Lib.hid hb
  have HA := Lib.hid hA
  have HBAD := Lib.hid bad
  obtain ⟨m, hml⟩ : ∃ m, l.length = m := ⟨_, rfl⟩
  have HML := Lib.hid hml
  rw [hml] at hm HA HBAD ⊢
  have hm' : ¬ (20000 : Int) < m := by omega
  clear hb hA bad hml
  go_enter Try.func4, Try.ntmps4
  have HSRC := Lib.hid (show ∀ ad, A = some ad → ∀ j u, (l.map (Value.int .u8))[j]? = some u → w.cell? (ad.add j) = some u from fun ad e j u hu => by
    rw [List.getElem?_map] at hu
    obtain ⟨x, hx, rfl⟩ := Option.map_eq_some_iff.1 hu
    obtain ⟨b, o, e', hc⟩ := HB.out j x hx
    rw [e] at e'; cases e'
    rw [Addr.add_lit]; exact hc)
  have hfit : ¬ 9223372036854775807 < (strOfNums l).size + 1 := by
    rw [show (strOfNums l).size = l.length by simp [strOfNums, ByteArray.size]]; have := HML.out; omega
  obtain ⟨FS, hFS⟩ : ∃ FS, strOfNums l = FS := ⟨_, rfl⟩
  rw [hFS] at hfit
  have HFS := Lib.hid hFS
  clear hFS
  go_wp2_with (first
    | (at_builtin; refine app_opt9 rfl _ _ 35 rfl w.heap.size 5 i0 (.int .u8 0) 1 1 Try.underlying35 hi hz0 hz1 hz2 rfl (by decide) (.slice none 0 0) 0 [] rfl ⟨rfl, .inl ⟨rfl, rfl⟩⟩ A m c (l.map (Value.int .u8)) rfl HA.out (by simp [HML.out]) HSRC.out (fun u hu => by obtain ⟨x, -, rfl⟩ := List.mem_map.1 hu; rfl) (by unfold maxLen; omega) (by omega) (Nat.le_refl _) ?_; intro v1 w1 ho1 hg1; have HO1 := Lib.hid ho1; have HG1 := Lib.hid hg1; have hs1 := hg1.size; clear ho1 hg1)
    | (at_builtin; refine wpList_append_own _ rfl _ _ 35 rfl w.heap.size 5 i0 (.int .u8 0) 1 1 Try.underlying35 hi hz0 hz1 hz2 rfl (by decide) v1 (0 + m) ([] ++ l.map (Value.int .u8)) rfl (HO1.out.alloc _) ⟨w1.heap.size, 0, none⟩ 1 1 [.int .u8 119] rfl rfl (one_cells9 w1 _ _) (by simp [Value.oneCell']) (by unfold maxLen; omega) (by omega) (by simp; omega) ?_; intro v2 w2 ho2 hg2 _; obtain ⟨g, cp, cur, hv2, hgB, hcur, hcp, hcs, hcells⟩ := own_pos9 ho2 (by omega); subst hv2
       have HBL := Lib.hid (show Below w.heap.size w w2 from (((Below.refl _ w).grown HG1.out (Nat.le_refl _) (fun k e => by cases e)).alloc hs1 _).grown hg2 (by simp; omega) (fun k e => (HO1.out.lt k e).1))
       have hcvA : (convert 35 9 (.slice (some ⟨g, 0, none⟩) (m + 1) cp)).run Try.prog w2 = .ok (.string (FS ++ ⟨#[119]⟩)) w2 := by
         have := conv_bytes9 (w := w2) (A := some ⟨g, 0, none⟩) (l := l ++ [119]) (fun j x hx => ⟨g, 0, rfl, hcells j _ (by rw [List.nil_append, show l.map (Value.int .u8) ++ [Value.int .u8 119] = (l ++ [119]).map (Value.int .u8) by simp, List.getElem?_map, hx]; rfl)⟩) cp
         rw [show (l ++ [(119 : Int)]).length = m + 1 by simp [HML.out], str_snoc9, HFS.out] at this
         exact this
       have hcvB : (convert 35 9 (.slice A m c)).run Try.prog w2 = .ok (.string FS) w2 := by
         have := conv_bytes9 (HB.out.below HBL.out) c
         rw [HML.out, HFS.out] at this
         exact this
       have HCUR := Lib.hid hcur
       have hcp' : m ≤ cp := by omega
       clear ho2 hg2 hcur hcells)
    | (go_at_call 15; refine (of_bad9 _ m cp HBAD.out).mono ?_; rintro e w' ⟨rfl, rfl⟩)
    | (go_at_call 16; refine (qof_bad9 _ m c HBAD.out).mono ?_; rintro e w' ⟨rfl, rfl⟩))
  go_loopw [7] (fun i wr => ∃ k : Nat, k ≤ m + 1 ∧ i = .int .i64 (k : Int) ∧ OverB w2 g (m + 1) wr) (fun i _ => m + 1 - (intOf i).toNat)
  case atStart => exact ⟨0, by omega, rfl, rfl, rfl, rfl, rfl, fun _ _ => rfl, cur, HCUR.out, by omega⟩
  case round =>
    obtain ⟨k, hk, rfl, ho⟩ := hrel
    obtain ⟨cur', hr, hs'⟩ := ho.row
    have HO := Lib.hid ho
    by_cases hlt : k < m + 1
    · have hlt' : (k : Int) < m + 1 := by omega
      have ck : wr.cell? ⟨g, k, none⟩ = some (cur'[k]'(by omega)) := by rw [cell_of_row _ _ _ _ _ _ hr]; exact Array.getElem?_eq_getElem (by omega)
      have fk : wr.frozen? ⟨g, k, none⟩ = false := frozen_of_row _ _ _ _ _ hr
      clear hr ho
      go_wp2
      go_roundw
      case rel => exact ⟨k + 1, by omega, by go_num, HO.out.set _⟩
      case measure => simp [intOf]; omega
    · have hlt' : ¬ (k : Int) < m + 1 := by omega
      have HBR := Lib.hid (HO.out.below HBL.out hgB)
      clear hr ho
      go_wp2_with (first
        | (go_at_call 10; refine (num_any9 _ _).mono ?_; rintro e w' ⟨rfl, rfl⟩)
        | (go_at_call 11; refine (known_any9 _).mono ?_; rintro e w5 ⟨rfl, hb5⟩; have HB5 := Lib.hid hb5; clear hb5))
      go_ret
      exact ⟨rfl, HBR.out.trans (HB5.out.mono HBR.out.size)⟩
set_option maxRecDepth 100000 in
set_option maxHeartbeats 4000000 in
theorem disk_bytes_good {w : World} {A : Option Addr} {l : List Int} {c : Nat} (hA : A = none → l.length = 0 ∧ c = 0) (hb : ByteIn w A l) (h01 : ∀ x ∈ l, 0 ≤ x ∧ x < 256) (hlc : l.length ≤ c) (n : Nat) (h1 : 1 ≤ n) (h2 : n ≤ 4096) (hn : l.length = n * 128) (hm : l.length ≤ 20000) :
    Calls Try.prog 4 #[.slice A l.length c] w fun e w' => e = .returned (.bool true) ∧ Below w.heap.size w w' := by
  obtain ⟨i0, hi, hz0, hz1, hz2⟩ := info_parts Try.infoU8k
  have hz2 : i0.bytes = 1 := hz2
  have HB := Lib.hid hb
  have HA := Lib.hid hA
  have HOF := Lib.hid (show ∀ (W : World) (A' : Option Addr) (c' : Nat), ByteIn W A' l → l.length ≤ c' → Calls Try.prog 15 #[.slice A' l.length c'] W (NewOut9 W (newD (flK l n n) 0)) from fun W A' c' hb' hc' => of_yes9 hb' h01 n hn h1 h2 c' hc')
  have HQF := Lib.hid (show ∀ (W : World) (A' : Option Addr) (c' : Nat), ByteIn W A' l → l.length ≤ c' → Calls Try.prog 16 #[.slice A' l.length c'] W (fun e w' => e = .returned (.pointer (some ⟨W.heap.size + 1, 0, none⟩)) ∧ QdAt W.heap.size n n (chK l n) w' ∧ Below W.heap.size W w') from fun W A' c' hb' hc' => qof_yes9 hb' h01 n hn h1 h2 c' hc')
  have HCH := Lib.hid (show ∀ i, i < n → SecOk (chK l n i) from fun i hi => by unfold chK; rw [if_pos hi]; exact chunk_ok hn hi h01)
  obtain ⟨m, hml⟩ : ∃ m, l.length = m := ⟨_, rfl⟩
  have HML := Lib.hid hml
  rw [hml] at hm HA HOF HQF hlc ⊢
  have hm' : ¬ (20000 : Int) < m := by omega
  clear hb hA hml hn h01
  go_enter Try.func4, Try.ntmps4
  have HSRC := Lib.hid (show ∀ ad, A = some ad → ∀ j u, (l.map (Value.int .u8))[j]? = some u → w.cell? (ad.add j) = some u from fun ad e j u hu => by
    rw [List.getElem?_map] at hu
    obtain ⟨x, hx, rfl⟩ := Option.map_eq_some_iff.1 hu
    obtain ⟨b, o, e', hc⟩ := HB.out j x hx
    rw [e] at e'; cases e'
    rw [Addr.add_lit]; exact hc)
  have hfit : ¬ 9223372036854775807 < (strOfNums l).size + 1 := by
    rw [show (strOfNums l).size = l.length by simp [strOfNums, ByteArray.size]]; have := HML.out; omega
  obtain ⟨FS, hFS⟩ : ∃ FS, strOfNums l = FS := ⟨_, rfl⟩
  rw [hFS] at hfit
  have HFS := Lib.hid hFS
  clear hFS
  go_wp2_with (first
    | (at_builtin; refine app_opt9 rfl _ _ 35 rfl w.heap.size 5 i0 (.int .u8 0) 1 1 Try.underlying35 hi hz0 hz1 hz2 rfl (by decide) (.slice none 0 0) 0 [] rfl ⟨rfl, .inl ⟨rfl, rfl⟩⟩ A m c (l.map (Value.int .u8)) rfl HA.out (by simp [HML.out]) HSRC.out (fun u hu => by obtain ⟨x, -, rfl⟩ := List.mem_map.1 hu; rfl) (by unfold maxLen; omega) (by omega) (Nat.le_refl _) ?_; intro v1 w1 ho1 hg1; have HO1 := Lib.hid ho1; have HG1 := Lib.hid hg1; have hs1 := hg1.size; clear ho1 hg1)
    | (at_builtin; refine wpList_append_own _ rfl _ _ 35 rfl w.heap.size 5 i0 (.int .u8 0) 1 1 Try.underlying35 hi hz0 hz1 hz2 rfl (by decide) v1 (0 + m) ([] ++ l.map (Value.int .u8)) rfl (HO1.out.alloc _) ⟨w1.heap.size, 0, none⟩ 1 1 [.int .u8 119] rfl rfl (one_cells9 w1 _ _) (by simp [Value.oneCell']) (by unfold maxLen; omega) (by omega) (by simp; omega) ?_; intro v2 w2 ho2 hg2 _; obtain ⟨g, cp, cur, hv2, hgB, hcur, hcp, hcs, hcells⟩ := own_pos9 ho2 (by omega); subst hv2
       have HBL := Lib.hid (show Below w.heap.size w w2 from (((Below.refl _ w).grown HG1.out (Nat.le_refl _) (fun k e => by cases e)).alloc hs1 _).grown hg2 (by simp; omega) (fun k e => (HO1.out.lt k e).1))
       have HBY := Lib.hid (show ByteIn w2 (some ⟨g, 0, none⟩) (l ++ [119]) from fun j x hx => ⟨g, 0, rfl, hcells j _ (by rw [List.nil_append, show l.map (Value.int .u8) ++ [Value.int .u8 119] = (l ++ [119]).map (Value.int .u8) by simp, List.getElem?_map, hx]; rfl)⟩)
       have HBYl := Lib.hid (show ByteIn w2 (some ⟨g, 0, none⟩) l from fun j x hx => HBY.out j x (by rw [List.getElem?_append_left (List.getElem?_eq_some_iff.1 hx).1]; exact hx))
       have hgl := (Array.getElem?_eq_some_iff.1 hcur).1
       have HCUR := Lib.hid hcur
       have hcp' : m ≤ cp := by omega
       clear ho2 hg2 hcur hcells)
    | (go_at_call 15; refine (HOF.out w2 (some ⟨g, 0, none⟩) cp HBYl.out hcp').mono ?_; rintro e w3 ⟨d, O, L, rfl, hd, hO, hb3⟩; have HD := Lib.hid hd; have HO3 := Lib.hid hO; have HB3 := Lib.hid hb3; have hs3 := hb3.size; clear hd hO hb3)
    | (go_at_call 16; refine (HQF.out w3 A c ((HB.out.below HBL.out).below HB3.out) hlc).mono ?_; rintro e w4 ⟨rfl, ⟨qv, qb, hq⟩, hb4⟩
       have HB4 := Lib.hid (HB3.out.trans (hb4.mono hs3))
       have HD4 := Lib.hid (HD.out.step hb4)
       have HQ4 := Lib.hid hq
       have hcvA : (convert 35 9 (.slice (some ⟨g, 0, none⟩) (m + 1) cp)).run Try.prog w4 = .ok (.string (FS ++ ⟨#[119]⟩)) w4 := by
         have := conv_bytes9 (HBY.out.below HB4.out) cp
         rw [show (l ++ [(119 : Int)]).length = m + 1 by simp [HML.out], str_snoc9, HFS.out] at this
         exact this
       have hcvB : (convert 35 9 (.slice A m c)).run Try.prog w4 = .ok (.string FS) w4 := by
         have := conv_bytes9 ((HB.out.below HBL.out).below HB4.out) c
         rw [HML.out, HFS.out] at this
         exact this
       have HCUR4 := Lib.hid ((HB4.out.block g hgl).trans HCUR.out)
       have HBL4 := Lib.hid (HBL.out.trans (HB4.out.mono HBL.out.size))
       clear hq hb4))
  go_loopw [7] (fun i wr => ∃ k : Nat, k ≤ m + 1 ∧ i = .int .i64 (k : Int) ∧ OverB w4 g (m + 1) wr) (fun i _ => m + 1 - (intOf i).toNat)
  case atStart => exact ⟨0, by omega, rfl, rfl, rfl, rfl, rfl, fun _ _ => rfl, cur, HCUR4.out, by omega⟩
  case round =>
    obtain ⟨k, hk, rfl, ho⟩ := hrel
    obtain ⟨cur', hr, hs'⟩ := ho.row
    have HO := Lib.hid ho
    by_cases hlt : k < m + 1
    · have hlt' : (k : Int) < m + 1 := by omega
      have ck : wr.cell? ⟨g, k, none⟩ = some (cur'[k]'(by omega)) := by rw [cell_of_row _ _ _ _ _ _ hr]; exact Array.getElem?_eq_getElem (by omega)
      have fk : wr.frozen? ⟨g, k, none⟩ = false := frozen_of_row _ _ _ _ _ hr
      clear hr ho
      go_wp2
      go_roundw
      case rel => exact ⟨k + 1, by omega, by go_num, HO.out.set _⟩
      case measure => simp [intOf]; omega
    · have hlt' : ¬ (k : Int) < m + 1 := by omega
      have HBR := Lib.hid (HO.out.below HBL4.out hgB)
      have HDR := Lib.hid (HD4.out.keep (w' := wr) (by rw [ho.size]; exact Nat.le_refl _) (fun k hk => ho.block k (by have := HO3.out k hk; omega)))
      have HQR := Lib.hid (HQ4.out.over ho (by omega))
      clear hr ho
      go_wp2_with (first
        | (go_at_call 13; refine (stands_none9 HDR.out HQR.out h1 h2 HCH.out rfl (fun _ => rfl) rfl).mono ?_; rintro e w6 ⟨rfl, hb6⟩; have HB6 := Lib.hid hb6; clear hb6)
        | (go_at_call 10; refine (num_any9 _ _).mono ?_; rintro e w' ⟨rfl, rfl⟩)
        | (go_at_call 11; refine (known_any9 _).mono ?_; rintro e w5 ⟨rfl, hb5⟩; have HB5 := Lib.hid hb5; clear hb5))
      go_ret
      exact ⟨rfl, (HBR.out.trans (HB6.out.mono HBR.out.size)).trans (HB5.out.mono (Nat.le_trans HBR.out.size HB6.out.size))⟩
theorem disk_bytes_law {w : World} {A : Option Addr} {l : List Int} {c : Nat} (hA : A = none → l.length = 0 ∧ c = 0) (hb : ByteIn w A l) (h01 : ∀ x ∈ l, 0 ≤ x ∧ x < 256) (hc : l.length ≤ c) :
    Calls Try.prog 4 #[.slice A l.length c] w fun e w' => e = .returned (.bool true) ∧ Below w.heap.size w w' := by
  by_cases hm : l.length ≤ 20000
  · by_cases hbad : l.length % 128 ≠ 0 ∨ l.length = 0
    · exact disk_bytes_bad hA hb hm hbad
    · exact disk_bytes_good hA hb h01 hc (l.length / 128) (by omega) (by omega) (by omega) hm
  · obtain ⟨m, hml⟩ : ∃ m, l.length = m := ⟨_, rfl⟩
    rw [hml] at hm ⊢
    have hm' : (20000 : Int) < m := by omega
    clear hA hb h01 hc hml
    go_enter Try.func4, Try.ntmps4
    go_wp2_with (go_at_call 11; refine (known_any9 _).mono ?_; rintro e w5 ⟨rfl, hb5⟩; have HB5 := Lib.hid hb5; clear hb5)
    go_ret
    exact ⟨rfl, HB5.out⟩
end Go.Proofs.Ytbnfjceoogehmaa
