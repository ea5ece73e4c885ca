/- The walk of IsaAll. -/
import Derived.Test.YtnkkomodpjgefaaGreatDoorIsaAll3
import Derived.Test.YtnkkomodpjgefaaGreatDoorIsaRound
import Derived.IntWalk
namespace Go.Proofs.YtnkkomodpjgefaaGreatDoor
open Go.RowKit Go.Shelf Go.Sort
attribute [local go_sem] Oper.semAt_some

theorem own_bytes {w : World} {B n : Nat} {sa : Option Addr} {sc : Nat} {L : List Int} (h : w.ownsRow B 5 1 (.slice sa n sc) n (L.map (Value.int .u8))) (hL : L.length = n) : BytesAt w sa L ∧ (sa = none → n = 0 ∧ sc = 0) ∧ (∀ ad, sa = some ad → ad.block < w.heap.size ∧ B ≤ ad.block) := by
  rcases h.2 with ⟨hv, hn⟩ | ⟨g, cap, cur, hv, hb, hg, _⟩
  · cases hv
    have hz : L = [] := List.eq_nil_of_length_eq_zero hL
    subst hz
    exact ⟨(fun ad e => by cases e), (fun _ => ⟨rfl, rfl⟩), (fun ad e => by cases e)⟩
  · cases hv
    exact ⟨BytesAt.of_own (M := []) (by simpa using h), (fun e => by cases e), (fun ad e => by cases e; exact ⟨(Array.getElem?_eq_some_iff.1 hg).1, hb⟩)⟩
theorem app_opt_in {F : Fence} {nF : Nat} {P : Program} {w : World} {ops : Array Oper} {rest : List Oper} {o : Oper} {a : Act} {Q : Exit → Act → World → Prop} (hgd : o.guard = none) (s x : Operand) (t : TypeId)
    (ho : o.op = .call { callee := .builtin .append, args := #[s, x], argTypes := #[t, t] })
    (base : Nat) (e : TypeId) (i : TypeInfo) (z : Value) (size bytes : Nat) (ht : P.underlying t = some (.slice e)) (hi : P.info? e = some i) (hz : i.zero = some z)
    (hsize : i.size = size) (hby : i.bytes = bytes) (hzs : z.cells.size = size) (hsz : 0 < size)
    (v : Value) (n : Nat) (xs : List Value) (hs : a.eval s = v) (hown : w.ownsRow base e size v n xs)
    (A : Option Addr) (m c : Nat) (news : List Value) (hx : a.eval x = .slice A m c) (hA : A = none → m = 0 ∧ c = 0) (hl : news.length = m * size) (hnews : ∀ ad, A = some ad → ∀ j u, news[j]? = some u → w.cell? (ad.add j) = some u) (h1 : ∀ u ∈ news, u.oneCell' = true)
    (h63 : n + m ≤ maxLen) (hbytes : (n + m) * bytes ≤ 140737488355328) (hbase : base ≤ w.heap.size)
    (h : ∀ v' w', w'.ownsRow base e size v' (n + m) (xs ++ news) → w.grownBy w' v.ownBlock → wpListIn F nF P ops Q rest (a.put o.dst v') w') : wpListIn F nF P ops Q (o :: rest) a w := by
  cases A with
  | none =>
    obtain ⟨rfl, rfl⟩ := hA rfl
    have hn : news = [] := List.eq_nil_of_length_eq_zero (by simpa using hl)
    subst hn
    refine wpListIn_plain hgd fun K hK => ?_
    have hrun := run_append_owned_none (P := P) (w := w) base t o.type e i size ht hi v n xs hown
    unfold Oper.wpIn
    refine ⟨by simp [Oper.about, ho, resolve, Target.leads, Sem.run_pure], ?_⟩
    rw [Oper.semAt_plain F _ _ (by rw [ho]; intro c hc'; cases hc')]
    simp [execOp, ho, resolve, invoke, builtin, hs, hx, hrun, Result.andThen]
    exact hK _ _ (h v w (by simpa using hown) (World.grownBy.refl w _))
  | some ad =>
    exact wpListIn_append_own _ hgd s x t ho base e i z size bytes ht hi hz hsize hby hzs hsz v n xs hs hown ad m c news hx hl (hnews ad rfl) h1 h63 hbytes hbase fun v' w' h2 h3 _ => h v' w' h2 h3

theorem own_store {w : World} {B n g cap k : Nat} {e : TypeId} {xs : List Value} (h : w.ownsRow B e 1 (.slice (some ⟨g, 0, none⟩) n cap) n xs) (hk : k < n) (u : Value) :
    (∃ v, w.cell? ⟨g, k, none⟩ = some v) ∧ w.frozen? ⟨g, k, none⟩ = false ∧ (w.setCell ⟨g, k, none⟩ u).ownsRow B e 1 (.slice (some ⟨g, 0, none⟩) n cap) n (xs.set k u) := by
  obtain ⟨h1, h2⟩ := h
  rcases h2 with ⟨hv, _⟩ | ⟨g', cap', cur, hv, hb, hg, h3, h4, h5, h6⟩
  · cases hv
  · cases hv
    have hkc : k < cur.size := by omega
    refine ⟨⟨cur[k], ?_⟩, by simp [World.frozen?, hg], by rw [List.length_set]; exact h1, Or.inr ⟨g, cap, cur.setIfInBounds k u, rfl, hb, ?_, h3, h4, by simpa using h5, ?_⟩⟩
    · rw [cell_of_row _ _ _ _ _ _ hg]; exact Array.getElem?_eq_getElem hkc
    · simp [World.setCell, Array.getElem?_modify, hg]
    · rw [Array.toList_setIfInBounds, ← h6]
      rw [List.take_set]

theorem own_same {w w' : World} {B : Nat} {e : TypeId} {k : Nat} {v : Value} {n : Nat} {xs : List Value} (h : w.ownsRow B e k v n xs) (hs : ∀ b, B ≤ b → b < w.heap.size → w'.heap[b]? = w.heap[b]?) : w'.ownsRow B e k v n xs := by
  obtain ⟨h1, h2⟩ := h
  refine ⟨h1, ?_⟩
  rcases h2 with h2 | ⟨g, cap, cur, hv, hg, hh, r⟩
  · exact Or.inl h2
  · exact Or.inr ⟨g, cap, cur, hv, hg, (hs g hg (Array.getElem?_eq_some_iff.1 hh).1).trans hh, r⟩

theorem all_free {W4 W : World} {T N : Nat} {t : Int} {Ds : List Nat} {lim : Nat → Prop} {pre : List Nat} (h : AllI W4 T N t Ds lim pre W) : AllI W4 T N t Ds (fun _ => True) pre W :=
  ⟨⟨trivial, h.1.2⟩, h.2⟩

set_option maxRecDepth 100000 in
set_option maxHeartbeats 8000000 in
theorem all_law_in (A : Option Addr) (n c N : Nat) (L : List Int) (lv : Int) (w : World) (he : Env w) (hL : L.length = n) (hA : A = none → n = 0 ∧ c = 0) (hc : BytesAt w A L) (hr : ∀ x ∈ L, 0 ≤ x ∧ x < 256) (hn : n ≤ 4000) (hnc : n ≤ c) (hN : Begins L N) (hlv0 : ((0 : Nat) : Int) < lv) (hlv1 : lv ≤ (N : Int)) (hlN : (lv != (N : Int)) = true) :
    CallsIn Fence.wide 5 Tryz.prog 3 #[.slice A n c, .int .i64 lv] w fun e W' => e = .returned (.bool true) ∧ Below w.heap.size w W' := by
  refine callsIn_of_wp_marks Tryz.func3 rfl trivial ?_ rfl
  simp only [Tryz.ntmps3, List.size_toArray, List.length_cons, List.length_nil, Nat.reduceAdd, Nat.reduceSub, Array.replicate_succ, Array.replicate_zero, List.push_toArray, List.append_toArray, List.nil_append, List.cons_append]
  have hfn := eql_all
  have hmx : Tryz.prog.follows .mixedOrders = true := by kernel_rfl
  have hne := neq_ins
  have hself := insEq_self
  have hn' : (n : Int) ≤ 4000 := by omega
  have hsz : (strOfNums L).size ≤ 4000 := by rw [str_size]; omega
  obtain ⟨i0, hi, hz0, hz1, hz2⟩ := info_parts Tryz.infoU8
  have HE := Lib.hid he
  have HC := Lib.hid hc
  have HA := Lib.hid hA
  have HR := Lib.hid hr
  have HL := Lib.hid hL
  have HN := Lib.hid hN
  clear he hc hr hL hN hA
  gi_wp2_with (first
    | (gi_at_builtin; refine app_opt_in rfl _ _ 22 rfl (w.heap.size + 1 + 1) 5 i0 (.int .u8 0) 1 1 Tryz.underlying22 hi hz0 hz1 hz2 rfl (by decide) (.slice none 0 0) 0 [] rfl (World.ownsRow_nil ..) A n c (L.map (Value.int .u8)) rfl HA.out (by simp [HL.out]) ((HC.out.below (Bl.alloc (Bl.alloc (Below.refl _ _) _) _)).news) (by simp [Value.oneCell']) (by unfold maxLen; omega) (by omega) (by simp) ?_; intro v1 w1 h1 g1; have ho1 := own_cast (n' := n) (xs' := L.map (Value.int .u8)) h1 (by omega) (by simp); clear h1; obtain ⟨sa, sc, rfl⟩ := own_sl ho1; obtain ⟨hby1, hsa1, hbk1⟩ := own_bytes ho1 HL.out; have hP1 := (Below.refl _ _).grown g1 (Nat.le_refl _) (fun k e => by cases e); have hs1 := hP1.size; simp at hs1; have hB1 := (Bl.alloc (Bl.alloc (Below.refl w.heap.size w) (.cells #[.int .i64 lv] 3)) (.cells #[.bool false] 4)).trans (hP1.mono (by simp; omega)); have HO1 := Lib.hid ho1; have HY1 := Lib.hid hby1; have HS1 := Lib.hid hsa1; have HK1 := Lib.hid hbk1; clear ho1 hby1 hsa1 hbk1 g1)
    | (refine ⟨trivial, ?_⟩; gi_at_call 5; refine (callsIn_wide.2 (all_any HY1.out HL.out HS1.out hn)).mono ?_; rintro e w2 ⟨v2, rfl, hbx2, ho2, hb2⟩; have hB2 := Bl.step hB1 hb2; have hs2 := hb2.size; have HX2 := Lib.hid hbx2; have HO2 := Lib.hid ho2; clear hbx2 ho2)
    | (refine ⟨trivial, ?_⟩; gi_at_call 6; refine (callsIn_wide.2 (rall_any (HC.out.below hB2) HL.out HA.out hn hnc HR.out HN.out)).mono ?_; rintro e w3 ⟨v3, rfl, ho3, hb3⟩; have hB3 := Bl.step hB2 hb3; have hs3 := hb3.size; obtain ⟨wa, wc, rfl⟩ := own_sl ho3; have HO3 := Lib.hid ho3; clear ho3; have s1 := own_string ((own_below (own_below HO1.out hb2) hb3).alloc (.cells #[.slice wa N wc] 27)) HL.out; have s2 := arg_string (c := c) (HC.out.below (Bl.alloc hB3 (.cells #[.slice wa N wc] 27))) HL.out HA.out))
  clear s1 s2
  obtain ⟨W3, hW3⟩ : ∃ W3, W3 = w3.alloc (.cells #[.slice wa N wc] 27) := ⟨_, rfl⟩
  have HW3 := Lib.hid hW3
  rw [← hW3]
  have hBW3 : Below w.heap.size w W3 := by rw [hW3]; exact Bl.alloc hB3 _
  have hbW : Below w1.heap.size w1 W3 := by rw [hW3]; exact Bl.alloc (Bl.step hb2 hb3) _
  have hbW2 : Below w2.heap.size w2 W3 := by rw [hW3]; exact Bl.alloc hb3 _
  have hsW : w3.heap.size + 1 = W3.heap.size := by rw [hW3]; simp
  have HOW : Hid (W3.ownsRow (w.heap.size + 1 + 1) 5 1 (.slice sa n sc) n (L.map (Value.int .u8))) := Lib.hid (own_below HO1.out hbW)
  have HSW := Lib.hid hsW
  clear hW3 hsW
  gi_loopw [8] (fun i wr => ∃ (k : Nat) (M : List Value), k ≤ n ∧ i = .int .i64 k ∧ wr.ownsRow (w.heap.size + 1 + 1) 5 1 (.slice sa n sc) n M ∧ (∀ b, b < w.heap.size + 1 + 1 ∨ w1.heap.size ≤ b → wr.heap[b]? = W3.heap[b]?) ∧ Below w.heap.size w wr ∧ wr.heap.size = W3.heap.size)
    (fun i _ => n - (intOf i).toNat)
  case atStart => exact ⟨0, _, Nat.zero_le _, rfl, HOW.out, fun _ _ => rfl, hBW3, rfl⟩
  case round =>
    obtain ⟨k, M, hk, rfl, hM, hsame, hbw, hsz⟩ := hrel
    have HSM := Lib.hid hsame
    have HSZ := Lib.hid hsz
    clear hsame hsz
    have hk0 : (0 : Int) ≤ (k : Int) := by omega
    by_cases hlt : k < n
    · have hlt' : (k : Int) < (n : Int) := by omega
      obtain ⟨g0, cp, hv, hg0, hg1, -, -⟩ := own_slice hM (by omega)
      cases hv
      have hg2 := (HK1.out _ rfl).1
      obtain ⟨⟨cv, hcv⟩, hfz, hM2⟩ := own_store hM hlt (.int .u8 255)
      have HM2 := Lib.hid hM2
      clear hM hM2
      gi_wp2
      go_roundw
      case rel => exact ⟨k + 1, _, hlt, by go_num, HM2.out, fun b hb => by rw [Below.heap_setCell _ _ _ _ (by show b ≠ g0; have : g0 < w1.heap.size := hg2; omega)]; exact HSM.out b hb, hbw.setCell (p := ⟨g0, k, none⟩) (by show w.heap.size ≤ g0; omega) _, by rw [← HSZ.out]; simp⟩
      case measure => simp [intOf]; omega
    · have hlt' : (n : Int) ≤ (k : Int) := by omega
      clear hM
      have hX2l : w1.heap.size < w2.heap.size := (Array.getElem?_eq_some_iff.1 HX2.out).1
      have hLV : wr.heap[w.heap.size]? = some (.cells #[.int .i64 lv] 3 (0, 0)) := by
        rw [HSM.out _ (Or.inl (by omega)), hbW.block _ (by omega), hP1.block _ (by simp; omega), Below.heap_alloc _ _ _ (by simp)]; exact World.alloc_heap_new w _
      have hRR : wr.heap[w.heap.size + 1]? = some (.cells #[.bool false] 4 (0, 0)) := by
        rw [HSM.out _ (Or.inl (by omega)), hbW.block _ (by omega), hP1.block _ (by simp)]
        have := World.alloc_heap_new (w.alloc (.cells #[.int .i64 lv] 3)) (.cells #[.bool false] 4); rwa [World.size_alloc] at this
      have hBX : wr.heap[w1.heap.size]? = some (.cells #[v2] 22 (0, 0)) := (HSM.out _ (Or.inr (Nat.le_refl _))).trans ((hbW2.block _ hX2l).trans HX2.out)
      have hO2 : wr.ownsRow (w1.heap.size + 1) 5 1 v2 n (L.map (Value.int .u8)) := own_same (own_below HO2.out hbW2) (fun b h1 _ => HSM.out b (Or.inr (by omega)))
      have hWB : wr.heap[w3.heap.size]? = some (.cells #[.slice wa N wc] 27 (0, 0)) := (HSM.out _ (Or.inr (by omega))).trans (by rw [HW3.out]; exact World.alloc_heap_new w3 _)
      have hO3 : wr.ownsRow w2.heap.size 31 5 (.slice wa N wc) N (insL (fun k => oOp (wAt L k)) (fun k => oD (wAt L k)) (fun k => oA (wAt L k)) (fun k => oB (wAt L k)) (fun k => oM (wAt L k)) N) := own_same (w := W3) (by rw [HW3.out]; exact HO3.out.alloc _) (fun b h1 _ => HSM.out b (Or.inr (by omega)))
      have hSEQ : ∃ g, g < wr.heap.size ∧ w1.heap.size ≤ g ∧ ∀ W m, 1 ≤ m → Below wr.heap.size wr W → SeqStopsK Fence.wide m Tryz.prog 17 #[.pointer (some ⟨w1.heap.size, 0, none⟩)] (insEnc L) (KeepsTwo w1.heap.size g) (fun xs => xs = List.range N) (fun pre => ∃ k, k ≤ N ∧ pre = List.range k) N W := by
        rcases hO2.2 with ⟨hv, hn0⟩ | ⟨g, cap, cur, hv, hg, hh, hc1, hc2, hc3, hc4⟩
        · have hN0 : N = 0 := by have := begins_len HN.out; have := HL.out; omega
          subst hv hN0
          exact ⟨w1.heap.size, (Array.getElem?_eq_some_iff.1 hBX).1, Nat.le_refl _, fun W m _ hb => all_stops_nil m _ _ L W ((hb.block _ (Array.getElem?_eq_some_iff.1 hBX).1).trans hBX)⟩
        · subst hv
          have hgl := (Array.getElem?_eq_some_iff.1 hh).1
          refine ⟨g, hgl, by omega, fun W m hm hb => all_stops m hm _ g n cap N L cur W HL.out hn HR.out HN.out ((hb.block _ (Array.getElem?_eq_some_iff.1 hBX).1).trans hBX) ((hb.block _ hgl).trans hh) (fun j x hx => ?_) hc1 hc2⟩
          have hj : j < n := by
            rcases Nat.lt_or_ge j n with h | h
            · exact h
            · rw [List.getElem?_eq_none (by rw [HL.out]; exact h)] at hx; cases hx
          have e : (cur.toList.take (n * 1))[j]? = some (Value.int .u8 x) := by rw [hc4, List.getElem?_map, hx]; rfl
          rw [List.getElem?_take_of_lt (by omega)] at e
          simpa using e
      obtain ⟨g, hgl, hg1, HSEQ⟩ := hSEQ
      have HSEQ := Lib.hid HSEQ
      have HLVl := (Array.getElem?_eq_some_iff.1 hLV).1
      have HWBl := (Array.getElem?_eq_some_iff.1 hWB).1
      have HRRl := (Array.getElem?_eq_some_iff.1 hRR).1
      have HLV := Lib.hid hLV
      have HWB := Lib.hid hWB
      have HRR := Lib.hid hRR
      have HO3W := Lib.hid hO3
      clear hO2 hlt' hBX hLV hWB hRR hO3
      gi_wp2
      refine wpIn_loop_rounds 3 ?_
      rw [roundsIn_succ]
      gi_wp2
      have hT0 := cell_new_l wr (.int .i64 0) 3
      have hN0 := cell_new_l (wr.alloc (.cells #[.int .i64 0] 3)) (.int .i64 0) 3
      simp only [World.size_alloc] at hN0
      have HBT : Below wr.heap.size wr ((wr.alloc (.cells #[.int .i64 0] 3)).alloc (.cells #[.int .i64 0] 3)) := Bl.alloc (Bl.alloc (Below.refl _ _) _) _
      refine wpIn_rangeFunc_ownH rfl (by omega) (gf := 17) (lb := #[.pointer (some ⟨w1.heap.size, 0, none⟩)]) rfl trivial (enters_of Tryz.func17 (by kernel_rfl) rfl)
        (HSEQ.out _ 4 (by omega) HBT) KeepsTwo.trans keepsTwo_b (Below.refl _ _) (fun _ => rfl)
        (AllI wr (wr.heap.size) (wr.heap.size + 1) 0 [] (fun p => (p : Int) < lv)) (AllX wr (wr.heap.size) (wr.heap.size + 1) 0 lv N True []) (allI_own _ _ _ _ _ _ _ (by simp; omega) (fun D h => by cases h)) (fun c => allX_own _ _ _ _ _ _ _ _ c _ (by simp; omega) (fun D h => by cases h)) ⟨⟨hlv0, cell_alloc_l _ hT0.1, hN0.1, hN0.2⟩, (fun D h => by cases h), HBT⟩
        (AllA L (fun x b => { tmps := #[.slice A n c, .int .i64 lv, undef, .pointer (some ⟨w.heap.size, 0, none⟩), .pointer (some ⟨w.heap.size + 1, 0, none⟩), .slice sa n sc, .func (.func 17) #[] #[.pointer (some ⟨w1.heap.size, 0, none⟩)], .pointer (some ⟨w3.heap.size, 0, none⟩), .int .i64 (k : Int), .pointer (some ⟨wr.heap.size, 0, none⟩), .pointer (some ⟨wr.heap.size + 1, 0, none⟩), .int .i64 ((4 * x : Nat) : Int), .pointer (some ⟨b, 0, none⟩), .slice A n c, .int .i64 (n : Int), .bool (decide (4000 < (n : Int))), undef, .slice A n c, .slice sa n sc, .slice sa n sc, .func (.func 17) #[] #[.pointer (some ⟨w1.heap.size, 0, none⟩)], .slice A n c, .slice wa N wc, .func (.func 17) #[] #[.pointer (some ⟨w1.heap.size, 0, none⟩)], .bool false, .bool false, .slice sa n sc, .string (strOfNums L), .slice A n c, .string (strOfNums L), .bool false, .bool false, .int .i64 (k : Int), .slice sa n sc, .int .i64 (n : Int), .bool false, u36, u37, u38, u39, u40, .int .i64 0, .bool true, undef, undef, .func (.func 17) #[] #[.pointer (some ⟨w1.heap.size, 0, none⟩)], .int .i64 ((4 * x : Nat) : Int), .agg #[.int .i64 (oOp (wAt L x)), .int .i64 (oD (wAt L x)), .int .i64 (oA (wAt L x)), .int .i64 (oB (wAt L x)), .int .i64 (oM (wAt L x))], undef, undef, undef, undef, undef, undef, undef, undef, undef, undef, undef, undef, undef, undef, undef, undef, undef, undef, undef, undef, undef, undef, undef, undef, undef, undef, undef, undef, undef, undef, undef, undef, undef, undef, undef, undef, undef, undef, undef, undef, undef, undef, undef, undef, undef, undef, undef, undef, undef, undef, undef, undef], defers := [] }) (wr.heap.size + 1 + 1)) (fun x a' => allA_own _ _ _ _ _ _) ?assign ?body ?done ?stop
      case assign =>
        intro l pre x W K hI hK
        have hNW : wr.heap.size + 1 < W.heap.size := World.block_lt_of_cell? W _ hI.1.2.2.1
        gi_wp2
        go_show
        exact hK _ _ ((KeepsOthers.alloc W _).from _) (fun k cs t fr _ e => by rw [Below.heap_alloc _ _ _ (Array.getElem?_eq_some_iff.1 e).1]; exact e) ((allI_own wr (wr.heap.size) (wr.heap.size + 1) 0 [] (fun p => (p : Int) < lv) (wr.heap.size + 1 + 1) (by omega) (fun D h => by cases h)).alloc _ hI) ⟨W.heap.size, by omega, rfl, World.alloc_heap_new W _⟩
      case body =>
        rintro l pre x a' W hl hrec hI ⟨b, hb, rfl, hbc⟩ hpN
        have HI := Lib.hid hI
        obtain ⟨⟨hlim, hT, hN, hfN⟩, -, hB⟩ := hI
        have i0 := (cell_of_row W b 0 _ _ _ hbc).trans (show _ = some (.int .i64 (oOp (wAt L x))) from rfl)
        have i1 := (cell_of_row W b 1 _ _ _ hbc).trans (show _ = some (.int .i64 (oD (wAt L x))) from rfl)
        have i2 := (cell_of_row W b 2 _ _ _ hbc).trans (show _ = some (.int .i64 (oA (wAt L x))) from rfl)
        have i3 := (cell_of_row W b 3 _ _ _ hbc).trans (show _ = some (.int .i64 (oB (wAt L x))) from rfl)
        have i4 := (cell_of_row W b 4 _ _ _ hbc).trans (show _ = some (.int .i64 (oM (wAt L x))) from rfl)
        have cLV := (cell_of_row W (w.heap.size) 0 _ _ _ ((hB.block _ HLVl).trans HLV.out)).trans (show _ = some (.int .i64 lv) from rfl)
        have cWB := (cell_of_row W (w3.heap.size) 0 _ _ _ ((hB.block _ HWBl).trans HWB.out)).trans (show _ = some (.slice wa N wc) from rfl)
        have cRR := (cell_of_row W (w.heap.size + 1) 0 _ _ _ ((hB.block _ HRRl).trans HRR.out)).trans (show _ = some (.bool false) from rfl)
        have fRR : W.frozen? ⟨w.heap.size + 1, 0, none⟩ = false := by simp [World.frozen?, (hB.block _ HRRl).trans HRR.out]
        have hpN' : (pre.length : Int) < (N : Int) := by omega
        have hp9 : (pre.length : Int) ≤ 1000 := by have := begins_len HN.out; have := HL.out; omega
        have hp0 : (0 : Int) ≤ (pre.length : Int) := by omega
        obtain ⟨gw, wc', hwv, hgw0, hgw1, hwc, -⟩ := own_slice HO3W.out (by omega)
        cases hwv
        by_cases hx : x = pre.length
        · subst hx
          obtain ⟨z0, z1, z2, z3, z4⟩ := ((InsAt.of_own (xs := []) (by simpa using HO3W.out)).below hB hgw1) pre.length hpN
          simp only [Nat.zero_add] at z0 z1 z2 z3 z4
          clear hbc
          generalize oOp (wAt L pre.length) = y0 at *
          generalize oD (wAt L pre.length) = y1 at *
          generalize oA (wAt L pre.length) = y2 at *
          generalize oB (wAt L pre.length) = y3 at *
          generalize oM (wAt L pre.length) = y4 at *
          by_cases h5 : (pre.length : Int) + 1 = lv
          · have h5' : (((pre.length : Int) + 1 == lv) = true) := by rw [beq_iff_eq]; exact h5
            have H5 := Lib.hid h5
            clear h5
            clear hT0 hN0
            gi_wp2_with fail
            have hw4 : IntKind.i64.wrap (4 * (pre.length : Int)) = 4 * (pre.length : Int) := IntWalk.i64_in _ (by omega)
            have hd1 : decide (N ≤ pre.length) = false := by simp; omega
            refine region_quiet_round (by rfl) (by assumption) (by kernel_rfl) (by kernel_rfl) ?_
            repeat (gi_big_quiet_step (fail))
            refine wpQuietIn_nil ?_
            intro _ hw'
            obtain ⟨nq, hw''⟩ := hw'
            subst hw''
            gi_wp2
            have HKK := all_keeps W (wr.heap.size + 1) (((wr.alloc (.cells #[.int .i64 0] 3)).alloc (.cells #[.int .i64 0] 3)).heap.size) w1.heap.size g (.int .i64 ((pre.length : Int) + 1)) nq (by omega) (by omega)
            have HST := all_step (lim := fun _ => True) (pre.length) (all_free HI.out) (by omega) (by omega) trivial (fun D h => by cases h) nq
            exact ⟨HKK.1, Or.inl ⟨rfl, trivial, HST.1.2.1, by rw [← H5.out]; simpa using HST.1.2.2.1, HST.2.1, HST.2.2⟩⟩
          · have h5' : (((pre.length : Int) + 1 == lv) = false) := by rw [beq_eq_false_iff_ne]; exact h5
            have H5 := Lib.hid h5
            clear h5
            clear hT0 hN0
            gi_wp2_with fail
            have hw4 : IntKind.i64.wrap (4 * (pre.length : Int)) = 4 * (pre.length : Int) := IntWalk.i64_in _ (by omega)
            refine region_quiet_round (by rfl) (by assumption) (by kernel_rfl) (by kernel_rfl) ?_
            have hd1 : decide (N ≤ pre.length) = false := by simp; omega
            repeat (gi_big_quiet_step (fail))
            refine wpQuietIn_nil ?_
            intro _ hw'
            obtain ⟨nq, hw''⟩ := hw'
            subst hw''
            gi_wp2
            have HKK := all_keeps W (wr.heap.size + 1) (((wr.alloc (.cells #[.int .i64 0] 3)).alloc (.cells #[.int .i64 0] 3)).heap.size) w1.heap.size g (.int .i64 ((pre.length : Int) + 1)) nq (by omega) (by omega)
            exact ⟨HKK.1, HKK.2, all_step _ HI.out (by omega) (by omega) (by have e5 := H5.out; have h1 : (pre.length : Int) < lv := hlim; show ((pre.length + 1 : Nat) : Int) < lv; omega) (fun D h => by cases h) nq⟩
        · have hnot : ¬ ∃ k, k ≤ N ∧ pre ++ [x] = List.range k := fun ⟨k, _, e⟩ => hx (range_last e.symm).1
          have hx4 : (4 * (x : Int) != 4 * (pre.length : Int)) = true := by rw [bne_iff_ne]; omega
          have hd1 : decide (N ≤ pre.length) = false := by simp; omega
          have hw4 : IntKind.i64.wrap (4 * (pre.length : Int)) = 4 * (pre.length : Int) := IntWalk.i64_in _ (by omega)
          clear hbc hx hT0 hN0
          gi_wp2_with fail
          refine region_quiet_round (by rfl) (by assumption) (by kernel_rfl) (by kernel_rfl) ?_
          repeat (gi_big_quiet_step (fail))
          refine wpQuietIn_nil ?_
          intro _ hw'
          obtain ⟨nq, hw''⟩ := hw'
          subst hw''
          gi_wp2
          exact ⟨((KeepsOthers.trans (⟨Nat.le_refl _, fun _ _ h _ => h⟩ : KeepsOthers W (W.drewN nq)) (KeepsOthers.setCell _ _ _)).from _), Or.inr ⟨rfl, hnot⟩⟩
      case done =>
        rintro D ys W hD rfl ⟨⟨hl, -⟩, -⟩ hK
        exact absurd (show ((List.range N).length : Int) < lv from hl) (by simp; omega)
      case stop =>
        rintro D1 c1 pre1 W1 hD1 hk1 (⟨rfl, -, hT1, hN1, -, hB1⟩ | ⟨rfl, hn1⟩) hK1
        · simp at hD1
          have hDl : D1 < W1.heap.size := (Array.getElem?_eq_some_iff.1 hK1).1
          have hw1 := hB1.size
          have cWB := (cell_of_row W1 (w3.heap.size) 0 _ _ _ ((hB1.block _ HWBl).trans HWB.out)).trans (show _ = some (.slice wa N wc) from rfl)
          have cLV := (cell_of_row W1 (w.heap.size) 0 _ _ _ ((hB1.block _ HLVl).trans HLV.out)).trans (show _ = some (.int .i64 lv) from rfl)
          clear hk1 hT0 hN0
          gi_wp2
          rw [roundsIn_succ]
          gi_wp2
          have hT2 := cell_new_l W1 (.int .i64 1) 3
          have hN2 := cell_new_l (W1.alloc (.cells #[.int .i64 1] 3)) (.int .i64 0) 3
          simp only [World.size_alloc] at hN2
          have HBT : Below wr.heap.size wr ((W1.alloc (.cells #[.int .i64 1] 3)).alloc (.cells #[.int .i64 0] 3)) := Bl.alloc (Bl.alloc hB1 _) _
          refine wpIn_rangeFunc_ownH rfl (by omega) (gf := 17) (lb := #[.pointer (some ⟨w1.heap.size, 0, none⟩)]) rfl trivial (enters_of Tryz.func17 (by kernel_rfl) rfl)
            (HSEQ.out _ 4 (by omega) HBT) KeepsTwo.trans keepsTwo_b (Below.refl _ _) (fun _ => rfl)
            (AllI wr (W1.heap.size) (W1.heap.size + 1) 1 [D1] (fun _ => True)) (AllX wr (W1.heap.size) (W1.heap.size + 1) 1 lv N False [D1]) (allI_own _ _ _ _ _ _ _ (by simp; omega) (fun D h => by rw [List.mem_singleton.1 h]; first | omega | (simp; omega))) (fun c => allX_own _ _ _ _ _ _ _ _ c _ (by simp; omega) (fun D h => by rw [List.mem_singleton.1 h]; first | omega | (simp; omega))) ⟨⟨trivial, cell_alloc_l _ hT2.1, hN2.1, hN2.2⟩, (fun D h => by rw [List.mem_singleton.1 h, Below.heap_alloc _ _ _ (by simp; omega), Below.heap_alloc _ _ _ hDl]; exact hK1), HBT⟩
            (AllA L (fun x b => { tmps := #[.slice A n c, .int .i64 lv, undef, .pointer (some ⟨w.heap.size, 0, none⟩), .pointer (some ⟨w.heap.size + 1, 0, none⟩), .slice sa n sc, .func (.func 17) #[] #[.pointer (some ⟨w1.heap.size, 0, none⟩)], .pointer (some ⟨w3.heap.size, 0, none⟩), .int .i64 (k : Int), .pointer (some ⟨W1.heap.size, 0, none⟩), .pointer (some ⟨W1.heap.size + 1, 0, none⟩), .int .i64 ((4 * x : Nat) : Int), .pointer (some ⟨b, 0, none⟩), .slice A n c, .int .i64 (n : Int), .bool (decide (4000 < (n : Int))), undef, .slice A n c, .slice sa n sc, .slice sa n sc, .func (.func 17) #[] #[.pointer (some ⟨w1.heap.size, 0, none⟩)], .slice A n c, .slice wa N wc, .func (.func 17) #[] #[.pointer (some ⟨w1.heap.size, 0, none⟩)], .bool false, .bool false, .slice sa n sc, .string (strOfNums L), .slice A n c, .string (strOfNums L), .bool false, .bool false, .int .i64 (k : Int), .slice sa n sc, .int .i64 (n : Int), .bool false, u36, u37, u38, u39, u40, .int .i64 1, .bool true, .int .i64 0, .int .i64 1, .func (.func 17) #[] #[.pointer (some ⟨w1.heap.size, 0, none⟩)], .int .i64 ((4 * x : Nat) : Int), .agg #[.int .i64 (oOp (wAt L x)), .int .i64 (oD (wAt L x)), .int .i64 (oA (wAt L x)), .int .i64 (oB (wAt L x)), .int .i64 (oM (wAt L x))], undef, undef, undef, undef, undef, undef, undef, undef, undef, undef, undef, undef, undef, undef, undef, undef, undef, undef, undef, undef, undef, undef, undef, undef, undef, undef, undef, .int .i64 0, .bool false, .bool false, undef, undef, undef, undef, .bool false, .bool false, .int .i64 0, .bool true, .bool true, .int .i64 lv, .slice wa N wc, .int .i64 (N : Int), .bool true, .bool true, .bool true, .int .i64 lv, .int .i64 lv, .bool false, .bool false, .bool false, .int .i64 0, undef], defers := [] }) (W1.heap.size + 1 + 1)) (fun x a' => allA_own _ _ _ _ _ _) ?assign ?body ?done ?stop
          case assign =>
            intro l pre x W K hI hK
            have hNW : W1.heap.size + 1 < W.heap.size := World.block_lt_of_cell? W _ hI.1.2.2.1
            gi_wp2
            go_show
            exact hK _ _ ((KeepsOthers.alloc W _).from _) (fun k cs t fr _ e => by rw [Below.heap_alloc _ _ _ (Array.getElem?_eq_some_iff.1 e).1]; exact e) ((allI_own wr (W1.heap.size) (W1.heap.size + 1) 1 [D1] (fun _ => True) (W1.heap.size + 1 + 1) (by omega) (fun D h => by rw [List.mem_singleton.1 h]; first | omega | (simp; omega))).alloc _ hI) ⟨W.heap.size, by omega, rfl, World.alloc_heap_new W _⟩
          case body =>
            rintro l pre x a' W hl hrec hI ⟨b, hb, rfl, hbc⟩ hpN
            have HI := Lib.hid hI
            obtain ⟨⟨hlim, hT, hN, hfN⟩, -, hB⟩ := hI
            have i0 := (cell_of_row W b 0 _ _ _ hbc).trans (show _ = some (.int .i64 (oOp (wAt L x))) from rfl)
            have i1 := (cell_of_row W b 1 _ _ _ hbc).trans (show _ = some (.int .i64 (oD (wAt L x))) from rfl)
            have i2 := (cell_of_row W b 2 _ _ _ hbc).trans (show _ = some (.int .i64 (oA (wAt L x))) from rfl)
            have i3 := (cell_of_row W b 3 _ _ _ hbc).trans (show _ = some (.int .i64 (oB (wAt L x))) from rfl)
            have i4 := (cell_of_row W b 4 _ _ _ hbc).trans (show _ = some (.int .i64 (oM (wAt L x))) from rfl)
            have cLV := (cell_of_row W (w.heap.size) 0 _ _ _ ((hB.block _ HLVl).trans HLV.out)).trans (show _ = some (.int .i64 lv) from rfl)
            have cWB := (cell_of_row W (w3.heap.size) 0 _ _ _ ((hB.block _ HWBl).trans HWB.out)).trans (show _ = some (.slice wa N wc) from rfl)
            have cRR := (cell_of_row W (w.heap.size + 1) 0 _ _ _ ((hB.block _ HRRl).trans HRR.out)).trans (show _ = some (.bool false) from rfl)
            have fRR : W.frozen? ⟨w.heap.size + 1, 0, none⟩ = false := by simp [World.frozen?, (hB.block _ HRRl).trans HRR.out]
            have hpN' : (pre.length : Int) < (N : Int) := by omega
            have hp9 : (pre.length : Int) ≤ 1000 := by have := begins_len HN.out; have := HL.out; omega
            have hp0 : (0 : Int) ≤ (pre.length : Int) := by omega
            obtain ⟨gw, wc', hwv, hgw0, hgw1, hwc, -⟩ := own_slice HO3W.out (by omega)
            cases hwv
            by_cases hx : x = pre.length
            · subst hx
              obtain ⟨z0, z1, z2, z3, z4⟩ := ((InsAt.of_own (xs := []) (by simpa using HO3W.out)).below hB hgw1) pre.length hpN
              simp only [Nat.zero_add] at z0 z1 z2 z3 z4
              clear hbc
              generalize oOp (wAt L pre.length) = y0 at *
              generalize oD (wAt L pre.length) = y1 at *
              generalize oA (wAt L pre.length) = y2 at *
              generalize oB (wAt L pre.length) = y3 at *
              generalize oM (wAt L pre.length) = y4 at *
              clear hT2 hN2
              gi_wp2_with fail
              have hw4 : IntKind.i64.wrap (4 * (pre.length : Int)) = 4 * (pre.length : Int) := IntWalk.i64_in _ (by omega)
              refine region_quiet_round (by rfl) (by assumption) (by kernel_rfl) (by kernel_rfl) ?_
              have hd1 : decide (N ≤ pre.length) = false := by simp; omega
              repeat (gi_big_quiet_step (fail))
              refine wpQuietIn_nil ?_
              intro _ hw'
              obtain ⟨nq, hw''⟩ := hw'
              subst hw''
              gi_wp2
              have HKK := all_keeps W (W1.heap.size + 1) (((W1.alloc (.cells #[.int .i64 1] 3)).alloc (.cells #[.int .i64 0] 3)).heap.size) w1.heap.size g (.int .i64 ((pre.length : Int) + 1)) nq (by omega) (by omega)
              exact ⟨HKK.1, HKK.2, all_step _ HI.out (by omega) (by omega) trivial (fun D h => by rw [List.mem_singleton.1 h]; omega) nq⟩
            · have hnot : ¬ ∃ k, k ≤ N ∧ pre ++ [x] = List.range k := fun ⟨k, _, e⟩ => hx (range_last e.symm).1
              have hx4 : (4 * (x : Int) != 4 * (pre.length : Int)) = true := by rw [bne_iff_ne]; omega
              have hd1 : decide (N ≤ pre.length) = false := by simp; omega
              have hw4 : IntKind.i64.wrap (4 * (pre.length : Int)) = 4 * (pre.length : Int) := IntWalk.i64_in _ (by omega)
              clear hbc hx hT2 hN2
              gi_wp2_with fail
              refine region_quiet_round (by rfl) (by assumption) (by kernel_rfl) (by kernel_rfl) ?_
              repeat (gi_big_quiet_step (fail))
              refine wpQuietIn_nil ?_
              intro _ hw'
              obtain ⟨nq, hw''⟩ := hw'
              subst hw''
              gi_wp2
              exact ⟨((KeepsOthers.trans (⟨Nat.le_refl _, fun _ _ h _ => h⟩ : KeepsOthers W (W.drewN nq)) (KeepsOthers.setCell _ _ _)).from _), Or.inr ⟨rfl, hnot⟩⟩
          case done =>
            rintro D2 ys W2 hD2 rfl ⟨⟨-, hT3, hN3, hfN3⟩, hM3, hB3⟩ hK2
            rw [List.length_range] at hN3
            simp at hD2
            have hM1 := hM3 D1 (List.mem_singleton.2 rfl)
            clear hM3
            have hBw2 := Bl.step hbw hB3
            have cWB2 := (cell_of_row W2 (w3.heap.size) 0 _ _ _ ((hB3.block _ HWBl).trans HWB.out)).trans (show _ = some (.slice wa N wc) from rfl)
            have hR3 := (cell_of_row W2 (w.heap.size + 1) 0 _ _ _ ((hB3.block _ HRRl).trans HRR.out)).trans (show _ = some (.bool false) from rfl)
            have hfR3 : W2.frozen? ⟨w.heap.size + 1, 0, none⟩ = false := by simp [World.frozen?, (hB3.block _ HRRl).trans HRR.out]
            have hRW : w.heap.size + 1 < W2.heap.size := World.block_lt_of_cell? W2 _ hR3
            have hDW : D2 < W2.heap.size := (Array.getElem?_eq_some_iff.1 hK2).1
            have hDV : D1 < W2.heap.size := (Array.getElem?_eq_some_iff.1 hM1).1
            gi_wp2
            rw [roundsIn_succ]
            gi_wp2_with (refine ⟨trivial, ?_⟩; gi_at_call 4; refine (callsIn_wide.2 (known_yes _ (HE.out.below (Bl.alloc hBw2 _)))).mono ?_; rintro e X ⟨rfl, hbX⟩; have hBX := Bl.step (Bl.alloc (Below.refl W2.heap.size W2) _) hbX; have cR := (hBX.cell (p := ⟨w.heap.size + 1, 0, none⟩) hRW).trans hR3; have fR := (hBX.frozen (p := ⟨w.heap.size + 1, 0, none⟩) hRW).trans hfR3)
            have hE2 : (X.setCell ⟨w.heap.size + 1, 0, none⟩ (.bool true)).heap[D2]? = some (.deferred (some [])) := by
              rw [Below.heap_setCell _ _ _ _ (show D2 ≠ w.heap.size + 1 by omega), hBX.block D2 hDW]; exact hK2
            have hE1 : ((X.setCell ⟨w.heap.size + 1, 0, none⟩ (.bool true)).putObj D2 (.deferred none)).heap[D1]? = some (.deferred (some [])) := by
              rw [World.putObj_heap_other (show D1 ≠ D2 by omega), Below.heap_setCell _ _ _ _ (show D1 ≠ w.heap.size + 1 by omega), hBX.block D1 hDV]; exact hM1
            have cR2 := World.cell?_setCell_same X ⟨w.heap.size + 1, 0, none⟩ (.bool true) cR
            have cR3 := cell_kept cR2 (grownBy_putObj' _ D2 (.deferred none)) (fun r e => by cases e; exact ⟨_, hE2, rfl⟩)
            have cR4 := cell_kept cR3 (grownBy_putObj' _ D1 (.deferred none)) (fun r e => by cases e; exact ⟨_, hE1, rfl⟩)
            refine ⟨by simp, .inl ⟨_, _, rfl, run_takeDeferred hE2, ?_⟩⟩
            refine ⟨by simp, .inl ⟨_, _, rfl, run_takeDeferred hE1, ?_⟩⟩
            refine ⟨.bool true, ?_, rfl, (((Bl.step hBw2 hBX).setCell (p := ⟨w.heap.size + 1, 0, none⟩) (by simp) _).trans (belowK_b (w := w) (Nat.le_refl _) _ D2 _ _ (by omega) hE2 rfl rfl)).trans (belowK_b (w := w) (Nat.le_refl _) _ D1 _ _ (by omega) hE1 rfl rfl)⟩
            simp [results, Tryz.f3, go_sem, cR4]
          case stop =>
            rintro D c pre W hD hk (⟨rfl, h, -⟩ | ⟨rfl, hn1⟩) hK
            · exact h.elim
            · exact absurd hk hn1
        · exact absurd hk1 hn1

end Go.Proofs.YtnkkomodpjgefaaGreatDoor
