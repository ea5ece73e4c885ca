/- What the functions in the map answer; the core's combine. -/
import Derived.Test.YtknepljmbpdpkaaCpK
import Derived.Test.YtknepljmbpdpkaaCpG
namespace Go.Proofs.Ytknepljmbpdpkaa
open Go.RowKit
open Go.Maps (Keyed)

theorem Try.zAns (w : World) : (zeroValue 88).run Try.prog w = .ok .nilFunc w := by kernel_rfl
theorem AnsUp.cdrew {w : World} {lo mp n : Nat} {D : DataW Unit} {ops : List Int} (h : AnsUp w lo mp D n ops) : AnsUp w.drew lo mp D n ops := ⟨h.own.drew, h.ml, h.has, h.val⟩
theorem fnE_nil {v : Value} {ps : List MemPlace} (h : fnE v = some (fnN, ps)) : v = .nilFunc := by
  unfold fnE at h
  split at h
  · simp [fnN, fnD] at h
  · rfl
  · cases h
theorem look_yes8 {w : World} {lo mp n : Nat} {D : DataW Unit} {ops : List Int} (h : AnsUp w lo mp D n ops) (op : Int) (ho : op ∈ ops) (hw : (Lit.int .i64 op).wf = true) (f g : Nat) (hg : D.atKey (.int .i64 op) fnN = fnD f g) :
    (Instr.lookup 70 (.map (some mp)) (.int .i64 op) true).run Try.prog w = .ok (.tuple #[.func (.func f) #[] #[.pointer (some ⟨g, 0, none⟩)], .bool true]) w := by
  obtain ⟨v, ps, hr, hv⟩ := h.own.look_ok Try.kOp Try.underlying70 (Try.zAns w) (zd := fnN) (zp := []) rfl (Maps.keyOf_int_mk Try.underlying50 hw)
  rw [hg] at hv
  rw [hr, h.has, fnE_is hv, decide_eq_true ho]
  rfl
theorem look_no8 {w : World} {lo mp n : Nat} {D : DataW Unit} {ops : List Int} (h : AnsUp w lo mp D n ops) (op : Int) (ho : op ∉ ops) (hw : (Lit.int .i64 op).wf = true) :
    (Instr.lookup 70 (.map (some mp)) (.int .i64 op) true).run Try.prog w = .ok (.tuple #[.nilFunc, .bool false]) w := by
  obtain ⟨v, ps, hr, hv⟩ := h.own.look_ok Try.kOp Try.underlying70 (Try.zAns w) (zd := fnN) (zp := []) rfl (Maps.keyOf_int_mk Try.underlying50 hw)
  have hh := h.has op
  rw [decide_eq_false ho] at hh
  rw [Maps.atKey_of_not_has hh] at hv
  rw [hr, hh, fnE_nil hv]

set_option maxHeartbeats 2000000 in
theorem always1_any (op a b : Int) (g : Nat) (w : World) (a0 : 0 ≤ a) (a1 : a < 4294967296) (b0 : 0 ≤ b) (b1 : b < 4294967296) (ho : op = 8 ∨ op = 9 ∨ op = 10 ∨ op = 13 ∨ op = 14 ∨ op = 15 ∨ op = 16 ∨ op = 17) (hc : w.cell? ⟨g, 0, none⟩ = some (.func (.func (litF op)) #[] #[])) :
    Calls Try.prog 57 #[.int .u32 a, .int .u32 b, .pointer (some ⟨g, 0, none⟩)] w fun e w' => e = .returned (.tuple #[.int .u32 (ansV op a b), .bool true]) ∧ w = w' := by
  rcases ho with rfl | rfl | rfl | rfl | rfl | rfl | rfl | rfl
  all_goals
    simp only [litF] at hc
    go_enter Try.func57, Try.ntmps57
    go_wp2_with (first
      | (go_at_call 37; refine (a1_any _ _ _).mono ?_; rintro e w' ⟨rfl, rfl⟩)
      | (go_at_call 38; refine (a2_any _ _ _).mono ?_; rintro e w' ⟨rfl, rfl⟩)
      | (go_at_call 39; refine (a3_any _ _ _).mono ?_; rintro e w' ⟨rfl, rfl⟩)
      | (go_at_call 43; refine (a6_any _ _ _).mono ?_; rintro e w' ⟨rfl, rfl⟩)
      | (go_at_call 44; refine (a7_any _ _ _).mono ?_; rintro e w' ⟨rfl, rfl⟩)
      | (go_at_call 45; refine (a8_any _ _ _).mono ?_; rintro e w' ⟨rfl, rfl⟩)
      | (go_at_call 46; refine (a9_any _ _ _ a0 a1 b0 b1).mono ?_; rintro e w' ⟨rfl, rfl⟩)
      | (go_at_call 47; refine (a10_any _ _ _ a0 a1 b0 b1).mono ?_; rintro e w' ⟨rfl, rfl⟩))
    go_ret2
    exact ⟨rfl, rfl⟩
set_option maxHeartbeats 2000000 in
theorem unless1_yes (op a b : Int) (g : Nat) (w : World) (a0 : 0 ≤ a) (a1 : a < 4294967296) (b0 : 0 < b) (b1 : b < 4294967296) (ho : op = 11 ∨ op = 12) (hc : w.cell? ⟨g, 0, none⟩ = some (.func (.func (litF op)) #[] #[])) :
    Calls Try.prog 58 #[.int .u32 a, .int .u32 b, .pointer (some ⟨g, 0, none⟩)] w fun e w' => e = .returned (.tuple #[.int .u32 (ansV op a b), .bool true]) ∧ w = w' := by
  have hb : (b == 0) = false := by rw [beq_eq_false_iff_ne]; omega
  rcases ho with rfl | rfl
  all_goals
    simp only [litF] at hc
    go_enter Try.func58, Try.ntmps58
    go_wp2_with (first
      | (go_at_call 41; refine (a4_any _ _ _ a0 a1 b0 b1).mono ?_; rintro e w' ⟨rfl, rfl⟩)
      | (go_at_call 42; refine (a5_any _ _ _ a0 a1 b0 b1).mono ?_; rintro e w' ⟨rfl, rfl⟩))
    go_ret2
    exact ⟨rfl, rfl⟩
theorem unless1_no (a : Int) (g : Nat) (w : World) :
    Calls Try.prog 58 #[.int .u32 a, .int .u32 0, .pointer (some ⟨g, 0, none⟩)] w fun e w' => e = .returned (.tuple #[.int .u32 0, .bool false]) ∧ w = w' := by
  go_enter Try.func58, Try.ntmps58
  go_wp2
  go_ret2
  exact ⟨rfl, rfl⟩
end Go.Proofs.Ytknepljmbpdpkaa
