/- The program's table of the kinds of steps, and which steps may be; the condition is that the table holds what the start lays. -/
import Derived.Test.YtgjojdlbighoaaaDoorBase
import Derived.Test.YtgjojdlbighoaaaDoorThy
namespace Go.Proofs.YtgjojdlbighoaaaDoor
open Go.RowKit Go.Sort
set_option linter.unusedVariables false

def kWord : Nat → ByteArray
  | 1 => ⟨#[97, 100, 100]⟩ | 2 => ⟨#[115, 104, 105, 102, 116]⟩ | 3 => ⟨#[107, 101, 121]⟩ | 4 => ⟨#[114, 117, 110]⟩ | 5 => ⟨#[116, 117, 114, 110]⟩ | 6 => ⟨#[103, 97, 116, 101]⟩
  | 7 => ⟨#[115, 108, 101, 101, 112]⟩ | 8 => ⟨#[104, 101, 101, 100]⟩ | 9 => ⟨#[115, 107, 105, 112]⟩ | 10 => ⟨#[97, 110, 115, 119, 101, 114]⟩ | 11 => ⟨#[102, 97, 105, 108]⟩ | 12 => ⟨#[112, 97, 110, 105, 99]⟩
  | _ => ⟨#[]⟩
def kNamed : Nat → Nat
  | 1 => 1 | 2 => 1 | 5 => 1 | 6 => 1 | 7 => 1 | 9 => 2 | 11 => 1 | 12 => 1 | _ => 0
def kLa : Nat → Int
  | 1 => -9223372036854775808 | 2 => -63 | 11 => -9223372036854775808 | 12 => -9223372036854775808 | _ => 0
def kHa : Nat → Int
  | 1 => 9223372036854775807 | 2 => 63 | 5 => 63 | 6 => 255 | 7 => 4611686018427387904 | 9 => 3 | 11 => 9223372036854775807 | 12 => 9223372036854775807 | _ => 0
def kLb : Nat → Int
  | 9 => 1 | _ => 0
def kHb : Nat → Int
  | 9 => 256 | _ => 0
/-- the table in memory -/
structure Kd (w : World) : Prop where
  word : ∀ k, k < 13 → w.cell? ⟨0, k * 6, none⟩ = some (.string (kWord k))
  named : ∀ k, k < 13 → w.cell? ⟨0, k * 6 + 1, none⟩ = some (.int .i64 (kNamed k))
  la : ∀ k, k < 13 → w.cell? ⟨0, k * 6 + 2, none⟩ = some (.int .i64 (kLa k))
  ha : ∀ k, k < 13 → w.cell? ⟨0, k * 6 + 3, none⟩ = some (.int .i64 (kHa k))
  lb : ∀ k, k < 13 → w.cell? ⟨0, k * 6 + 4, none⟩ = some (.int .i64 (kLb k))
  hb : ∀ k, k < 13 → w.cell? ⟨0, k * 6 + 5, none⟩ = some (.int .i64 (kHb k))
theorem Kd.gr {w w' : World} (h : Kd w) (hg : Gr w w') : Kd w' :=
  ⟨fun k hk => hg.cell' (h.word k hk), fun k hk => hg.cell' (h.named k hk), fun k hk => hg.cell' (h.la k hk), fun k hk => hg.cell' (h.ha k hk), fun k hk => hg.cell' (h.lb k hk), fun k hk => hg.cell' (h.hb k hk)⟩
theorem may_iff (k : Nat) (a b : Int) (h1 : 1 ≤ k) (h2 : k ≤ 12) (ha : I64 a) : may3 (k : Int) a b ↔ (kLa k ≤ a ∧ a ≤ kHa k) ∧ (kLb k ≤ b ∧ b ≤ kHb k) := by
  unfold I64 at ha
  unfold may3
  rcases (by omega : k = 1 ∨ k = 2 ∨ k = 3 ∨ k = 4 ∨ k = 5 ∨ k = 6 ∨ k = 7 ∨ k = 8 ∨ k = 9 ∨ k = 10 ∨ k = 11 ∨ k = 12) with rfl | rfl | rfl | rfl | rfl | rfl | rfl | rfl | rfl | rfl | rfl | rfl <;> simp only [kLa, kHa, kLb, kHb] <;> omega
theorem may_op {op a b : Int} (h : may3 op a b) : 1 ≤ op ∧ op ≤ 12 := by unfold may3 at h; omega
theorem has47 (l g n : Int) (w : World) : Calls Tryd.prog 47 #[.agg #[.int .i64 l, .int .i64 g], .int .i64 n] w fun e w' => e = .returned (.bool (decide (l ≤ n ∧ n ≤ g))) ∧ Gr w w' := by
  by_cases h1 : l ≤ n
  · by_cases h2 : n ≤ g
    · have HD : Hid (decide (l ≤ n ∧ n ≤ g) = true) := decide_eq_true ⟨h1, h2⟩
      generalize decide (l ≤ n ∧ n ≤ g) = R at *
      go_enter Tryd.func47, Tryd.ntmps47
      go_wp2
      go_ret
      exact ⟨by rw [HD.out]; rfl, (Gr.refl _).alloc _⟩
    · have HD : Hid (decide (l ≤ n ∧ n ≤ g) = false) := decide_eq_false (fun h => h2 h.2)
      generalize decide (l ≤ n ∧ n ≤ g) = R at *
      go_enter Tryd.func47, Tryd.ntmps47
      go_wp2
      go_ret
      exact ⟨by rw [HD.out]; rfl, (Gr.refl _).alloc _⟩
  · have HD : Hid (decide (l ≤ n ∧ n ≤ g) = false) := decide_eq_false (fun h => h1 h.1)
    generalize decide (l ≤ n ∧ n ≤ g) = R at *
    go_enter Tryd.func47, Tryd.ntmps47
    go_wp2
    go_ret
    exact ⟨by rw [HD.out]; rfl, (Gr.refl _).alloc _⟩
def mayD (op a b : Int) : Bool := decide
  ((op = 1 ∧ b = 0) ∨ (op = 2 ∧ -63 ≤ a ∧ a ≤ 63 ∧ b = 0) ∨ (op = 3 ∧ a = 0 ∧ b = 0) ∨ (op = 4 ∧ a = 0 ∧ b = 0)
  ∨ (op = 5 ∧ 0 ≤ a ∧ a ≤ 63 ∧ b = 0) ∨ (op = 6 ∧ 0 ≤ a ∧ a ≤ 255 ∧ b = 0) ∨ (op = 7 ∧ 0 ≤ a ∧ a ≤ 4611686018427387904 ∧ b = 0)
  ∨ (op = 8 ∧ a = 0 ∧ b = 0) ∨ (op = 9 ∧ 0 ≤ a ∧ a ≤ 3 ∧ 1 ≤ b ∧ b ≤ 256) ∨ (op = 10 ∧ a = 0 ∧ b = 0) ∨ (op = 11 ∧ b = 0) ∨ (op = 12 ∧ b = 0))
theorem mayD_true {op a b : Int} (h : may3 op a b) : mayD op a b = true := by unfold mayD; rw [decide_eq_true_iff]; exact h
theorem mayD_false {op a b : Int} (h : ¬ may3 op a b) : mayD op a b = false := by unfold mayD; rw [decide_eq_false_iff_not]; exact h
theorem mayD_iff {op a b : Int} : mayD op a b = true ↔ may3 op a b := ⟨fun h => by unfold mayD at h; rw [decide_eq_true_iff] at h; exact h, mayD_true⟩
set_option maxHeartbeats 1000000 in
theorem mayBe28_in (k : Nat) (a b : Int) (w : World) (hk : Kd w) (h1 : 1 ≤ k) (h2 : k ≤ 12) (ha : I64 a) :
    Calls Tryd.prog 28 #[.agg #[.int .i64 k, .int .i64 a, .int .i64 b]] w fun e w' => e = .returned (.bool (mayD k a b)) ∧ Gr w w' := by
  have hm := may_iff k a b h1 h2 ha
  have G1 : Gr w (w.alloc (.cells #[.int .i64 k, .int .i64 a, .int .i64 b] 64)) := (Gr.refl w).alloc _
  have d2 := G1.cell' (hk.la k (by omega))
  have d3 := G1.cell' (hk.ha k (by omega))
  have d4 := G1.cell' (hk.lb k (by omega))
  have d5 := G1.cell' (hk.hb k (by omega))
  clear hk ha G1
  have k1 : ¬ (k : Int) < 1 := by omega
  have k2 : ¬ (12 : Int) < (k : Int) := by omega
  have k3 : (k : Int) < 13 := by omega
  by_cases hA : kLa k ≤ a ∧ a ≤ kHa k
  · have A1 : decide (kLa k ≤ a ∧ a ≤ kHa k) = true := decide_eq_true hA
    obtain ⟨vb, hvb⟩ : ∃ vb, decide (kLb k ≤ b ∧ b ≤ kHb k) = vb := ⟨_, rfl⟩
    have HR : Hid (mayD k a b = vb) := by
      show mayD k a b = vb
      rw [← hvb, Bool.eq_iff_iff, mayD_iff, hm]
      simp [hA]
    clear hm hA
    generalize mayD k a b = R at *
    obtain ⟨la, e1⟩ : ∃ x, kLa k = x := ⟨_, rfl⟩
    obtain ⟨xa, e2⟩ : ∃ x, kHa k = x := ⟨_, rfl⟩
    obtain ⟨lb, e3⟩ : ∃ x, kLb k = x := ⟨_, rfl⟩
    obtain ⟨xb, e4⟩ : ∃ x, kHb k = x := ⟨_, rfl⟩
    rw [e1, e2] at A1
    rw [e3, e4] at hvb
    rw [e1] at d2
    rw [e2] at d3
    rw [e3] at d4
    rw [e4] at d5
    clear e1 e2 e3 e4
    go_enter Tryd.func28, Tryd.ntmps28
    go_wp2_with fail
    refine (has47 _ _ _ _).mono ?_
    rintro e w1 ⟨rfl, g1⟩
    rw [A1]
    have c2 : w1.cell? ⟨w.heap.size, 2, none⟩ = some (.int .i64 b) := g1.cell' (by simp)
    have c3 : w1.cell? ⟨w.heap.size + 1, 2, none⟩ = some (.int .i64 lb) := g1.cell' (by simp)
    have c4 : w1.cell? ⟨w.heap.size + 1, 3, none⟩ = some (.int .i64 xb) := g1.cell' (by simp)
    have G : Hid (Gr w w1) := (((Gr.refl w).alloc _).alloc _).trans g1
    clear g1 d2 d3 d4 d5 A1
    go_wp2_with fail
    refine (has47 _ _ _ _).mono ?_
    rintro e w2 ⟨rfl, g2⟩
    rw [hvb]
    go_wp2_with fail
    go_ret
    exact ⟨by rw [HR.out]; rfl, G.out.trans g2⟩
  · have A1 : decide (kLa k ≤ a ∧ a ≤ kHa k) = false := decide_eq_false hA
    have HR : Hid (mayD k a b = false) := by
      show mayD k a b = false
      rw [← Bool.not_eq_true, mayD_iff, hm]
      exact fun h => hA h.1
    clear hm hA
    generalize mayD k a b = R at *
    obtain ⟨la, e1⟩ : ∃ x, kLa k = x := ⟨_, rfl⟩
    obtain ⟨xa, e2⟩ : ∃ x, kHa k = x := ⟨_, rfl⟩
    rw [e1, e2] at A1
    rw [e1] at d2
    rw [e2] at d3
    clear e1 e2
    go_enter Tryd.func28, Tryd.ntmps28
    go_wp2_with fail
    refine (has47 _ _ _ _).mono ?_
    rintro e w1 ⟨rfl, g1⟩
    rw [A1]
    have G : Hid (Gr w w1) := (((Gr.refl w).alloc _).alloc _).trans g1
    clear g1 d2 d3 d4 d5 A1
    go_wp2_with fail
    go_ret
    exact ⟨by rw [HR.out]; rfl, G.out⟩
theorem mayBe28 (op a b : Int) (w : World) (hk : Kd w) (ha : I64 a) :
    Calls Tryd.prog 28 #[.agg #[.int .i64 op, .int .i64 a, .int .i64 b]] w fun e w' => e = .returned (.bool (mayD op a b)) ∧ Gr w w' := by
  by_cases h1 : op < 1
  · have HR : Hid (mayD op a b = false) := mayD_false (fun h => by have := may_op h; omega)
    generalize mayD op a b = R at *
    go_enter Tryd.func28, Tryd.ntmps28
    go_wp2
    go_ret
    exact ⟨by rw [HR.out]; rfl, (Gr.refl w).alloc _⟩
  · by_cases h2 : 12 < op
    · have HR : Hid (mayD op a b = false) := mayD_false (fun h => by have := may_op h; omega)
      generalize mayD op a b = R at *
      go_enter Tryd.func28, Tryd.ntmps28
      go_wp2
      go_ret
      exact ⟨by rw [HR.out]; rfl, (Gr.refl w).alloc _⟩
    · obtain ⟨k, rfl⟩ : ∃ k : Nat, op = k := ⟨op.toNat, by omega⟩
      exact mayBe28_in k a b w hk (by omega) (by omega) ha
end Go.Proofs.YtgjojdlbighoaaaDoor
