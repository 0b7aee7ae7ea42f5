/- A sketch in memory, and the contracts of place, counter, least, Count and of what asks nothing of its counters; no conditions but those that each states. -/
import Derived.Test.YtbadlkjffelkhaaXth
import Derived.Test.YtbadlkjffelkhaaXhs
import Derived.Test.YtbadlkjffelkhaaRsl
import Derived.Test.YtbadlkjffelkhaaHlg
import Derived.Test.YtbadlkjffelkhaaHlh
namespace Go.Proofs.Ytbadlkjffelkhaa.Sk
open Go.RowKit Go.Maps Go.ChangeMaps
set_option maxRecDepth 100000
set_option linter.unusedVariables false
set_option linter.unusedSimpArgs false
def sl (g n cap : Nat) : Value := .slice (some ⟨g, 0, none⟩) n cap
def bx (X : S) (g cap : Nat) : Array Value := #[.int .i64 X.r, .int .i64 X.b, sl g X.n cap, .int .u64 X.t]
structure Kq (w : World) (s g cap : Nat) (X : S) : Prop where
  box : w.heap[s]? = some (.cells (bx X g cap) 78 (0, 0))
  row : w.ownsRow 0 5 1 (sl g X.n cap) X.n (flat X.b X.n X.c)
  wf : Wf X
section
variable {w w' : World} {s g cap : Nat} {X : S}
theorem Kq.ne (h : Kq w s g cap X) : s ≠ g := by
  rintro rfl
  obtain ⟨cur, hc, _⟩ := own_block h.row
  rw [h.box] at hc
  cases hc
theorem Kq.keep {F : List Nat} (h : Kq w s g cap X) (T : Touch F w w') (h1 : ¬ s ∈ F) (h2 : ¬ g ∈ F) : Kq w' s g cap X :=
  ⟨T.keep h.box h1, own_touch h.row T (fun b hb => by simp only [sl, Value.ownBlock, Option.some.injEq] at hb; subst hb; exact h2), h.wf⟩
theorem Kq.keep0 (h : Kq w s g cap X) (T : Touch [] w w') : Kq w' s g cap X := h.keep T (by simp) (by simp)
theorem Kq.lt (h : Kq w s g cap X) : s < w.heap.size := block_lt h.box
theorem Kq.ltg (h : Kq w s g cap X) : g < w.heap.size := (h.row.lt g rfl).2
theorem Kq.c0 (h : Kq w s g cap X) : w.cell? ⟨s, 0, none⟩ = some (.int .i64 X.r) := cell_at h.box rfl
theorem Kq.c1 (h : Kq w s g cap X) : w.cell? ⟨s, 1, none⟩ = some (.int .i64 X.b) := cell_at h.box rfl
theorem Kq.c2 (h : Kq w s g cap X) : w.cell? ⟨s, 2, none⟩ = some (.slice (some ⟨g, 0, none⟩) X.n cap) := cell_at h.box rfl
theorem Kq.c3 (h : Kq w s g cap X) : w.cell? ⟨s, 3, none⟩ = some (.int .u64 X.t) := cell_at h.box rfl
theorem Kq.fz (h : Kq w s g cap X) (j : Nat) : w.frozen? ⟨s, j, none⟩ = false := froz_at h.box j
theorem Kq.fg (h : Kq w s g cap X) (j : Nat) : w.frozen? ⟨g, j, none⟩ = false := own_frozen h.row j
theorem Kq.cell (h : Kq w s g cap X) {j : Nat} (hj : j < X.n) : w.cell? ⟨g, j, none⟩ = some (.int .u8 (X.c (j / 2 ^ X.b) (j % 2 ^ X.b) : Nat)) := own_cell h.row (flat_at X.c hj)
theorem Kq.cap_le (h : Kq w s g cap X) : X.n ≤ cap := by
  obtain ⟨cur, hc, hn, _⟩ := own_block h.row
  exact hn
/-- The counter of a key in a row. -/
theorem Kq.ctr (h : Kq w s g cap X) {i : Nat} (hi : i < X.r) (hv : Nat) : w.cell? ⟨g, i * 2 ^ X.b + plc X.b hv i, none⟩ = some (.int .u8 (at_ X hv i : Nat)) := by
  have hp := plc_lt X.b hv i
  have := h.cell (idx_lt hi hp)
  rwa [idx_div hp, idx_mod hp] at this
theorem mix_arg (hv i : Nat) : IntKind.u64.wrap ((hv : Int) + IntKind.u64.wrap ((i : Int) * 11400714819323198485)) = (((hv + i * 11400714819323198485) % 18446744073709551616 : Nat) : Int) := by
  rw [IntKind.wrap_u64, IntKind.wrap_u64]; omega
theorem place_at {b : Nat} (hb : b ≤ 16) (hc : ∀ w', Touch [] w w' → w'.cell? ⟨s, 1, none⟩ = some (.int .i64 (b : Nat))) (hv i : Nat) (hi : i ≤ 8) :
    Calls Try.prog 43 #[PT s, .int .u64 (hv : Nat), .int .i64 (i : Nat)] w fun e w' => e = .returned (.int .i64 (plc b hv i : Nat)) ∧ Touch [] w w' := by
  have e0 := mix_arg hv i
  have hm : (hv + i * 11400714819323198485) % 18446744073709551616 < 18446744073709551616 := Nat.mod_lt _ (by omega)
  have hq := plc_lt b hv i
  have hq2 := pow_le16 hb
  have wi : IntKind.u64.wrap (i : Int) = (i : Int) := by rw [IntKind.wrap_u64]; omega
  have HM := hid (fun w => mix30 _ hm w)
  have HF : Hid (∀ w, Calls Try.prog 54 #[.int .u64 (mixN ((hv + i * 11400714819323198485) % 18446744073709551616) : Nat), .int .i64 (b : Int)] w fun e w' => (∃ z : Int, e = .returned (.tuple #[.int .u64 (plc b hv i : Nat), .int .i64 z])) ∧ w' = w) := hid (fun w => by
    by_cases h0 : b = 0
    · subst h0
      refine (fold36_no _ 0 (Or.inl (by omega)) w).mono ?_
      rintro e w' ⟨rfl, rfl⟩
      exact ⟨⟨12, by simp [plc]⟩, rfl⟩
    · refine (fold36_lt _ b (mixN_lt _) (by omega) (by omega) w).mono ?_
      rintro e w' ⟨rfl, rfl⟩
      exact ⟨⟨0, by simp [plc, h0]⟩, rfl⟩)
  have hm1 := mixN_lt ((hv + i * 11400714819323198485) % 18446744073709551616)
  have wq : IntKind.i64.wrap ((plc b hv i : Nat) : Int) = ((plc b hv i : Nat) : Int) := by rw [IntKind.wrap_i64]; omega
  generalize mixN ((hv + i * 11400714819323198485) % 18446744073709551616) = m at *
  generalize (hv + i * 11400714819323198485) % 18446744073709551616 = z at *
  generalize plc b hv i = q at *
  clear hq hq2 hm hb
  unfold PT
  go_enter Try.func43, Try.ntmps43
  go_wp2_with fail
  go_region_held3 (fun w' => Touch [] w w') (first | assumption | exact (Touch.refl _ _).drew | exact Touch.refl _ _ | exact Touch.drew (by assumption))
    (first
      | (go_at_call 55; refine (HM.out _).mono ?_; rintro e w1 ⟨rfl, rfl⟩)
      | (go_at_call 54; refine (HF.out _).mono ?_; rintro e w2 ⟨⟨y, rfl⟩, rfl⟩))
  all_goals
    go_wp2
    go_ret
    exact ⟨rfl, by assumption⟩
theorem counter_at {n b : Nat} {cap : Nat} (hb : b ≤ 16) (hc : ∀ w', Touch [] w w' → w'.cell? ⟨s, 1, none⟩ = some (.int .i64 (b : Nat)) ∧ w'.cell? ⟨s, 2, none⟩ = some (.slice (some ⟨g, 0, none⟩) n cap)) (hv i : Nat) (hi : i ≤ 8) (hn : i * 2 ^ b + plc b hv i < n) (hn2 : n ≤ 524288) :
    Calls Try.prog 36 #[PT s, .int .u64 (hv : Nat), .int .i64 (i : Nat)] w fun e w' => e = .returned (.pointer (some ⟨g, i * 2 ^ b + plc b hv i, none⟩)) ∧ Touch [] w w' := by
  have HP : Hid (∀ w1, Touch [] w w1 → Calls Try.prog 43 #[PT s, .int .u64 (hv : Nat), .int .i64 (i : Nat)] w1 fun e w' => e = .returned (.int .i64 (plc b hv i : Nat)) ∧ Touch [] w1 w') := hid (fun w1 t1 => place_at hb (fun w' t' => (hc w' (t1.trans' t')).1) hv i hi)
  have hc1 := fun w' t' => (hc w' t').1
  have hc2 := fun w' t' => (hc w' t').2
  clear hc
  generalize plc b hv i = q at *
  have h2 := pow_le16 hb
  have e1 : IntKind.i64.wrap ((i : Int) * 2 ^ min b 64) = ((i * 2 ^ b : Nat) : Int) := by
    rw [show min b 64 = b by omega]
    have : (i : Int) * 2 ^ b = ((i * 2 ^ b : Nat) : Int) := by simp
    rw [this, IntKind.wrap_i64]
    generalize i * 2 ^ b = z at *
    omega
  have e3 : IntKind.i64.wrap ((i : Int) * 2 ^ b) = ((i * 2 ^ b : Nat) : Int) := by
    rwa [show min b 64 = b by omega] at e1
  generalize i * 2 ^ b = z at *
  have e2 : IntKind.i64.wrap ((z : Int) + (q : Int)) = ((z + q : Nat) : Int) := by rw [IntKind.wrap_i64]; omega
  generalize z + q = m at *
  have m1 : (m : Int) < (n : Int) := by omega
  clear h2
  unfold PT at *
  go_enter Try.func36, Try.ntmps36
  go_wp2_with fail
  go_region_held3 (fun w' => Touch [] w w') (first | assumption | exact (Touch.refl _ _).drew | exact Touch.refl _ _ | exact Touch.drew (by assumption))
    (first | (go_at_call 43; refine (HP.out _ (by assumption)).mono ?_; rintro e w1 ⟨rfl, t1⟩; have T1 : Touch [] w w1 := Touch.trans' (by assumption) t1; clear t1))
  all_goals
    go_wp2
    go_ret
    exact ⟨rfl, by assumption⟩
end
end Go.Proofs.Ytbadlkjffelkhaa.Sk
