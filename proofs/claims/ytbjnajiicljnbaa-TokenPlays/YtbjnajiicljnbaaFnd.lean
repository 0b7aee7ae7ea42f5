/- Tokens of the program in memory; the contracts of find, Why, Is, Holders, Parent and Len. -/
import Derived.Test.YtbjnajiicljnbaaMem
import Derived.OwnWalk
import Derived.Deep.AppendLies
import Derived.Deep.QuietTactic
import Derived.Deep.RegionHeld3
import Derived.Deep.RegionWith
import Derived.Deep.RegionLaw
import Derived.Lib.QuietBelow
namespace Go.Proofs.Ytbjnajiicljnbaa
open Go.RowKit Go.Maps Go.ChangeMaps
set_option linter.unusedVariables false
def TC (w : World) (t : Nat) (sl : Value) : Prop := w.heap[t]? = some (.cells #[sl] 56 (0, 0))
section
variable {w w' : World} {t : Nat} {sl : Value}
theorem TC.c0 (h : TC w t sl) : w.cell? ⟨t, 0, none⟩ = some sl := by unfold TC at h; simp [World.cell?, h]
theorem TC.fr (h : TC w t sl) (i : Nat) : w.frozen? ⟨t, i, none⟩ = false := by unfold TC at h; simp [World.frozen?, h]
theorem TC.keep {F : List Nat} (h : TC w t sl) (ht : Touch F w w') (hn : ¬ t ∈ F) : TC w' t sl := ht.keep h hn
theorem TC.set (h : TC w t sl) (v : Value) : TC (w.setCell ⟨t, 0, none⟩ v) t v := Joins.block_setCell h _
end
/-- The program's tokens. -/
structure Tn (w : World) (t : Nat) (sl : Value) (S : List Tk) : Prop where
  tc : TC w t sl
  row : w.ownsRow 0 61 5 sl S.length (flat5 S)
  le : S.length ≤ 65536
  nz : S = [] → sl = .slice none 0 0
def ft (t : Nat) (sl : Value) : List Nat := t :: sl.ownBlock.toList
section
variable {w w' : World} {t : Nat} {sl : Value} {S : List Tk}
theorem Tn.ne (h : Tn w t sl S) : ∀ b, sl.ownBlock = some b → b ≠ t := by
  intro b hb e'
  obtain ⟨h1, h2 | ⟨g, cap, cur, rfl, hg, hcc, r⟩⟩ := h.row
  · rw [h2.1] at hb; cases hb
  · simp [Value.ownBlock] at hb
    subst hb e'
    have := h.tc
    unfold TC at this
    rw [hcc] at this
    simp at this
theorem Tn.keep {F : List Nat} (h : Tn w t sl S) (ht : Touch F w w') (hn : ∀ k, k ∈ ft t sl → ¬ k ∈ F) : Tn w' t sl S :=
  ⟨h.tc.keep ht (hn t (by simp [ft])), own_touch h.row ht (fun b hb => hn b (by simp [ft, hb])), h.le, h.nz⟩
theorem Tn.keep0 (h : Tn w t sl S) (ht : Touch [] w w') : Tn w' t sl S := h.keep ht (fun _ _ e => by cases e)
theorem Tn.lt (h : Tn w t sl S) : ∀ k, k ∈ ft t sl → k < w.heap.size := fun k hk => by
  rcases List.mem_cons.1 hk with rfl | hk
  · exact block_lt h.tc
  · exact (h.row.lt k (by simpa using hk)).2
theorem Tn.slice (h : Tn w t sl S) (h1 : 1 ≤ S.length) : ∃ g c, sl = .slice (some ⟨g, 0, none⟩) S.length c := by
  rcases h.row.2 with ⟨_, e⟩ | ⟨g, cap, cur, e, _⟩
  · omega
  · exact ⟨g, cap, e⟩
theorem tk_gt (S : List Tk) (m : Nat) : tk S m = gt S (m - 1) := rfl
/-- The cells of a token. -/
theorem Tn.cells {g c N : Nat} (h : Tn w t (.slice (some ⟨g, 0, none⟩) N c) S) {m : Nat} (h1 : 1 ≤ m) (h2 : m ≤ S.length) :
    w.cell? ⟨g, (m - 1) * 5, none⟩ = some (.int .i64 ((tk S m).par : Nat)) ∧ w.cell? ⟨g, (m - 1) * 5 + 1, none⟩ = some (.int .i64 ((tk S m).hol : Nat)) ∧ w.cell? ⟨g, (m - 1) * 5 + 2, none⟩ = some (.int .i64 ((tk S m).why : Nat)) ∧ w.cell? ⟨g, (m - 1) * 5 + 3, none⟩ = some (.int .i64 ((tk S m).ch : Nat)) ∧ w.cell? ⟨g, (m - 1) * 5 + 4, none⟩ = some (.int .i64 ((tk S m).el : Nat)) := by
  have hr := h.row
  obtain ⟨p, c', e⟩ := own_form hr
  injection e with e1 e2 e3
  rw [e2] at hr
  obtain ⟨a0, a1, a2, a3, a4⟩ := flat5_at S (m - 1) (by omega)
  exact ⟨own_cell hr a0, own_cell hr a1, own_cell hr a2, own_cell hr a3, own_cell hr a4⟩
theorem Tn.frz {g c N : Nat} (h : Tn w t (.slice (some ⟨g, 0, none⟩) N c) S) (p : Nat) : w.frozen? ⟨g, p, none⟩ = false := by
  have hr := h.row
  obtain ⟨p', c', e⟩ := own_form hr
  injection e with e1 e2 e3
  rw [e2] at hr
  exact own_frozen hr p
end
def PT (t : Nat) : Value := .pointer (some ⟨t, 0, none⟩)
/-- Is a number a token's? -/
def Va (S : List Tk) (n : Int) : Prop := 1 ≤ n ∧ n ≤ (S.length : Int)
abbrev vaB (S : List Tk) (n : Int) : Bool := decide (1 ≤ n) && decide (n ≤ (S.length : Int))
theorem va_nat {S : List Tk} {n : Int} (h : Va S n) : ∃ m : Nat, n = (m : Int) ∧ 1 ≤ m ∧ m ≤ S.length := ⟨n.toNat, by unfold Va at h; omega, by unfold Va at h; omega, by unfold Va at h; omega⟩
section
variable (w : World) (t : Nat) (sl : Value) (S : List Tk) (n : Int)
set_option maxHeartbeats 1000000 in
theorem find26_ok (g c : Nat) (m : Nat) (h : Tn w t (.slice (some ⟨g, 0, none⟩) S.length c) S) (h1 : 1 ≤ m) (h2 : m ≤ S.length) :
    Calls Try.prog 26 #[PT t, .int .i64 (m : Nat)] w fun e w' => e = .returned (.pointer (some ⟨g, (m - 1) * 5, none⟩)) ∧ w' = w := by
  have c0 := h.tc.c0
  have hle := h.le
  clear h
  generalize S.length = N at *
  obtain ⟨i, rfl⟩ : ∃ i, m = i + 1 := ⟨m - 1, by omega⟩
  have z1 : ((i + 1 : Nat) : Int) = (i : Int) + 1 := by omega
  have z2 : (i : Int) + 1 ≤ (N : Int) := by omega
  have z3 : (N : Int) ≤ 65536 := by omega
  clear h1 h2 hle
  unfold PT
  go_enter Try.func26, Try.ntmps26
  go_wp2
  go_ret
  exact ⟨rfl, rfl⟩
set_option maxHeartbeats 1000000 in
theorem find26_no (h : Tn w t sl S) (hn : ¬ Va S n) : Calls Try.prog 26 #[PT t, .int .i64 n] w fun e w' => e = .returned (.pointer none) ∧ w' = w := by
  obtain ⟨p, c, rfl⟩ := own_form h.row
  have c0 := h.tc.c0
  unfold Va at hn
  clear h
  generalize S.length = N at *
  unfold PT
  by_cases e : n < 1
  · clear hn
    go_enter Try.func26, Try.ntmps26
    go_wp2
    go_ret
    exact ⟨rfl, rfl⟩
  · have e1 : 1 ≤ n := by omega
    have e2 : (N : Int) < n := by omega
    clear hn e
    go_enter Try.func26, Try.ntmps26
    go_wp2
    go_ret
    exact ⟨rfl, rfl⟩
theorem find26_nil : Calls Try.prog 26 #[.pointer none, .int .i64 n] w fun e w' => e = .returned (.pointer none) ∧ w' = w := by
  go_enter Try.func26, Try.ntmps26
  go_wp2
  go_ret
  exact ⟨rfl, rfl⟩
/-- A field of a token, 0 of what is none. -/
def fI (f : Tk → Nat) (S : List Tk) (n : Int) : Int := if 1 ≤ n ∧ n ≤ (S.length : Int) then ((f (tk S n.toNat) : Nat) : Int) else 0
theorem fI_ok {f : Tk → Nat} {S : List Tk} {m : Nat} (h1 : 1 ≤ m) (h2 : m ≤ S.length) : fI f S m = (f (tk S m) : Nat) := by
  unfold fI
  rw [if_pos ⟨by omega, by omega⟩]
  simp
theorem fI_no {f : Tk → Nat} {S : List Tk} {n : Int} (h : ¬ Va S n) : fI f S n = 0 := by
  unfold fI
  exact if_neg h
set_option maxHeartbeats 1000000 in
theorem why21 (h : Tn w t sl S) : Calls Try.prog 21 #[PT t, .int .i64 n] w fun e w' => e = .returned (.int .i64 (fI Tk.why S n)) ∧ w' = w := by
  by_cases hv : Va S n
  · obtain ⟨m, rfl, h1, h2⟩ := va_nat hv
    rw [fI_ok h1 h2]
    obtain ⟨g, c, rfl⟩ := h.slice (by omega)
    obtain ⟨_, _, x, _, _⟩ := h.cells h1 h2
    have HF := hid (find26_ok w t S g c m h h1 h2)
    clear h h1 h2 hv
    unfold PT at *
    generalize (m : Int) = n at *
    generalize (m - 1) * 5 = k at *
    go_enter Try.func21, Try.ntmps21
    go_wp2_with (go_at_call 26; refine HF.out.mono ?_; rintro e w1 ⟨rfl, rfl⟩)
    go_ret
    exact ⟨rfl, rfl⟩
  · rw [fI_no hv]
    have HF := hid (find26_no w t sl S n h hv)
    clear h hv
    unfold PT at *
    go_enter Try.func21, Try.ntmps21
    go_wp2_with (go_at_call 26; refine HF.out.mono ?_; rintro e w1 ⟨rfl, rfl⟩)
    go_ret
    exact ⟨rfl, rfl⟩
set_option maxHeartbeats 1000000 in
theorem parent20 (h : Tn w t sl S) : Calls Try.prog 20 #[PT t, .int .i64 n] w fun e w' => e = .returned (.int .i64 (fI Tk.par S n)) ∧ w' = w := by
  by_cases hv : Va S n
  · obtain ⟨m, rfl, h1, h2⟩ := va_nat hv
    rw [fI_ok h1 h2]
    obtain ⟨g, c, rfl⟩ := h.slice (by omega)
    obtain ⟨x, _, _, _, _⟩ := h.cells h1 h2
    have HF := hid (find26_ok w t S g c m h h1 h2)
    clear h h1 h2 hv
    unfold PT at *
    generalize (m : Int) = n at *
    generalize (m - 1) * 5 = k at *
    go_enter Try.func20, Try.ntmps20
    go_wp2_with (go_at_call 26; refine HF.out.mono ?_; rintro e w1 ⟨rfl, rfl⟩)
    go_ret
    exact ⟨rfl, rfl⟩
  · rw [fI_no hv]
    have HF := hid (find26_no w t sl S n h hv)
    clear h hv
    unfold PT at *
    go_enter Try.func20, Try.ntmps20
    go_wp2_with (go_at_call 26; refine HF.out.mono ?_; rintro e w1 ⟨rfl, rfl⟩)
    go_ret
    exact ⟨rfl, rfl⟩
set_option maxHeartbeats 1000000 in
theorem holders24 (h : Tn w t sl S) : Calls Try.prog 24 #[PT t, .int .i64 n] w fun e w' => e = .returned (.int .i64 (fI Tk.hol S n)) ∧ w' = w := by
  by_cases hv : Va S n
  · obtain ⟨m, rfl, h1, h2⟩ := va_nat hv
    rw [fI_ok h1 h2]
    obtain ⟨g, c, rfl⟩ := h.slice (by omega)
    obtain ⟨_, x, _, _, _⟩ := h.cells h1 h2
    have HF := hid (find26_ok w t S g c m h h1 h2)
    clear h h1 h2 hv
    unfold PT at *
    generalize (m : Int) = n at *
    generalize (m - 1) * 5 = k at *
    go_enter Try.func24, Try.ntmps24
    go_wp2_with (go_at_call 26; refine HF.out.mono ?_; rintro e w1 ⟨rfl, rfl⟩)
    go_ret
    exact ⟨rfl, rfl⟩
  · rw [fI_no hv]
    have HF := hid (find26_no w t sl S n h hv)
    clear h hv
    unfold PT at *
    go_enter Try.func24, Try.ntmps24
    go_wp2_with (go_at_call 26; refine HF.out.mono ?_; rintro e w1 ⟨rfl, rfl⟩)
    go_ret
    exact ⟨rfl, rfl⟩
theorem is22 (h : Tn w t sl S) : Calls Try.prog 22 #[PT t, .int .i64 n] w fun e w' => e = .returned (.bool (fI Tk.why S n != 0)) ∧ w' = w := by
  have HF := hid (why21 w t sl S n h)
  clear h
  generalize fI Tk.why S n = y at *
  unfold PT at *
  go_enter Try.func22, Try.ntmps22
  go_wp2_with (go_at_call 21; refine HF.out.mono ?_; rintro e w1 ⟨rfl, rfl⟩)
  go_ret
  exact ⟨rfl, rfl⟩
theorem len19 (h : Tn w t sl S) : Calls Try.prog 19 #[PT t] w fun e w' => e = .returned (.int .i64 (S.length : Nat)) ∧ w' = w := by
  obtain ⟨p, c, rfl⟩ := own_form h.row
  have c0 := h.tc.c0
  clear h
  generalize S.length = N at *
  unfold PT at *
  go_enter Try.func19, Try.ntmps19
  go_wp2
  go_ret
  exact ⟨rfl, rfl⟩
end
end Go.Proofs.Ytbjnajiicljnbaa
