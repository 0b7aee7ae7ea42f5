/- The contracts of the document's lists: Find, Due, kind. -/
import Derived.Test.YtonkclllofbklaaAla
namespace Go.Proofs.Ytonkclllofbklaa
open Go.RowKit Go.Maps Go.ChangeMaps
set_option linter.unusedVariables false
/-- A tick and an item. -/
structure Tm where
  at_ : Int
  it : Int
def tmC (x : Tm) : List Value := [.int .i64 x.at_, .int .i64 x.it]
def flatT (s : List Tm) : List Value := s.flatMap tmC
def gtT (s : List Tm) (i : Nat) : Tm := s.getD i ⟨0, 0⟩
theorem gtT_eq {s : List Tm} {i : Nat} (h : i < s.length) : gtT s i = s[i] := by simp [gtT, List.getD_eq_getElem?_getD, List.getElem?_eq_getElem h]
theorem flatT_cons (x : Tm) (s : List Tm) : flatT (x :: s) = .int .i64 x.at_ :: .int .i64 x.it :: flatT s := by simp [flatT, tmC]
theorem flatT_len (s : List Tm) : (flatT s).length = s.length * 2 := by
  induction s with
  | nil => rfl
  | cons x s ih => rw [flatT_cons]; simp [ih]; omega
theorem flatT_app (s t : List Tm) : flatT (s ++ t) = flatT s ++ flatT t := by simp [flatT]
theorem flatT_at : ∀ (s : List Tm) (i : Nat), i < s.length → (flatT s)[i * 2]? = some (.int .i64 (gtT s i).at_) ∧ (flatT s)[i * 2 + 1]? = some (.int .i64 (gtT s i).it)
  | x :: s, 0, _ => by rw [flatT_cons]; simp [gtT]
  | x :: s, i + 1, h => by
    have ih := flatT_at s i (by simpa using h)
    rw [flatT_cons, show (i + 1) * 2 = i * 2 + 1 + 1 by omega, show i * 2 + 1 + 1 + 1 = (i * 2 + 1) + 1 + 1 by omega]
    simpa [gtT] using ih
theorem flatT_take (s : List Tm) (i : Nat) : (flatT s).take (i * 2) = flatT (s.take i) := by
  induction s generalizing i with
  | nil => simp [flatT]
  | cons x s ih =>
    cases i with
    | zero => simp [flatT]
    | succ i => rw [flatT_cons, show (i + 1) * 2 = i * 2 + 1 + 1 by omega, List.take_succ_cons, List.take_succ_cons, ih, List.take_succ_cons, flatT_cons]
theorem flatT_drop (s : List Tm) (i : Nat) : (flatT s).drop (i * 2) = flatT (s.drop i) := by
  induction s generalizing i with
  | nil => simp [flatT]
  | cons x s ih =>
    cases i with
    | zero => simp [flatT]
    | succ i => rw [flatT_cons, show (i + 1) * 2 = i * 2 + 1 + 1 by omega, List.drop_succ_cons, List.drop_succ_cons, ih, List.drop_succ_cons]
/-- A list of the document's in memory. -/
def RL (w : World) (B : Nat) (v : Value) (l : List Tm) : Prop := w.ownsRow B 34 2 v l.length (flatT l)
def fnd (l : List Tm) (k : Int) : Int := match l.findIdx? (fun x => x.it == k) with
  | some i => i
  | none => -1
theorem RL.slice {w : World} {B : Nat} {v : Value} {l : List Tm} (h : RL w B v l) : ∃ a c, v = .slice a l.length c := own_form h
theorem RL.keep {F : List Nat} {w w' : World} {B : Nat} {v : Value} {l : List Tm} (h : RL w B v l) (ht : Touch F w w') (hn : ∀ b, v.ownBlock = some b → ¬ b ∈ F) : RL w' B v l := own_touch h ht hn
theorem RL.keep0 {w w' : World} {B : Nat} {v : Value} {l : List Tm} (h : RL w B v l) (ht : Touch [] w w') : RL w' B v l := own_touch h ht (fun _ _ e => by cases e)
theorem RL.cells {w : World} {B : Nat} {a : Option Addr} {n c : Nat} {l : List Tm} (h : RL w B (.slice a n c) l) {k : Nat} (hk : k < l.length) : ∃ g, a = some ⟨g, 0, none⟩ ∧ n = l.length ∧ w.cell? ⟨g, k * 2, none⟩ = some (.int .i64 (gtT l k).at_) ∧ w.cell? ⟨g, k * 2 + 1, none⟩ = some (.int .i64 (gtT l k).it) := by
  obtain ⟨g, c', e, _⟩ := World.ownsRow.form h (by omega)
  injection e with e1 e2 e3
  subst e1 e2 e3
  obtain ⟨x0, x1⟩ := flatT_at l k hk
  exact ⟨g, rfl, rfl, own_cell h x0, own_cell h x1⟩
theorem ret_int {a b : Int} (h : a = b) : Ending.returned (.int .i64 a) = .returned (.int .i64 b) := by rw [h]
theorem find_at {l : List Tm} {k : Int} {i : Nat} (hi : i < l.length) (h : ∀ j, j < i → (gtT l j).it ≠ k) (he : (gtT l i).it = k) : fnd l k = i := by
  have : l.findIdx? (fun x => x.it == k) = some i := by
    rw [List.findIdx?_eq_some_iff_getElem]
    refine ⟨hi, by rw [gtT_eq hi] at he; simpa using he, fun j hj => ?_⟩
    have := h j hj
    rw [gtT_eq (by omega)] at this
    simpa using this
  unfold fnd
  rw [this]
theorem find_no {l : List Tm} {k : Int} (h : ∀ j, j < l.length → (gtT l j).it ≠ k) : fnd l k = -1 := by
  have : l.findIdx? (fun x => x.it == k) = none := by
    rw [List.findIdx?_eq_none_iff]
    intro x hx
    obtain ⟨j, hj, rfl⟩ := List.getElem_of_mem hx
    have := h j hj
    rw [gtT_eq hj] at this
    simpa using this
  unfold fnd
  rw [this]
set_option maxHeartbeats 1000000 in
theorem find10 (w : World) (B : Nat) (v : Value) (l : List Tm) (k : Int) (h : RL w B v l) (hl : l.length ≤ 65536) :
    Calls Try.prog 10 #[v, .int .i64 k] w fun e w' => e = .returned (.int .i64 (fnd l k)) ∧ Touch [] w w' := by
  obtain ⟨a, c, rfl⟩ := h.slice
  have HR := hid h
  clear h
  have zl : (l.length : Int) ≤ 65536 := by omega
  go_enter Try.func10, Try.ntmps10
  go_wp2
  go_loopw [9] (fun i wr => ∃ n : Nat, i = .int .i64 n ∧ n ≤ l.length ∧ Hid ((∀ j, j < n → (gtT l j).it ≠ k) ∧ Touch [] w wr)) (fun i _ => l.length - (intOf i).toNat)
  case atStart => exact ⟨0, rfl, Nat.zero_le _, fun j hj => by omega, Touch.refl _ _⟩
  case round =>
    obtain ⟨n, rfl, hn, HK⟩ := hrel
    by_cases hlt : n < l.length
    · have zn : (n : Int) < (l.length : Int) := by omega
      obtain ⟨g, rfl, _, a0, a1⟩ := (HR.out.keep0 HK.out.2).cells hlt
      by_cases e : (gtT l n).it = k
      · have HF := hid (find_at hlt HK.out.1 e)
        have e' : ((gtT l n).it == k) = true := by simp [e]
        clear e
        generalize gtT l n = x at *
        go_wp2
        go_ret
        exact ⟨ret_int HF.out.symm, HK.out.2.alloc _⟩
      · have e' : ((gtT l n).it == k) = false := by simp [e]
        have HN : Hid (∀ j, j < n + 1 → (gtT l j).it ≠ k) := fun j hj => by
          by_cases ej : j = n
          · subst ej; exact e
          · exact HK.out.1 j (by omega)
        clear e
        generalize gtT l n = x at *
        go_wp2
        go_roundw
        case rel => exact ⟨n + 1, by go_num, by omega, HN.out, HK.out.2.alloc _⟩
        case measure => simp [intOf]; omega
    · have zn : ¬ (n : Int) < (l.length : Int) := by omega
      have HF : Hid (fnd l k = -1) := find_no (fun j hj => HK.out.1 j (by omega))
      go_wp2
      go_ret
      exact ⟨ret_int HF.out.symm, HK.out.2⟩
theorem kind_eq (k : Int) : (wrap64 (k.tmod 6 + 6)).tmod 6 = k % 6 := by
  have h1 : k.tmod 6 = k % 6 ∨ k.tmod 6 = k % 6 - 6 ∧ ¬ k % 6 = 0 := by
    rw [Int.tmod_eq_emod]
    split
    · left; omega
    · right
      rename_i h
      have : ¬ (6 ∣ k) := fun e => h (Or.inr e)
      refine ⟨by simp, fun e => this (Int.dvd_of_emod_eq_zero e)⟩
  have h2 : wrap64 (k.tmod 6 + 6) = k.tmod 6 + 6 := by
    have := Int.emod_nonneg k (show (6 : Int) ≠ 0 by decide)
    have := Int.emod_lt_of_pos k (show (0 : Int) < 6 by decide)
    unfold wrap64
    omega
  rw [h2, Int.tmod_eq_emod_of_nonneg (by have := Int.emod_nonneg k (show (6 : Int) ≠ 0 by decide); omega)]
  have := Int.emod_nonneg k (show (6 : Int) ≠ 0 by decide)
  have := Int.emod_lt_of_pos k (show (0 : Int) < 6 by decide)
  omega
theorem kind11 (k : Int) (hk : W64 k) (w : World) : Calls Try.prog 11 #[.int .i64 k, .int .i64 6] w fun e w' => e = .returned (.int .i64 (k % 6)) ∧ w' = w := by
  have h1 := hk.lo
  have h2 := hk.hi
  have HE := hid (kind_eq k)
  clear hk
  go_enter Try.func11, Try.ntmps11
  go_wp2
  go_ret
  exact ⟨ret_int HE.out, rfl⟩
def dueT (l : List Tm) (now : Int) : Nat := (l.takeWhile (fun x => decide (x.at_ ≤ now))).length
theorem dueT_of {l : List Tm} {now : Int} {n : Nat} (hn : n ≤ l.length) (h : ∀ j, j < n → (gtT l j).at_ ≤ now) (he : n = l.length ∨ now < (gtT l n).at_) : dueT l now = n := by
  induction l generalizing n with
  | nil => simp at hn; subst hn; rfl
  | cons x l ih =>
    cases n with
    | zero =>
      have : now < x.at_ := by
        rcases he with e | e
        · simp at e
        · exact e
      simp [dueT, show ¬ x.at_ ≤ now by omega]
    | succ n =>
      have h0 : x.at_ ≤ now := h 0 (by omega)
      have := ih (n := n) (by simpa using hn) (fun j hj => h (j + 1) (by omega)) (by
        rcases he with e | e
        · left; simpa using e
        · right; exact e)
      unfold dueT at this ⊢
      rw [List.takeWhile_cons, if_pos (by simpa using h0)]
      simp [this]
set_option maxHeartbeats 1000000 in
theorem rdue20 (w : World) (B : Nat) (v : Value) (l : List Tm) (now : Int) (h : RL w B v l) (hl : l.length ≤ 65536) :
    Calls Try.prog 20 #[v, .int .i64 now] w fun e w' => e = .returned (.int .i64 (dueT l now)) ∧ w' = w := by
  obtain ⟨a, c, rfl⟩ := h.slice
  have HR := hid h
  clear h
  have zl : (l.length : Int) ≤ 65536 := by omega
  go_enter Try.func20, Try.ntmps20
  go_wp2
  go_loop [5] (fun i => ∃ n : Nat, i = .int .i64 n ∧ n ≤ l.length ∧ Hid (∀ j, j < n → (gtT l j).at_ ≤ now)) (fun i => l.length - (intOf i).toNat)
  case atStart => exact ⟨0, rfl, Nat.zero_le _, fun j hj => by omega⟩
  case round =>
    obtain ⟨n, rfl, hn, HK⟩ := hrel
    by_cases hlt : n < l.length
    · have zn : (n : Int) < (l.length : Int) := by omega
      obtain ⟨g, rfl, _, a0, a1⟩ := HR.out.cells hlt
      by_cases e : (gtT l n).at_ ≤ now
      · have HN : Hid (∀ j, j < n + 1 → (gtT l j).at_ ≤ now) := fun j hj => by
          by_cases ej : j = n
          · subst ej; exact e
          · exact HK.out j (by omega)
        generalize gtT l n = x at *
        go_wp2
        go_round
        case rel => exact ⟨n + 1, by go_num, by omega, HN⟩
        case measure => simp [intOf]; omega
      · have HF := hid (dueT_of hn HK.out (Or.inr (by omega)))
        generalize gtT l n = x at *
        go_wp2
        go_ret
        exact ⟨ret_int (by rw [HF.out]), rfl⟩
    · have zn : ¬ (n : Int) < (l.length : Int) := by omega
      have HF := hid (dueT_of hn HK.out (Or.inl (by omega)))
      go_wp2
      go_ret
      exact ⟨ret_int (by rw [HF.out]), rfl⟩
end Go.Proofs.Ytonkclllofbklaa
