/- Counts stretch by stretch, in plain words; the library's SortFunc at nothing; an event within its stretch; no conditions but those that each states. -/
import Derived.Test.YtibgfkjhohgkhaaTwa
import Derived.Test.YtibgfkjhohgkhaaTik
import Derived.Test.YtibgfkjhohgkhaaTlk
namespace Go.Proofs.Ytibgfkjhohgkhaa.Ty
open Go.RowKit Go.Maps Go.ChangeMaps
open Tr
set_option linter.unusedVariables false
set_option linter.unusedSimpArgs false
def isK (kd : Int) : Bool := decide (kd = 1 ∨ kd = 2 ∨ kd = 5)
def bump (q : Q4) (kd : Int) : Q4 := if kd = 1 then ⟨q.fr, q.jo + 1, q.be, q.en⟩ else if kd = 2 then ⟨q.fr, q.jo, q.be + 1, q.en⟩ else if kd = 5 then ⟨q.fr, q.jo, q.be, q.en + 1⟩ else q
def zq : Q4 := ⟨0, 0, 0, 0⟩
def Q4.at_ (q : Q4) (k : Int) : Q4 := ⟨k, q.jo, q.be, q.en⟩
def dk (B : Nat) (e : Ez) : Int := Ti.dn e.at_ B
def vld (e : Ez) : Bool := Ti.isT e.at_ && isK e.kd
/-- The counts behind an event. -/
def pS (B : Nat) (g : Int → Option Q4) (e : Ez) : Int → Option Q4 := if vld e = true then (fun k => if k = dk B e then some (bump ((g (dk B e)).getD zq) e.kd) else g k) else g
def pL (B : Nat) (L : List Ez) : Int → Option Q4 := L.foldl (pS B) (fun _ => none)
theorem pL_snoc (B : Nat) (L : List Ez) (e : Ez) : pL B (L ++ [e]) = pS B (pL B L) e := by simp [pL]
/-- What holds of the counts. -/
structure Pi (g : Int → Option Q4) (n : Nat) : Prop where
  z : ∀ k q, g k = some q → q.fr = 0
  w : ∀ k q, g k = some q → 0 ≤ k ∧ k ≤ 4611686018427387904
  b : ∀ k q, g k = some q → 0 ≤ q.jo ∧ q.jo ≤ n ∧ 0 ≤ q.be ∧ q.be ≤ n ∧ 0 ≤ q.en ∧ q.en ≤ n
theorem bump_fr (q : Q4) (kd : Int) : (bump q kd).fr = q.fr := by
  unfold bump
  split
  · rfl
  split
  · rfl
  split <;> rfl
theorem bump_b {q : Q4} {n : Nat} (h : 0 ≤ q.jo ∧ q.jo ≤ n ∧ 0 ≤ q.be ∧ q.be ≤ n ∧ 0 ≤ q.en ∧ q.en ≤ n) (kd : Int) : 0 ≤ (bump q kd).jo ∧ (bump q kd).jo ≤ (n + 1 : Nat) ∧ 0 ≤ (bump q kd).be ∧ (bump q kd).be ≤ (n + 1 : Nat) ∧ 0 ≤ (bump q kd).en ∧ (bump q kd).en ≤ (n + 1 : Nat) := by
  unfold bump
  split
  · simp only; omega
  split
  · simp only; omega
  split
  · simp only; omega
  · omega
theorem Pi.getD {g : Int → Option Q4} {n : Nat} (h : Pi g n) (k : Int) : ((g k).getD zq).fr = 0 ∧ 0 ≤ ((g k).getD zq).jo ∧ ((g k).getD zq).jo ≤ n ∧ 0 ≤ ((g k).getD zq).be ∧ ((g k).getD zq).be ≤ n ∧ 0 ≤ ((g k).getD zq).en ∧ ((g k).getD zq).en ≤ n := by
  cases hg : g k with
  | none => exact ⟨rfl, Int.le_refl _, by show (0 : Int) ≤ n; omega, Int.le_refl _, by show (0 : Int) ≤ n; omega, Int.le_refl _, by show (0 : Int) ≤ n; omega⟩
  | some q => exact ⟨h.z k q hg, h.b k q hg⟩
theorem Pi.step {g : Int → Option Q4} {n : Nat} (h : Pi g n) (B : Nat) (e : Ez) : Pi (pS B g e) (n + 1) := by
  unfold pS
  by_cases hv : vld e = true
  · rw [if_pos hv]
    have hT : Ti.isT e.at_ = true := by unfold vld at hv; simp at hv; exact hv.1
    obtain ⟨t0, t1⟩ := Ti.isT_yes hT
    have hd := Ti.dn_bounds e.at_ B t0
    refine ⟨fun k q hq => ?_, fun k q hq => ?_, fun k q hq => ?_⟩
    · by_cases ek : k = dk B e
      · simp only [ek, if_true, Option.some.injEq] at hq
        rw [← hq, bump_fr]
        exact (h.getD _).1
      · simp only [ek, if_false] at hq
        exact h.z k q hq
    · by_cases ek : k = dk B e
      · rw [ek]; unfold dk; omega
      · simp only [ek, if_false] at hq
        exact h.w k q hq
    · by_cases ek : k = dk B e
      · simp only [ek, if_true, Option.some.injEq] at hq
        rw [← hq]
        exact bump_b (h.getD _).2 e.kd
      · simp only [ek, if_false] at hq
        have := h.b k q hq
        omega
  · rw [if_neg hv]
    exact ⟨h.z, h.w, fun k q hq => by have := h.b k q hq; omega⟩
theorem Pi.more {B : Nat} : ∀ (L : List Ez) (g : Int → Option Q4) (n : Nat), Pi g n → Pi (L.foldl (pS B) g) (n + L.length)
  | [], g, n, h => h
  | e :: L, g, n, h => by
    have := Pi.more (B := B) L (pS B g e) (n + 1) (h.step B e)
    rw [List.length_cons, show n + (L.length + 1) = n + 1 + L.length by omega]
    exact this
theorem Pi.all (B : Nat) (L : List Ez) : Pi (pL B L) L.length := by
  have := Pi.more (B := B) L (fun _ => none) 0 ⟨fun k q h => (by cases h), fun k q h => (by cases h), fun k q h => (by cases h)⟩
  rw [Nat.zero_add] at this
  exact this
/-- A list of stretches in order that tells the counts. -/
structure Tells (g : Int → Option Q4) (S : List Q4) : Prop where
  ord : S.Pairwise (fun x y => x.fr < y.fr)
  mem : ∀ q, q ∈ S ↔ g q.fr = some (q.at_ 0)
theorem strict_unique : ∀ {S D : List Q4}, S.Pairwise (fun x y => x.fr < y.fr) → D.Pairwise (fun x y => x.fr < y.fr) → (∀ q, q ∈ S ↔ q ∈ D) → S = D
  | [], [], _, _, _ => rfl
  | [], d :: D, _, _, h => by have := (h d).2 (by simp); simp at this
  | s :: S, [], _, _, h => by have := (h s).1 (by simp); simp at this
  | s :: S, d :: D, hs, hd, h => by
    rw [List.pairwise_cons] at hs hd
    have h1 := (h s).1 (by simp)
    have h2 := (h d).2 (by simp)
    have e : s = d := by
      rcases List.mem_cons.1 h1 with e | e
      · exact e
      · rcases List.mem_cons.1 h2 with e' | e'
        · exact e'.symm
        · have := hd.1 s e
          have := hs.1 d e'
          omega
    subst e
    rw [strict_unique hs.2 hd.2 (fun q => ?_)]
    constructor
    · intro hq
      rcases List.mem_cons.1 ((h q).1 (List.mem_cons_of_mem _ hq)) with e | e
      · subst e; have := hs.1 q hq; omega
      · exact e
    · intro hq
      rcases List.mem_cons.1 ((h q).2 (List.mem_cons_of_mem _ hq)) with e | e
      · subst e; have := hd.1 q hq; omega
      · exact e
theorem Tells.unique {g : Int → Option Q4} {S D : List Q4} (h : Tells g S) (h' : Tells g D) : S = D := strict_unique h.ord h'.ord (fun q => (h.mem q).trans (h'.mem q).symm)
theorem keyed2 : Keyed Try.prog 2 := int_keyed Try.underlying2
theorem key2 {k : Int} (h : W64 k) : keyOf Try.prog 2 (.int .i64 k) = some (.int .i64 k) := keyOf_int_mk Try.underlying2 h
/-- Ticks as keys. -/
def KT : KK Try.prog 2 Int := ⟨W64, fun k => .int .i64 k, fun k => .int .i64 k, keyed2, key2, fun _ _ e => by injection e⟩
def tkq (g : Int → Option Q4) : Int → Option Value := fun k => (g k).map q4v
theorem kupd_tkq (g : Int → Option Q4) (k : Int) (q : Q4) : kupd (tkq g) k (q4v q) = tkq (fun j => if j = k then some q else g j) := by
  funext j
  unfold kupd tkq
  by_cases e : j = k <;> simp [e]
set_option maxRecDepth 20000 in
theorem within_ (q : Q4) (e : Ez) (hb : 0 ≤ q.jo ∧ q.jo ≤ 1000000 ∧ 0 ≤ q.be ∧ q.be ≤ 1000000 ∧ 0 ≤ q.en ∧ q.en ≤ 1000000) (w : World) :
    Calls Try.prog 34 #[q4v q, e.val] w fun r w' => r = .returned (.tuple #[q4v (bump q e.kd), .bool (isK e.kd)]) ∧ Touch [] w w' := by
  obtain ⟨fr, jo, be, en⟩ := q
  obtain ⟨b1, b2, b3, b4, b5, b6⟩ := hb
  simp only at b1 b2 b3 b4 b5 b6
  unfold q4v Ez.val
  by_cases h : e.kd = 1
  · have e1 : bump ⟨fr, jo, be, en⟩ e.kd = ⟨fr, jo + 1, be, en⟩ := by unfold bump; simp [h]
    have e2 : isK e.kd = true := by simp [isK, h]
    rw [e1, e2, h]
    clear e1 e2 h
    go_enter Try.func34, Try.ntmps34
    go_wp2
    exact bodyPost_ret (v := .tuple #[.agg #[.int .i64 (fr), .int .i64 (jo + 1), .int .i64 (be), .int .i64 (en)], .bool true]) (by simp [results, Try.results34, go_sem]) rfl ⟨rfl, (((Touch.refl [] w).alloc _).alloc _).alloc _⟩
  by_cases h' : e.kd = 2
  · have h := h'
    clear h'
    have e1 : bump ⟨fr, jo, be, en⟩ e.kd = ⟨fr, jo, be + 1, en⟩ := by unfold bump; simp [h]
    have e2 : isK e.kd = true := by simp [isK, h]
    rw [e1, e2, h]
    clear e1 e2 h
    go_enter Try.func34, Try.ntmps34
    go_wp2
    exact bodyPost_ret (v := .tuple #[.agg #[.int .i64 (fr), .int .i64 (jo), .int .i64 (be + 1), .int .i64 (en)], .bool true]) (by simp [results, Try.results34, go_sem]) rfl ⟨rfl, (((Touch.refl [] w).alloc _).alloc _).alloc _⟩
  by_cases h'' : e.kd = 5
  · have h := h''
    clear h' h''
    have e1 : bump ⟨fr, jo, be, en⟩ e.kd = ⟨fr, jo, be, en + 1⟩ := by unfold bump; simp [h]
    have e2 : isK e.kd = true := by simp [isK, h]
    rw [e1, e2, h]
    clear e1 e2 h
    go_enter Try.func34, Try.ntmps34
    go_wp2
    exact bodyPost_ret (v := .tuple #[.agg #[.int .i64 (fr), .int .i64 (jo), .int .i64 (be), .int .i64 (en + 1)], .bool true]) (by simp [results, Try.results34, go_sem]) rfl ⟨rfl, (((Touch.refl [] w).alloc _).alloc _).alloc _⟩
  · have e1 : bump ⟨fr, jo, be, en⟩ e.kd = ⟨fr, jo, be, en⟩ := by unfold bump; simp [h, h', h'']
    have e2 : isK e.kd = false := by simp [isK, h, h', h'']
    have q1 : (e.kd == 1) = false := by simpa using h
    have q2 : (e.kd == 2) = false := by simpa using h'
    have q5 : (e.kd == 5) = false := by simpa using h''
    rw [e1, e2]
    clear e1 e2 h h' h''
    go_enter Try.func34, Try.ntmps34
    go_wp2
    exact bodyPost_ret (v := .tuple #[.agg #[.int .i64 fr, .int .i64 jo, .int .i64 be, .int .i64 en], .bool false]) (by simp [results, Try.results34, go_sem]) rfl ⟨rfl, (((Touch.refl [] w).alloc _).alloc _).alloc _⟩
set_option maxRecDepth 100000
theorem len64_0 (w : World) : Calls Try.prog 63 #[.int .u64 0] w fun e w' => e = .returned (.int .i64 0) ∧ w' = w := by
  have hl : Lib.len8 0 = 0 := by decide
  go_enter Try.func63, Try.ntmps63
  go_wp2
  exact bodyPost_ret (v := .int .i64 0) (by simp [results, Try.results63, go_sem, hl]) rfl ⟨rfl, rfl⟩
theorem len_0 (w : World) : Calls Try.prog 48 #[.int .u64 0] w fun e w' => e = .returned (.int .i64 0) ∧ w' = w := by
  have H := hid len64_0
  go_enter Try.func48, Try.ntmps48
  go_wp2_with (go_at_call 63; refine (H.out _).mono ?_; rintro e w2 ⟨rfl, rfl⟩)
  go_ret
  exact ⟨rfl, rfl⟩
theorem ins_0 (f : Value) (w : World) : Calls Try.prog 54 #[.slice none 0 0, .int .i64 0, .int .i64 0, f] w fun e w' => e = .returned (.tuple #[]) ∧ Touch [] w w' := by
  go_enter Try.func54, Try.ntmps54
  go_wp2
  go_loopw [8] (fun s8 wr => s8 = .int .i64 1 ∧ Touch [] w wr) (fun _ _ => 0)
  case atStart => exact ⟨rfl, Touch.refl _ _⟩
  case round =>
    obtain ⟨rfl, T⟩ := hrel
    go_wp2
    go_end0
    exact ⟨rfl, T⟩
theorem pdq_0 (f : Value) (w : World) : Calls Try.prog 47 #[.slice none 0 0, .int .i64 0, .int .i64 0, .int .i64 0, f] w fun e w' => e = .returned (.tuple #[]) ∧ Touch [] w w' := by
  have H := hid ins_0
  go_enter Try.func47, Try.ntmps47
  go_wp2
  go_loopw [1, 2, 3] (fun s1 s2 s3 wr => s1 = .int .i64 0 ∧ s2 = .int .i64 0 ∧ Touch [] w wr) (fun _ _ _ _ => 0)
  case atStart => exact ⟨rfl, rfl, Touch.refl _ _⟩
  case round =>
    obtain ⟨rfl, rfl, T⟩ := hrel
    go_wp2_with (go_at_call 54; refine (H.out _ _).mono ?_; rintro e w2 ⟨rfl, t2⟩)
    exact bodyPost_ret (v := .tuple #[]) (by simp [results, Try.results47, go_sem]) rfl ⟨rfl, T.trans' t2⟩
theorem sort_0 (f : Value) (w : World) : Calls Try.prog 35 #[.slice none 0 0, f] w fun e w' => e = .returned (.tuple #[]) ∧ Touch [] w w' := by
  have H := hid pdq_0
  have HL := hid len_0
  go_enter Try.func35, Try.ntmps35
  go_wp2_with (first | (go_at_call 48; refine (HL.out _).mono ?_; rintro e w2 ⟨rfl, rfl⟩) | (go_at_call 47; refine (H.out _ _).mono ?_; rintro e w2 ⟨rfl, t2⟩))
  go_end0
  exact ⟨rfl, t2⟩
end Go.Proofs.Ytibgfkjhohgkhaa.Ty
