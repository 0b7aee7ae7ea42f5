/- How long callers waited and how long runs were, in plain words; a time counted; no conditions but those that each states. -/
import Derived.Test.YtibgfkjhohgkhaaTlk
import Derived.Test.YtibgfkjhohgkhaaTik
import Derived.Deep.RegionWith
namespace Go.Proofs.Ytibgfkjhohgkhaa.Ty
open Go.RowKit Go.Maps Go.ChangeMaps
open Tr
set_option linter.unusedVariables false
set_option linter.unusedSimpArgs false
/-- Of callers, or of runs: the number that an event speaks of, the kind that a time begins with, the kind that it ends with. -/
def nb (q : Bool) (e : Ez) : Int := if q then e.ca else e.ru
def fr (q : Bool) : Int := if q then 1 else 2
def te (q : Bool) : Int := if q then 4 else 5
theorem fr_ne (q : Bool) : fr q ≠ te q := by cases q <;> decide
def bk (d : Int) : Nat := Lib.bitLen d.toNat
/-- A time counted. -/
def cnt (f : Nat → Int) (now at' : Int) : Nat → Int := if Ti.isT now = true ∧ Ti.isT at' = true ∧ at' ≤ now then fset f (bk (now - at')) (f (bk (now - at')) + 1) else f
structure Tb where
  g : Int → Option Int
  f : Nat → Int
def tS (q : Bool) (s : Tb) (e : Ez) : Tb :=
  ⟨if e.kd = fr q then (fun n => if n = nb q e then some e.at_ else s.g n) else s.g,
   if e.kd = te q then (match s.g (nb q e) with | some a => cnt s.f e.at_ a | none => s.f) else s.f⟩
def tL (q : Bool) (L : List Ez) : Tb := L.foldl (tS q) ⟨fun _ => none, z0⟩
theorem tL_snoc (q : Bool) (L : List Ez) (e : Ez) : tL q (L ++ [e]) = tS q (tL q L) e := by simp [tL]
theorem bk_lt {d : Int} (h0 : 0 ≤ d) (h1 : d < 9223372036854775808) : bk d < 64 := by
  unfold bk
  by_cases e : d.toNat = 0
  · rw [e, Ti.bitLen_zero]; omega
  · obtain ⟨m, h, h2, _⟩ := Ti.bitLen_range d.toNat e (by omega)
    omega
theorem cnt_b {f : Nat → Int} {n : Int} (h : ∀ i, 0 ≤ f i ∧ f i ≤ n) (now at' : Int) (i : Nat) : 0 ≤ cnt f now at' i ∧ cnt f now at' i ≤ n + 1 := by
  have := h i
  have := h (bk (now - at'))
  unfold cnt fset
  split
  · dsimp only; split <;> omega
  · omega
theorem tS_b {q : Bool} {s : Tb} {n : Int} (h : ∀ i, 0 ≤ s.f i ∧ s.f i ≤ n) (e : Ez) (i : Nat) : 0 ≤ (tS q s e).f i ∧ (tS q s e).f i ≤ n + 1 := by
  have h1 := h i
  unfold tS
  dsimp only
  split
  · cases s.g (nb q e) with
    | some a => exact cnt_b h _ _ i
    | none => simp only; omega
  · omega
theorem tL_more {q : Bool} : ∀ (L : List Ez) (s : Tb) (n : Nat), (∀ i, 0 ≤ s.f i ∧ s.f i ≤ n) → ∀ i, 0 ≤ (L.foldl (tS q) s).f i ∧ (L.foldl (tS q) s).f i ≤ (n + L.length : Nat)
  | [], s, n, h, i => h i
  | e :: L, s, n, h, i => by
    have := tL_more (q := q) L (tS q s e) (n + 1) (fun i => by have := tS_b (q := q) h e i; omega) i
    rw [List.length_cons, show n + (L.length + 1) = n + 1 + L.length by omega]
    exact this
theorem tL_b (q : Bool) (L : List Ez) (i : Nat) : 0 ≤ (tL q L).f i ∧ (tL q L).f i ≤ (L.length : Nat) := by
  have := tL_more (q := q) L ⟨fun _ => none, z0⟩ 0 (fun _ => ⟨Int.le_refl _, Int.le_refl _⟩) i
  rw [Nat.zero_add] at this
  exact this
def tk (g : Int → Option Int) : Int → Option Value := fun n => (g n).map (Value.int .i64 ·)
theorem kupd_tk (g : Int → Option Int) (k x : Int) : kupd (tk g) k (.int .i64 x) = tk (fun n => if n = k then some x else g n) := by
  funext n
  unfold kupd tk
  by_cases e : n = k
  · simp [e]
  · simp [e]
set_option maxRecDepth 20000 in
theorem countTime_ {w : World} {b : Nat} {f : Nat → Int} {t : TypeId} (h : Row w b 64 f t) (hf : ∀ j, 0 ≤ f j ∧ f j ≤ 1000000000000) (now at' : Int) :
    Calls Try.prog 43 #[.pointer (some ⟨b, 0, none⟩), .int .i64 now, .int .i64 at'] w fun r w' => r = .returned (.tuple #[]) ∧ Row w' b 64 (cnt f now at') t ∧ Touch [b] w w' := by
  unfold cnt
  by_cases hy : Ti.isT now = true ∧ Ti.isT at' = true ∧ at' ≤ now
  · rw [if_pos hy]
    obtain ⟨h1, h2, h3⟩ := hy
    have ea : Ti.ageOf now at' = now - at' := by simp [Ti.ageOf, h1, h2, h3]
    have ee : Ti.ageErr now at' = 0 := by simp [Ti.ageErr, h1, h2, h3]
    obtain ⟨n0, n1⟩ := Ti.isT_yes h1
    obtain ⟨a0, a1⟩ := Ti.isT_yes h2
    have hd0 : 0 ≤ now - at' := by omega
    have hd1 : now - at' < 9223372036854775808 := by omega
    have hA := fun w' => Ti.age9 now at' w'
    rw [ea, ee] at hA
    have hB := fun w' => Ti.bucket20_yes (now - at') hd0 hd1 w'
    have hk := bk_lt hd0 hd1
    have hB' : ∀ w', Calls Try.prog 52 #[.int .i64 (now - at')] w' fun e w2 => e = .returned (.tuple #[.int .i64 (bk (now - at') : Nat), .int .i64 0]) ∧ w2 = w' := hB
    have HA := hid hA
    have HB := hid hB'
    clear hA hB hB' ea ee h1 h2
    generalize bk (now - at') = k at *
    generalize now - at' = d at *
    have hc := h.cell (i := k) (by omega)
    have hz := h.froz k
    obtain ⟨b0, b1⟩ := hf k
    have H := hid (fun w2 (r2 : Row w2 b 64 f t) => r2.set (i := k) (by omega) (f k + 1))
    clear hf
    have H0 := hid h
    clear h
    generalize f k = z at *
    clear n0 n1 a0 a1
    go_enter Try.func43, Try.ntmps43
    go_wp2_with (first | (go_at_call 51; refine (HA.out _).mono ?_; rintro e w' ⟨rfl, hw'⟩; subst w') | (go_at_call 52; refine (HB.out _).mono ?_; rintro e w' ⟨rfl, hw'⟩; subst w'))
    go_region_with fail
    all_goals go_wp2_with fail
    first | go_end0 | refine bodyPost_ret (results_none rfl _ _ _) rfl ?_
    have hw : IntKind.i64.wrap (z + 1) = z + 1 := by rw [IntKind.wrap_i64]; omega
    rw [hw]
    exact ⟨rfl, (H.out _ H0.out).keep ((Touch.refl [] _).drew) (by simp), ((Touch.refl [b] w).setCell (Or.inl (by simp)) _).drew⟩
  · rw [if_neg hy]
    have hE : Ti.ageErr now at' = 1 ∨ Ti.ageErr now at' = 10 := by
      unfold Ti.ageErr
      cases h1 : Ti.isT now <;> cases h2 : Ti.isT at' <;> simp
      by_cases h3 : at' ≤ now
      · exact absurd ⟨h1, h2, h3⟩ hy
      · left; omega
    have hne : (Ti.ageErr now at' != 0) = true := by rcases hE with e | e <;> rw [e] <;> rfl
    have HA := hid (fun w' => Ti.age9 now at' w')
    clear hE hy hf
    have H0 := hid h
    clear h
    go_enter Try.func43, Try.ntmps43
    go_wp2_with (go_at_call 51; refine (HA.out _).mono ?_; rintro e w' ⟨rfl, hw'⟩; subst w')
    first | go_end0 | refine bodyPost_ret (results_none rfl _ _ _) rfl ?_
    exact ⟨rfl, H0.out, Touch.refl [b] w⟩
theorem caller_ (e : Ez) (w : World) : Calls Try.prog 29 #[e.val] w fun r w' => r = .returned (.int .i64 e.ca) ∧ Touch [] w w' := by
  unfold Ez.val
  go_enter Try.func29, Try.ntmps29
  go_wp2
  go_ret
  exact ⟨rfl, (Touch.refl [] w).alloc _⟩
theorem run_ (e : Ez) (w : World) : Calls Try.prog 30 #[e.val] w fun r w' => r = .returned (.int .i64 e.ru) ∧ Touch [] w w' := by
  unfold Ez.val
  go_enter Try.func30, Try.ntmps30
  go_wp2
  go_ret
  exact ⟨rfl, (Touch.refl [] w).alloc _⟩
end Go.Proofs.Ytibgfkjhohgkhaa.Ty
