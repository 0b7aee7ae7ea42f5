/- Use as one plain function of a list; awake; what a nil order answers. No conditions but those that each states. -/
import Derived.Test.YtopepalpmkeffaaUse
namespace Go.Proofs.Ytopepalpmkeffaa
open Go.RowKit Go.Sort Go.Maps Go.ChangeMaps Go.WideMaps
set_option linter.unusedVariables false
set_option linter.unusedSimpArgs false
def useY (xs : List K) (k : K) : List K := dr xs k ++ [k]
def useB (most : Int) (xs : List K) (k : K) : Bool := decide (most < ((useY xs k).length : Int))
def useL (most : Int) (xs : List K) (k : K) : List K := if useB most xs k then (useY xs k).tail else useY xs k
def useG (most : Int) (xs : List K) (k : K) : K := if useB most xs k then (useY xs k).headD kz else kz
theorem useO (w : World) (o : Nat) (F : List Nat) (most : Int) (xs : List K) (k : K) (hk : Ok k) (h64 : k.2.size ≤ 64) (hl : xs.length ≤ 70000) (h : Oq w o F most xs) :
    Calls Try.prog 61 #[PT o, kv k] w fun e w' => e = .returned (.tuple #[kv (useG most xs k), .bool (useB most xs k), .int .i64 0]) ∧ Ch w o F most (useL most xs k) w' := by
  by_cases hf : most < ((useY xs k).length : Int)
  · have e1 : useB most xs k = true := decide_eq_true hf
    obtain ⟨g, zs, hg⟩ : ∃ g zs, useY xs k = g :: zs := by
      cases hy : useY xs k with
      | nil => simp [useY] at hy
      | cons g zs => exact ⟨g, zs, rfl⟩
    have e2 : useG most xs k = g := by unfold useG; rw [e1, hg]; rfl
    have e3 : useL most xs k = zs := by unfold useL; rw [e1, hg]; rfl
    rw [e1, e2, e3]
    by_cases hm : k ∈ xs
    · exact use11_yo w o F most xs _ k hk h64 hl rfl hm hf g zs hg h
    · exact use11_no w o F most xs _ k hk h64 hl rfl hm hf g zs hg h
  · have e1 : useB most xs k = false := decide_eq_false hf
    have e2 : useG most xs k = kz := by unfold useG; rw [e1]; rfl
    have e3 : useL most xs k = useY xs k := by unfold useL; rw [e1]; rfl
    rw [e1, e2, e3]
    by_cases hm : k ∈ xs
    · exact use11_yf w o F most xs _ k hk h64 hl rfl hm (Int.not_lt.1 hf) h
    · exact use11_nf w o F most xs _ k hk h64 hl rfl hm (Int.not_lt.1 hf) h
theorem useO_long (w : World) (o : Nat) (k : K) (h64 : 64 < k.2.size) : Calls Try.prog 61 #[PT o, kv k] w fun e w' => e = .returned (.tuple #[kv kz, .bool false, .int .i64 20]) ∧ Touch [] w w' := by
  have TV : Touch [] w ((w.alloc (bx k)).alloc (bx kz)) := ((Touch.refl _ _).alloc _).alloc _
  have B1 : ((w.alloc (bx k)).alloc (bx kz)).heap[w.heap.size + 1]? = some (bx kz) := by
    have := heap_alloc_new (w.alloc (bx k)) (bx kz)
    rwa [World.size_alloc] at this
  have HC := hid (check29_no ((w.alloc (bx k)).alloc (bx kz)) k h64)
  have HZ : Hid (∀ w2, Touch [] ((w.alloc (bx k)).alloc (bx kz)) w2 → (w2.cell? ⟨w.heap.size + 1, 0, none⟩ = some (.int .u16 0) ∧ w2.cell? ⟨w.heap.size + 1, 1, none⟩ = some (.string ⟨#[]⟩) ∧ w2.frozen? ⟨w.heap.size + 1, 0, none⟩ = false ∧ w2.frozen? ⟨w.heap.size + 1, 1, none⟩ = false) ∧ Touch [] w ((w2.setCell ⟨w.heap.size + 1, 0, none⟩ (.int .u16 0)).setCell ⟨w.heap.size + 1, 1, none⟩ (.string ⟨#[]⟩))) := fun w2 t => by
    have h1 := t.keep B1 (by simp)
    unfold bx at h1
    exact ⟨⟨by simp [World.cell?, h1, kz], by simp [World.cell?, h1, kz], by simp [World.frozen?, h1], by simp [World.frozen?, h1]⟩, ((TV.trans' t).setCell (Or.inr (Nat.le_succ _)) _).setCell (Or.inr (Nat.le_succ _)) _⟩
  clear TV B1
  unfold PT kv at *
  unfold bx at *
  unfold kz at *
  go_enter Try.func61, Try.ntmps61
  go_wp2_with (go_at_call 49; refine HC.out.mono ?_; rintro x w2 ⟨rfl, t2⟩; obtain ⟨⟨z0, z1, z2, z3⟩, r⟩ := HZ.out _ t2; have R := hid r; clear r)
  exact bodyPost_ret (v := .tuple #[.agg #[.int .u16 0, .string ⟨#[]⟩], .bool false, .int .i64 20]) (by simp [results, Try.results61, go_sem, z0, z1]) rfl ⟨rfl, R.out⟩
def ka : K := (0, ⟨#[97]⟩)
def kb : K := (0, ⟨#[98]⟩)
theorem ok_a : Ok ka := ⟨by decide, by simp [ka, ByteArray.size, maxLen]⟩
theorem ok_b : Ok kb := ⟨by decide, by simp [kb, ByteArray.size, maxLen]⟩
def nz : Value := .agg #[.int .u16 0, .string ⟨#[]⟩]
end Go.Proofs.Ytopepalpmkeffaa
