/- Use as one plain function of a list; awake; what a nil order answers. No conditions but those that each states. -/
import Derived.Test.YtjcdloijodfpgaaUse
namespace Go.Proofs.Ytjcdloijodfpgaa
open Go.RowKit Go.Sort Go.Maps Go.ChangeMaps Go.WideMaps
set_option linter.unusedVariables false
set_option linter.unusedSimpArgs false
def useY (xs : List K) (k : K) : List K := dr xs k ++ [k]
def useB (most : Int) (xs : List K) (k : K) : Bool := decide (most < ((useY xs k).length : Int))
def useL (most : Int) (xs : List K) (k : K) : List K := if useB most xs k then (useY xs k).tail else useY xs k
def useG (most : Int) (xs : List K) (k : K) : K := if useB most xs k then (useY xs k).headD kz else kz
theorem useO (w : World) (o : Nat) (F : List Nat) (most : Int) (xs : List K) (k : K) (hk : Ok k) (h64 : k.2.size ≤ 64) (hl : xs.length ≤ 70000) (h : Oq w o F most xs) :
    Calls Try.prog 11 #[PT o, kv k] w fun e w' => e = .returned (.tuple #[kv (useG most xs k), .bool (useB most xs k), .int .i64 0]) ∧ Ch w o F most (useL most xs k) w' := by
  by_cases hf : most < ((useY xs k).length : Int)
  · have e1 : useB most xs k = true := decide_eq_true hf
    obtain ⟨g, zs, hg⟩ : ∃ g zs, useY xs k = g :: zs := by
      cases hy : useY xs k with
      | nil => simp [useY] at hy
      | cons g zs => exact ⟨g, zs, rfl⟩
    have e2 : useG most xs k = g := by unfold useG; rw [e1, hg]; rfl
    have e3 : useL most xs k = zs := by unfold useL; rw [e1, hg]; rfl
    rw [e1, e2, e3]
    by_cases hm : k ∈ xs
    · exact use11_yo w o F most xs _ k hk h64 hl rfl hm hf g zs hg h
    · exact use11_no w o F most xs _ k hk h64 hl rfl hm hf g zs hg h
  · have e1 : useB most xs k = false := decide_eq_false hf
    have e2 : useG most xs k = kz := by unfold useG; rw [e1]; rfl
    have e3 : useL most xs k = useY xs k := by unfold useL; rw [e1]; rfl
    rw [e1, e2, e3]
    by_cases hm : k ∈ xs
    · exact use11_yf w o F most xs _ k hk h64 hl rfl hm (Int.not_lt.1 hf) h
    · exact use11_nf w o F most xs _ k hk h64 hl rfl hm (Int.not_lt.1 hf) h
theorem useO_long (w : World) (o : Nat) (k : K) (h64 : 64 < k.2.size) : Calls Try.prog 11 #[PT o, kv k] w fun e w' => e = .returned (.tuple #[kv kz, .bool false, .int .i64 20]) ∧ Touch [] w w' := by
  have TV : Touch [] w ((w.alloc (bx k)).alloc (bx kz)) := ((Touch.refl _ _).alloc _).alloc _
  have B1 : ((w.alloc (bx k)).alloc (bx kz)).heap[w.heap.size + 1]? = some (bx kz) := by
    have := heap_alloc_new (w.alloc (bx k)) (bx kz)
    rwa [World.size_alloc] at this
  have HC := hid (check29_no ((w.alloc (bx k)).alloc (bx kz)) k h64)
  have HZ : Hid (∀ w2, Touch [] ((w.alloc (bx k)).alloc (bx kz)) w2 → (w2.cell? ⟨w.heap.size + 1, 0, none⟩ = some (.int .u16 0) ∧ w2.cell? ⟨w.heap.size + 1, 1, none⟩ = some (.string ⟨#[]⟩) ∧ w2.frozen? ⟨w.heap.size + 1, 0, none⟩ = false ∧ w2.frozen? ⟨w.heap.size + 1, 1, none⟩ = false) ∧ Touch [] w ((w2.setCell ⟨w.heap.size + 1, 0, none⟩ (.int .u16 0)).setCell ⟨w.heap.size + 1, 1, none⟩ (.string ⟨#[]⟩))) := fun w2 t => by
    have h1 := t.keep B1 (by simp)
    unfold bx at h1
    exact ⟨⟨by simp [World.cell?, h1, kz], by simp [World.cell?, h1, kz], by simp [World.frozen?, h1], by simp [World.frozen?, h1]⟩, ((TV.trans' t).setCell (Or.inr (Nat.le_succ _)) _).setCell (Or.inr (Nat.le_succ _)) _⟩
  clear TV B1
  unfold PT kv at *
  unfold bx at *
  unfold kz at *
  go_enter Try.func11, Try.ntmps11
  go_wp2_with (go_at_call 29; refine HC.out.mono ?_; rintro x w2 ⟨rfl, t2⟩; obtain ⟨⟨z0, z1, z2, z3⟩, r⟩ := HZ.out _ t2; have R := hid r; clear r)
  exact bodyPost_ret (v := .tuple #[.agg #[.int .u16 0, .string ⟨#[]⟩], .bool false, .int .i64 20]) (by simp [results, Try.results11, go_sem, z0, z1]) rfl ⟨rfl, R.out⟩
def ka : K := (0, ⟨#[97]⟩)
def kb : K := (0, ⟨#[98]⟩)
theorem ok_a : Ok ka := ⟨by decide, by simp [ka, ByteArray.size, maxLen]⟩
theorem ok_b : Ok kb := ⟨by decide, by simp [kb, ByteArray.size, maxLen]⟩
theorem seed_a : useB 1 [] ka = false ∧ useL 1 [] ka = [ka] := ⟨by decide, by decide⟩
theorem seed_b : useB 1 [ka] kb = true ∧ useG 1 [ka] kb = ka := ⟨by decide, by decide⟩
set_option maxHeartbeats 2000000 in
theorem awake7 (w : World) : Calls Try.prog 7 #[] w fun e w' => e = .returned (.bool true) ∧ Touch [] w w' := by
  have HN := hid (new6_ok w 1 (by omega) (by omega))
  have HA : Hid (∀ w2, Od w2 w.heap.size none 1 [] → Calls Try.prog 11 #[PT w.heap.size, .agg #[.int .u16 0, .string ⟨#[97]⟩]] w2 fun e w' => ∃ g, e = .returned (.tuple #[kv g, .bool false, .int .i64 0]) ∧ Ch w2 w.heap.size [w.heap.size] 1 [ka] w') := fun w2 h => by
    have := useO w2 w.heap.size _ 1 [] ka ok_a (by decide) (by simp) ⟨none, [], rfl, rfl, h⟩
    rw [seed_a.1, seed_a.2] at this
    exact this.mono (fun e w' ⟨h1, h2⟩ => ⟨_, h1, h2⟩)
  have HB : Hid (∀ w2 w3 w4, Ch w2 w.heap.size [w.heap.size] 1 [ka] w3 → Touch [] w3 w4 → Calls Try.prog 11 #[PT w.heap.size, .agg #[.int .u16 0, .string ⟨#[98]⟩]] w4 fun e w' => e = .returned (.tuple #[.agg #[.int .u16 0, .string ⟨#[97]⟩], .bool true, .int .i64 0]) ∧ Touch [w.heap.size] w2 w') := fun w2 w3 w4 c t => by
    obtain ⟨F', c1, c2, c3⟩ := c
    have := useO w4 w.heap.size F' 1 [ka] kb ok_b (by decide) (by simp) (c1.keep0 t)
    rw [seed_b.1, seed_b.2] at this
    refine this.mono (fun e w' ⟨h1, h2⟩ => ⟨h1, ?_⟩)
    obtain ⟨F2, d1, d2, d3⟩ := h2
    exact (c2.trans' (t.mono (fun _ e => by cases e))).trans d2 c3
  have q1 : (binOp .eql 23 (.pointer (some ⟨w.heap.size, 0, none⟩)) (.pointer none)).run Try.prog w = .ok (.bool false) w := by kernel_rfl
  unfold kv at *
  unfold PT at *
  go_enter Try.func7, Try.ntmps7
  go_wp2_with (first
    | (go_at_call 6; refine HN.out.mono ?_; rintro x w2 ⟨rfl, h2, t2⟩; have H2 := hid h2; have T2 := hid t2; clear h2 t2)
    | (go_at_call_of 11 (#[.pointer (some ⟨w.heap.size, 0, none⟩), .agg #[.int .u16 0, .string ⟨#[97]⟩]] : Array Value); refine (HA.out _ H2.out).mono ?_; rintro x w3 ⟨g, rfl, c3⟩; have C3 := hid c3; clear c3)
    | (go_at_call_of 11 (#[.pointer (some ⟨w.heap.size, 0, none⟩), .agg #[.int .u16 0, .string ⟨#[98]⟩]] : Array Value); refine (HB.out _ _ _ C3.out ((Touch.refl _ _).alloc _)).mono ?_; rintro x w4 ⟨rfl, t4⟩; have T4 := hid t4; clear t4))
  go_ret
  exact ⟨rfl, (T2.out.trans T4.out (fun i hi => by simp only [List.mem_singleton] at hi; subst hi; exact Or.inr (Nat.le_refl _))).alloc _⟩
def nz : Value := .agg #[.int .u16 0, .string ⟨#[]⟩]
theorem use11_nilp (w : World) (k : K) : Calls Try.prog 11 #[.pointer none, kv k] w fun e w' => e = .returned (.tuple #[nz, .bool false, .int .i64 1]) ∧ Touch [] w w' := by
  unfold kv nz
  go_enter Try.func11, Try.ntmps11
  go_wp2
  exact bodyPost_ret (v := .tuple #[.agg #[.int .u16 0, .string ⟨#[]⟩], .bool false, .int .i64 1]) (by simp [results, Try.results11, go_sem]) rfl ⟨rfl, ((Touch.refl _ _).alloc _).alloc _⟩
theorem shrink15_nilp (w : World) (n : Int) : Calls Try.prog 15 #[.pointer none, .int .i64 n] w fun e w' => e = .returned (.tuple #[.slice none 0 0, .int .i64 1]) ∧ w' = w := by
  go_enter Try.func15, Try.ntmps15
  go_wp2
  exact bodyPost_ret (v := .tuple #[.slice none 0 0, .int .i64 1]) (by simp [results, Try.results15, go_sem]) rfl ⟨rfl, rfl⟩
theorem len20_nilp (w : World) : Calls Try.prog 20 #[.pointer none] w fun e w' => e = .returned (.int .i64 0) ∧ w' = w := by
  go_enter Try.func20, Try.ntmps20
  go_wp2
  go_ret
  exact ⟨rfl, rfl⟩
theorem most21_nilp (w : World) : Calls Try.prog 21 #[.pointer none] w fun e w' => e = .returned (.int .i64 0) ∧ w' = w := by
  go_enter Try.func21, Try.ntmps21
  go_wp2
  go_ret
  exact ⟨rfl, rfl⟩
theorem oldest16_nilp (w : World) : Calls Try.prog 16 #[.pointer none] w fun e w' => e = .returned (.tuple #[nz, .bool false]) ∧ Touch [] w w' := by
  unfold nz
  go_enter Try.func16, Try.ntmps16
  go_wp2_with (go_at_call 20; refine (len20_nilp _).mono ?_; rintro e w2 ⟨rfl, rfl⟩)
  refine bodyPost_ret (v := .tuple #[.agg #[.int .u16 0, .string ⟨#[]⟩], .bool false]) (by simp [results, Try.results16, go_sem]) rfl ⟨rfl, ?_⟩
  exact (Touch.refl _ _).alloc _
theorem has19_nilp (w : World) (k : K) : Calls Try.prog 19 #[.pointer none, kv k] w fun e w' => e = .returned (.bool false) ∧ Touch [] w w' := by
  unfold kv
  go_enter Try.func19, Try.ntmps19
  go_wp2
  go_quiet (fail)
  go_wp2
  go_ret
  exact ⟨rfl, ((Touch.refl _ _).alloc _).drewN _⟩
theorem touch17_nilp (w : World) (k : K) : Calls Try.prog 17 #[.pointer none, kv k] w fun e w' => e = .returned (.bool false) ∧ Touch [] w w' := by
  have HH := fun w => has19_nilp w k
  unfold kv at *
  go_enter Try.func17, Try.ntmps17
  go_wp2_with (go_at_call 19; refine (HH _).mono ?_; rintro e w2 ⟨rfl, t2⟩)
  go_ret
  exact ⟨rfl, ((Touch.refl _ _).alloc _).trans' t2⟩
theorem drop18_nilp (w : World) (k : K) : Calls Try.prog 18 #[.pointer none, kv k] w fun e w' => e = .returned (.bool false) ∧ Touch [] w w' := by
  have HH := fun w => has19_nilp w k
  unfold kv at *
  go_enter Try.func18, Try.ntmps18
  go_wp2_with (go_at_call 19; refine (HH _).mono ?_; rintro e w2 ⟨rfl, t2⟩)
  go_ret
  exact ⟨rfl, ((Touch.refl _ _).alloc _).trans' t2⟩
theorem clone22_nilp (w : World) : Calls Try.prog 22 #[.pointer none] w fun e w' => e = .returned (.pointer none) ∧ w' = w := by
  go_enter Try.func22, Try.ntmps22
  go_wp2
  go_ret
  exact ⟨rfl, rfl⟩
end Go.Proofs.Ytjcdloijodfpgaa
