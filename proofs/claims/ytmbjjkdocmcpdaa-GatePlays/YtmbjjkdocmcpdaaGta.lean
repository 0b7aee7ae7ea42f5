/- The contracts of the gates' makers and readers: New, find, known, Where, Len, IsOpen, Shut. -/
import Derived.Test.YtmbjjkdocmcpdaaGts
namespace Go.Proofs.Ytmbjjkdocmcpdaa
open Go.RowKit Go.Maps Go.ChangeMaps
set_option linter.unusedVariables false
def inG (n : Int) : Bool := decide (0 ≤ n) && decide (n < 256)
theorem inG_yes {n : Int} (h : inG n = true) : 0 ≤ n ∧ n < 256 := by simpa [inG] using h
theorem inG_no {n : Int} (h : inG n = false) : n < 0 ∨ 256 ≤ n := by
  simp [inG] at h
  by_cases e : 0 ≤ n
  · exact Or.inr (h e)
  · exact Or.inl (by omega)
theorem inG_nat {n : Int} (h : inG n = true) : n.toNat < 256 ∧ ((n.toNat : Nat) : Int) = n := by
  have := inG_yes h
  omega
set_option maxHeartbeats 2000000 in
theorem new5 (w : World) : Calls Try.prog 5 #[] w fun e w' => e = .returned (PT w.heap.size) ∧ Gs w' w.heap.size [w.heap.size] (fun _ => false) (fun _ => []) ∧ Touch [] w w' := by
  have z56 := zero56
  obtain ⟨d, hd⟩ : ∃ d, d = gc (fun _ => false) (fun _ => .slice none 0 0) none := ⟨_, rfl⟩
  rw [← hd] at z56
  have HD := hid hd
  clear hd
  unfold PT
  go_enter Try.func5, Try.ntmps5
  go_wp2
  go_ret
  refine ⟨rfl, ⟨fun _ => .slice none 0 0, none, fun _ => [], ?_, ⟨⟨?_, fun i hi => Lines.nil _, fun i hi l hl => by simp at hl, fun i j hi hj hne k hk => by simp [fpL, fpB, Value.ownBlock] at hk, fun i hi hk => by simp [fpL, fpB, Value.ownBlock] at hk, fun b hb => by cases hb⟩, Or.inl ⟨rfl, fun _ _ => rfl⟩, ⟨fun _ _ => List.nodup_nil, fun i j x hi hj hx => by simp at hx, fun i x hi hx => by simp at hx⟩, fun _ _ => rfl⟩⟩, (Touch.refl _ _).alloc _⟩
  · unfold fpG fpA
    simp [fpL, fpB, Value.ownBlock]
  · rw [← HD.out]
    exact heap_alloc_new w _
set_option maxHeartbeats 2000000 in
theorem find30_yes (w : World) (g : Nat) (n : Int) (h : inG n = true) : Calls Try.prog 30 #[.pointer (some ⟨g, 0, none⟩), .int .i64 n] w fun e w' => e = .returned (.pointer (some ⟨g, n.toNat * 2, none⟩)) ∧ w' = w := by
  obtain ⟨h0, h1⟩ := inG_yes h
  clear h
  go_enter Try.func30, Try.ntmps30
  go_wp2
  go_ret
  exact ⟨rfl, rfl⟩
set_option maxHeartbeats 2000000 in
theorem find30_no (w : World) (p : Option Addr) (n : Int) (h : inG n = false) : Calls Try.prog 30 #[.pointer p, .int .i64 n] w fun e w' => e = .returned (.pointer none) ∧ w' = w := by
  rcases inG_no h with h1 | h1
  · clear h
    cases p with
    | none =>
      go_enter Try.func30, Try.ntmps30
      go_wp2
      go_ret
      exact ⟨rfl, rfl⟩
    | some a =>
      go_enter Try.func30, Try.ntmps30
      go_wp2
      go_ret
      exact ⟨rfl, rfl⟩
  · clear h
    have h2 : ¬ n < 0 := by omega
    cases p with
    | none =>
      go_enter Try.func30, Try.ntmps30
      go_wp2
      go_ret
      exact ⟨rfl, rfl⟩
    | some a =>
      go_enter Try.func30, Try.ntmps30
      go_wp2
      go_ret
      exact ⟨rfl, rfl⟩
theorem find30_nil (w : World) (n : Int) : Calls Try.prog 30 #[.pointer none, .int .i64 n] w fun e w' => e = .returned (.pointer none) ∧ w' = w := by
  go_enter Try.func30, Try.ntmps30
  go_wp2
  go_ret
  exact ⟨rfl, rfl⟩
set_option maxHeartbeats 2000000 in
theorem known22_yes (w : World) (g : Nat) (n : Int) (h : inG n = true) : Calls Try.prog 22 #[.pointer (some ⟨g, 0, none⟩), .int .i64 n] w fun e w' => e = .returned (.tuple #[.pointer (some ⟨g, n.toNat * 2, none⟩), .int .i64 0]) ∧ w' = w := by
  have HF := hid (find30_yes w g n h)
  clear h
  go_enter Try.func22, Try.ntmps22
  go_wp2_with (go_at_call 30; refine HF.out.mono ?_; rintro e w2 ⟨rfl, rfl⟩)
  exact bodyPost_ret (v := .tuple #[.pointer (some ⟨g, n.toNat * 2, none⟩), .int .i64 0]) (by simp [results, Try.results22, go_sem]) rfl ⟨rfl, rfl⟩
set_option maxHeartbeats 2000000 in
theorem known22_no (w : World) (g : Nat) (n : Int) (h : inG n = false) : Calls Try.prog 22 #[.pointer (some ⟨g, 0, none⟩), .int .i64 n] w fun e w' => e = .returned (.tuple #[.pointer none, .int .i64 70]) ∧ w' = w := by
  have HF := hid (find30_no w (some ⟨g, 0, none⟩) n h)
  clear h
  go_enter Try.func22, Try.ntmps22
  go_wp2_with (go_at_call 30; refine HF.out.mono ?_; rintro e w2 ⟨rfl, rfl⟩)
  exact bodyPost_ret (v := .tuple #[.pointer none, .int .i64 70]) (by simp [results, Try.results22, go_sem]) rfl ⟨rfl, rfl⟩
theorem known22_nil (w : World) (n : Int) : Calls Try.prog 22 #[.pointer none, .int .i64 n] w fun e w' => e = .returned (.tuple #[.pointer none, .int .i64 1]) ∧ w' = w := by
  go_enter Try.func22, Try.ntmps22
  go_wp2
  exact bodyPost_ret (v := .tuple #[.pointer none, .int .i64 1]) (by simp [results, Try.results22, go_sem]) rfl ⟨rfl, rfl⟩
section
variable {w : World} {g : Nat} {op : Nat → Bool} {W : Nat → List Int} {F : List Nat}
theorem tot_zero {W : Nat → List Int} (h : ∀ i, i < 256 → W i = []) : tot W = 0 := by
  have : ∀ n, sumN (fun _ => 0) n = 0 := fun n => by
    induction n with
    | zero => rfl
    | succ n ih => simp [sumN, ih]
  rw [tot_ext (V := fun _ => []) h]
  exact this 256
set_option maxHeartbeats 2000000 in
theorem where18 (h : Gs w g F op W) (x : Int) (hx : W64 x) : Calls Try.prog 18 #[.pointer (some ⟨g, 0, none⟩), .int .i64 x] w fun e w' => e = .returned (.tuple #[.int .i64 (locI W x), .bool (loc W x).isSome]) ∧ w' = w := by
  obtain ⟨sl, m, L, rfl, h⟩ := h
  have c1 := cell_at h.gl.bl (gc_where op sl m)
  rcases h.mp with ⟨rfl, hW⟩ | ⟨b, rfl, hm⟩
  · have e : loc W x = none := loc_none.2 (fun i hi => by rw [hW i hi]; simp)
    unfold locI
    rw [e]
    have hl := Maps.look_nil (P := Try.prog) (w := w) true keyed3 Try.underlying54 (zero3 w) (key3 hx)
    simp only [if_true] at hl
    clear h hW e
    go_enter Try.func18, Try.ntmps18
    go_wp2
    exact bodyPost_ret (v := .tuple #[.int .i64 0, .bool false]) (by simp [results, Try.results18, go_sem]) rfl ⟨rfl, rfl⟩
  · have hl := hm.lookOk (t := 54) Try.underlying54 (zero3 w) hx
    have e1 : (locv W x).getD (.int .i64 0) = .int .i64 (locI W x) := by
      unfold locv locI
      cases loc W x <;> rfl
    have e2 : (locv W x).isSome = (loc W x).isSome := by
      unfold locv
      cases loc W x <;> rfl
    rw [e1, e2] at hl
    clear h hm e1 e2
    generalize locI W x = z at *
    generalize (loc W x).isSome = B at *
    go_enter Try.func18, Try.ntmps18
    go_wp2
    exact bodyPost_ret (v := .tuple #[.int .i64 z, .bool B]) (by simp [results, Try.results18, go_sem]) rfl ⟨rfl, rfl⟩
set_option maxHeartbeats 2000000 in
theorem len15 (h : Gs w g F op W) : Calls Try.prog 15 #[.pointer (some ⟨g, 0, none⟩)] w fun e w' => e = .returned (.int .i64 (tot W)) ∧ w' = w := by
  obtain ⟨sl, m, L, rfl, h⟩ := h
  have c1 := cell_at h.gl.bl (gc_where op sl m)
  rcases h.mp with ⟨rfl, hW⟩ | ⟨b, rfl, hm⟩
  · rw [tot_zero hW]
    have hl := fun ty => Maps.len_nil (P := Try.prog) (w := w) Try.underlying54 ty
    clear h hW
    go_enter Try.func15, Try.ntmps15
    go_wp2
    go_ret
    exact ⟨rfl, rfl⟩
  · have hl := fun ty => hm.len (t := 54) Try.underlying54 ty
    clear h hm
    generalize tot W = n at *
    go_enter Try.func15, Try.ntmps15
    go_wp2
    go_ret
    exact ⟨rfl, rfl⟩
set_option maxHeartbeats 2000000 in
theorem isopen20 (h : Gs w g F op W) (n : Int) : Calls Try.prog 20 #[.pointer (some ⟨g, 0, none⟩), .int .i64 n] w fun e w' => e = .returned (.bool (inG n && op n.toNat)) ∧ w' = w := by
  cases e : inG n with
  | true =>
    obtain ⟨h1, h2⟩ := inG_nat e
    obtain ⟨c1, f1⟩ := h.cell h1
    have HF := hid (find30_yes w g n e)
    clear h e h1 h2
    generalize op n.toNat = B at *
    rw [Bool.true_and]
    generalize n.toNat * 2 = o at *
    go_enter Try.func20, Try.ntmps20
    go_wp2_with (go_at_call 30; refine HF.out.mono ?_; rintro e w2 ⟨rfl, rfl⟩)
    go_ret
    exact ⟨rfl, rfl⟩
  | false =>
    have HF := hid (find30_no w (some ⟨g, 0, none⟩) n e)
    clear h e
    rw [Bool.false_and]
    go_enter Try.func20, Try.ntmps20
    go_wp2_with (go_at_call 30; refine HF.out.mono ?_; rintro e w2 ⟨rfl, rfl⟩)
    go_ret
    exact ⟨rfl, rfl⟩
set_option maxHeartbeats 2000000 in
theorem shut19_yes (h : Gs w g F op W) (n : Int) (e : inG n = true) : Calls Try.prog 19 #[.pointer (some ⟨g, 0, none⟩), .int .i64 n] w fun e w' => e = .returned (.int .i64 0) ∧ Gs w' g F (fup op n.toNat false) W ∧ Touch F w w' := by
  obtain ⟨h1, h2⟩ := inG_nat e
  obtain ⟨c1, f1⟩ := h.cell h1
  have HF := hid (known22_yes w g n e)
  have HE := hid (h.opens h1 false)
  clear h e h1 h2
  generalize fup op n.toNat false = op' at *
  generalize op n.toNat = B at *
  generalize n.toNat * 2 = o at *
  go_enter Try.func19, Try.ntmps19
  go_wp2_with (go_at_call 22; refine HF.out.mono ?_; rintro e w2 ⟨rfl, rfl⟩)
  go_ret
  exact ⟨rfl, HE.out⟩
set_option maxHeartbeats 2000000 in
theorem shut19_no (w : World) (g : Nat) (n : Int) (e : inG n = false) : Calls Try.prog 19 #[.pointer (some ⟨g, 0, none⟩), .int .i64 n] w fun e w' => e = .returned (.int .i64 70) ∧ w' = w := by
  have HF := hid (known22_no w g n e)
  clear e
  go_enter Try.func19, Try.ntmps19
  go_wp2_with (go_at_call 22; refine HF.out.mono ?_; rintro e w2 ⟨rfl, rfl⟩)
  go_ret
  exact ⟨rfl, rfl⟩
end
end Go.Proofs.Ytmbjjkdocmcpdaa
