/- Contracts of see, Get and Look; no conditions but those that each states. -/
import Derived.Test.YtopepalpmkeffaaSee
import Derived.Deep.CutRange
import Derived.Deep.CutBlock
namespace Go.Proofs.Ytopepalpmkeffaa
open Go.RowKit Go.Sort Go.Maps Go.ChangeMaps Go.WideMaps
set_option linter.unusedVariables false
set_option linter.unusedSimpArgs false
def lookS (c : Cf) (now : Int) (xs : List En) (k : K) : Int × Int × O := match fnd xs k with
  | none => (0, 0, oz)
  | some v => (howC c v.1 (now - v.2), now - v.2, v.1)
def lv (p : Int × Int × O) : Value := sv p.1 p.2.1 p.2.2
theorem zero108 (w : World) : (zeroValue 108).run Try.prog w = .ok (.agg #[.int .i64 0, .int .i64 0, .int .i64 0, .int .i64 0, .int .i64 0]) w := by kernel_rfl
theorem Mb.look {w : World} {m b o : Nat} {G : List Nat} {c : Cf} {now : Int} {xs : List En} (h : Mb w m b o G c now xs) {k : K} (hk : Ok k) :
    (Instr.lookup 91 (.map (some b)) (kv k) true).run Try.prog w = .ok (.tuple #[((fnd xs k).map ev).getD (.agg #[.int .i64 0, .int .i64 0, .int .i64 0, .int .i64 0, .int .i64 0]), .bool (fnd xs k).isSome]) w := by
  have := h.mp.lookOk (t := 91) Try.underlying91 (zero108 w) hk
  unfold mpf at this
  simpa using this
theorem Mb.ats {w : World} {m b o : Nat} {G : List Nat} {c : Cf} {now : Int} {xs : List En} (h : Mb w m b o G c now xs) {k : K} {v : V} (hv : fnd xs k = some v) : right v.1 = true ∧ 0 ≤ v.2 ∧ v.2 ≤ now := h.gd.ok _ (fnd_mem hv)
theorem Mb.how {w : World} {m b o : Nat} {G : List Nat} {c : Cf} {now : Int} {xs : List En} (h : Mb w m b o G c now xs) {k : K} {v : V} (hv : fnd xs k = some v) :
    Calls Try.prog 65 #[PT m, ev v] w fun e w' => e = .returned (.int .i64 (howC c v.1 (now - v.2))) ∧ Touch [] w w' := by
  obtain ⟨q1, q2, q3⟩ := h.ats hv
  exact how65 w m c now b o h.md v q2 q3 h.gd.n1 h.gd.oc h.gd.wc
/-- Behind V nothing was touched but the block r, which has n cells of type t. -/
structure Sr (V : World) (r t n : Nat) (w' : World) : Prop where
  tc : Touch [r] V w'
  z : ∃ cs : Array Value, w'.heap[r]? = some (.cells cs t (0, 0)) ∧ cs.size = n
def gc (w : World) (r i : Nat) : Value := (w.cell? ⟨r, i, none⟩).getD undef
section
variable {V w' w'' : World} {r t n : Nat}
theorem Sr.mk' {cs : Array Value} (h : V.heap[r]? = some (.cells cs t (0, 0))) (hn : cs.size = n) : Sr V r t n V := ⟨Touch.refl _ _, cs, h, hn⟩
theorem Sr.go (h : Sr V r t n w') (k : Touch [] w' w'') : Sr V r t n w'' := by
  obtain ⟨cs, h1, h2⟩ := h.z
  exact ⟨h.tc.trans' (k.mono (fun _ e => by cases e)), cs, k.keep h1 (by simp), h2⟩
theorem Sr.drew (h : Sr V r t n w') : Sr V r t n w'.drew := h.go (Touch.refl _ _).drew
theorem Sr.alloc (h : Sr V r t n w') (o : Obj) : Sr V r t n (w'.alloc o) := h.go ((Touch.refl _ _).alloc _)
theorem Sr.set (h : Sr V r t n w') (i : Nat) (v : Value) : Sr V r t n (w'.setCell ⟨r, i, none⟩ v) := by
  obtain ⟨cs, h1, h2⟩ := h.z
  exact ⟨h.tc.setCell (Or.inl (by simp)) _, _, bset h1 _, by simp [h2]⟩
theorem Sr.cell (h : Sr V r t n w') (i : Nat) (hi : i < n) : w'.cell? ⟨r, i, none⟩ = some (gc w' r i) := by
  obtain ⟨cs, h1, h2⟩ := h.z
  have h3 : w'.cell? ⟨r, i, none⟩ = some (cs[i]'(by omega)) := by simp [World.cell?, h1, h2, hi]
  unfold gc
  rw [h3]
  rfl
theorem Sr.frozen (h : Sr V r t n w') (i : Nat) : w'.frozen? ⟨r, i, none⟩ = false := by
  obtain ⟨cs, h1, h2⟩ := h.z
  simp [World.frozen?, h1]
theorem Sr.keep (h : Sr V r t n w') {k : Nat} {ob : Obj} (hk : V.heap[k]? = some ob) (hr : k ≠ r) : w'.heap[k]? = some ob := h.tc.keep hk (by simpa using hr)
theorem Sr.new {w : World} (h : Sr V r t n w') (k : Touch [] w V) (hr : w.heap.size ≤ r) : Touch [] w w' := k.trans h.tc (fun i hi => by simp only [List.mem_singleton] at hi; subst hi; exact Or.inr hr)
end
theorem Sr.s2 {V w' : World} {r t n : Nat} (h : Sr V r t n w') (v0 v1 : Value) : Sr V r t n ((w'.setCell ⟨r, 0, none⟩ v0).setCell ⟨r, 1, none⟩ v1) := ((h.set 0 _).set 1 _)
theorem Sr.s4 {V w' : World} {r t n : Nat} (h : Sr V r t n w') (v0 v1 v2 v3 : Value) : Sr V r t n ((((w'.setCell ⟨r, 0, none⟩ v0).setCell ⟨r, 1, none⟩ v1).setCell ⟨r, 2, none⟩ v2).setCell ⟨r, 3, none⟩ v3) := ((((h.set 0 _).set 1 _).set 2 _).set 3 _)
theorem Sr.s6 {V w' : World} {r t n : Nat} (h : Sr V r t n w') (v0 v1 v2 v3 v4 v5 : Value) : Sr V r t n ((((((w'.setCell ⟨r, 0, none⟩ v0).setCell ⟨r, 1, none⟩ v1).setCell ⟨r, 2, none⟩ v2).setCell ⟨r, 3, none⟩ v3).setCell ⟨r, 4, none⟩ v4).setCell ⟨r, 5, none⟩ v5) := ((((((h.set 0 _).set 1 _).set 2 _).set 3 _).set 4 _).set 5 _)
theorem Sr.s7 {V w' : World} {r t n : Nat} (h : Sr V r t n w') (v0 v1 v2 v3 v4 v5 v6 : Value) : Sr V r t n (((((((w'.setCell ⟨r, 0, none⟩ v0).setCell ⟨r, 1, none⟩ v1).setCell ⟨r, 2, none⟩ v2).setCell ⟨r, 3, none⟩ v3).setCell ⟨r, 4, none⟩ v4).setCell ⟨r, 5, none⟩ v5).setCell ⟨r, 6, none⟩ v6) := (((((((h.set 0 _).set 1 _).set 2 _).set 3 _).set 4 _).set 5 _).set 6 _)
theorem Sr.s9 {V w' : World} {r t n : Nat} (h : Sr V r t n w') (v0 v1 v2 v3 v4 v5 v6 v7 v8 : Value) : Sr V r t n (((((((((w'.setCell ⟨r, 0, none⟩ v0).setCell ⟨r, 1, none⟩ v1).setCell ⟨r, 2, none⟩ v2).setCell ⟨r, 3, none⟩ v3).setCell ⟨r, 4, none⟩ v4).setCell ⟨r, 5, none⟩ v5).setCell ⟨r, 6, none⟩ v6).setCell ⟨r, 7, none⟩ v7).setCell ⟨r, 8, none⟩ v8) := (((((((((h.set 0 _).set 1 _).set 2 _).set 3 _).set 4 _).set 5 _).set 6 _).set 7 _).set 8 _)
theorem tset2 (w : World) (r : Nat) (v0 v1 : Value) : Touch [r] w ((w.setCell ⟨r, 0, none⟩ v0).setCell ⟨r, 1, none⟩ v1) := (((Touch.refl _ _).setCell (Or.inl (by simp)) _).setCell (Or.inl (by simp)) _)
theorem tset4 (w : World) (r : Nat) (v0 v1 v2 v3 : Value) : Touch [r] w ((((w.setCell ⟨r, 0, none⟩ v0).setCell ⟨r, 1, none⟩ v1).setCell ⟨r, 2, none⟩ v2).setCell ⟨r, 3, none⟩ v3) := (((((Touch.refl _ _).setCell (Or.inl (by simp)) _).setCell (Or.inl (by simp)) _).setCell (Or.inl (by simp)) _).setCell (Or.inl (by simp)) _)
theorem tset6 (w : World) (r : Nat) (v0 v1 v2 v3 v4 v5 : Value) : Touch [r] w ((((((w.setCell ⟨r, 0, none⟩ v0).setCell ⟨r, 1, none⟩ v1).setCell ⟨r, 2, none⟩ v2).setCell ⟨r, 3, none⟩ v3).setCell ⟨r, 4, none⟩ v4).setCell ⟨r, 5, none⟩ v5) := (((((((Touch.refl _ _).setCell (Or.inl (by simp)) _).setCell (Or.inl (by simp)) _).setCell (Or.inl (by simp)) _).setCell (Or.inl (by simp)) _).setCell (Or.inl (by simp)) _).setCell (Or.inl (by simp)) _)
theorem tset7 (w : World) (r : Nat) (v0 v1 v2 v3 v4 v5 v6 : Value) : Touch [r] w (((((((w.setCell ⟨r, 0, none⟩ v0).setCell ⟨r, 1, none⟩ v1).setCell ⟨r, 2, none⟩ v2).setCell ⟨r, 3, none⟩ v3).setCell ⟨r, 4, none⟩ v4).setCell ⟨r, 5, none⟩ v5).setCell ⟨r, 6, none⟩ v6) := ((((((((Touch.refl _ _).setCell (Or.inl (by simp)) _).setCell (Or.inl (by simp)) _).setCell (Or.inl (by simp)) _).setCell (Or.inl (by simp)) _).setCell (Or.inl (by simp)) _).setCell (Or.inl (by simp)) _).setCell (Or.inl (by simp)) _)
theorem tset9 (w : World) (r : Nat) (v0 v1 v2 v3 v4 v5 v6 v7 v8 : Value) : Touch [r] w (((((((((w.setCell ⟨r, 0, none⟩ v0).setCell ⟨r, 1, none⟩ v1).setCell ⟨r, 2, none⟩ v2).setCell ⟨r, 3, none⟩ v3).setCell ⟨r, 4, none⟩ v4).setCell ⟨r, 5, none⟩ v5).setCell ⟨r, 6, none⟩ v6).setCell ⟨r, 7, none⟩ v7).setCell ⟨r, 8, none⟩ v8) := ((((((((((Touch.refl _ _).setCell (Or.inl (by simp)) _).setCell (Or.inl (by simp)) _).setCell (Or.inl (by simp)) _).setCell (Or.inl (by simp)) _).setCell (Or.inl (by simp)) _).setCell (Or.inl (by simp)) _).setCell (Or.inl (by simp)) _).setCell (Or.inl (by simp)) _).setCell (Or.inl (by simp)) _)
set_option maxHeartbeats 1000000 in
theorem see50_no (w : World) (m b o : Nat) (G : List Nat) (c : Cf) (now : Int) (xs : List En) (h : Mb w m b o G c now xs) (k : K) (hk : Ok k) (hf : fnd xs k = none) :
    Calls Try.prog 50 #[PT m, kv k] w fun e w' => e = .returned (lv (0, 0, oz)) ∧ Touch [] w w' := by
  obtain ⟨V, hV⟩ : ∃ V, V = (w.alloc (bx k)).alloc (.cells #[.int .i64 0, .int .i64 0, .int .i64 0, .int .i64 0, .int .i64 0, .int .i64 0] 75) := ⟨_, rfl⟩
  have TV : Hid (Touch [] w V) := by rw [hV]; exact ((Touch.refl _ _).alloc _).alloc _
  have hB : V.heap[w.heap.size]? = some (bx k) := by rw [hV]; exact (Below.heap_alloc _ _ _ (by simp)).trans (heap_alloc_new w _)
  have hZ : V.heap[w.heap.size + 1]? = some (.cells #[.int .i64 0, .int .i64 0, .int .i64 0, .int .i64 0, .int .i64 0, .int .i64 0] 75 (0, 0)) := by
    rw [hV]
    have := heap_alloc_new (w.alloc (bx k)) (.cells #[.int .i64 0, .int .i64 0, .int .i64 0, .int .i64 0, .int .i64 0, .int .i64 0] 75)
    rwa [World.size_alloc] at this
  have sA : ∀ w', Touch [] V w' → w'.cell? ⟨m, 8, none⟩ = some (.map (some b)) := fun w' t => (h.keep0 (TV.out.trans' t)).md.cs.c8
  have sB : ∀ w', Touch [] V w' → w'.cell? ⟨w.heap.size, 0, none⟩ = some (.int .u16 k.1) := fun w' t => by
    have := t.keep hB (by simp)
    unfold bx at this
    simp [World.cell?, this]
  have sC : ∀ w', Touch [] V w' → w'.cell? ⟨w.heap.size, 1, none⟩ = some (.string k.2) := fun w' t => by
    have := t.keep hB (by simp)
    unfold bx at this
    simp [World.cell?, this]
  have sL : ∀ w', Touch [] V w' → (Instr.lookup 91 (.map (some b)) (.agg #[.int .u16 k.1, .string k.2]) true).run Try.prog w' = .ok (.tuple #[.agg #[.int .i64 0, .int .i64 0, .int .i64 0, .int .i64 0, .int .i64 0], .bool false]) w' := fun w' t => by
    have := (h.keep0 (TV.out.trans' t)).look hk
    rw [hf] at this
    exact this
  obtain ⟨U, hU⟩ : ∃ U, U = (V.alloc (.cells #[.int .i64 0, .int .i64 0, .int .i64 0, .int .i64 0, .int .i64 0] 108)).drew := ⟨_, rfl⟩
  have TU : Touch [] V U := by rw [hU]; exact ((Touch.refl _ _).alloc _).drew
  have hZ' := TU.keep hZ (by simp)
  have z0 : U.cell? ⟨w.heap.size + 1, 0, none⟩ = some (.int .i64 0) := by simp [World.cell?, hZ']
  have z1 : U.cell? ⟨w.heap.size + 1, 1, none⟩ = some (.int .i64 0) := by simp [World.cell?, hZ']
  have z2 : U.cell? ⟨w.heap.size + 1, 2, none⟩ = some (.int .i64 0) := by simp [World.cell?, hZ']
  have z3 : U.cell? ⟨w.heap.size + 1, 3, none⟩ = some (.int .i64 0) := by simp [World.cell?, hZ']
  have z4 : U.cell? ⟨w.heap.size + 1, 4, none⟩ = some (.int .i64 0) := by simp [World.cell?, hZ']
  have z5 : U.cell? ⟨w.heap.size + 1, 5, none⟩ = some (.int .i64 0) := by simp [World.cell?, hZ']
  have zf : ∀ i, U.frozen? ⟨w.heap.size + 1, i, none⟩ = false := fun i => by simp [World.frozen?, hZ']
  have TW := hid (TV.out.trans' TU)
  clear h hB hZ hZ' TU
  unfold PT kv lv sv oz
  go_enter Try.func50, Try.ntmps50
  go_wp2
  unfold bx at hV
  rw [← hV]
  clear hV hf hk
  have t0 : Touch [] V V.drew := (Touch.refl _ _).drew
  go_region_held3 (fun w' => Touch [] V w') (repeat (first | assumption | exact Touch.refl _ _ | apply Touch.alloc | apply Touch.drew | (refine Touch.setCell ?_ (Or.inr (by simp)) _))) (fail)
  all_goals
    clear sA sB sC sL t0
    rw [← hU]
    clear hU
    go_wp2
    refine bodyPost_ret (v := .agg #[.int .i64 0, .int .i64 0, .int .i64 0, .int .i64 0, .int .i64 0, .int .i64 0]) (by simp [results, Try.results50, go_sem, z0, z1, z2, z3, z4, z5]) rfl ⟨rfl, ?_⟩
    refine TW.out.trans (G := [w.heap.size + 1]) ?_ (fun i hi => by simp only [List.mem_singleton] at hi; subst hi; exact Or.inr (Nat.le_succ _))
    exact tset6 _ _ _ _ _ _ _ _
end Go.Proofs.Ytopepalpmkeffaa
