/- The contract of Clone: an order of its own that is the same; there are fewer than a hundred thousand keys. -/
import Derived.Test.YtopepalpmkeffaaRng
namespace Go.Proofs.Ytopepalpmkeffaa
open Go.RowKit Go.Sort Go.Maps Go.ChangeMaps Go.WideMaps Go.Shelf
set_option linter.unusedVariables false
set_option linter.unusedSimpArgs false
attribute [local go_sem] Oper.semAt_some
def ClI (w : World) (c p : Nat) (most : Int) (X : List Nat) (pre : List K) (W : World) : Prop :=
  (∃ G, Oq W c G most pre ∧ ∀ k ∈ G, ¬ k ∈ X ∧ w.heap.size ≤ k ∧ k ≠ p) ∧ W.heap[p]? = some (.cells #[PT c] 88 (0, 0)) ∧ ¬ p ∈ X ∧ (∀ k ∈ X, w.heap.size ≤ k) ∧ Touch [] w W
theorem ClI.step {w : World} {c p : Nat} {most : Int} {X : List Nat} {pre : List K} {W W' : World} (h : ClI w c p most X pre W) (ht : Touch X W W') : ClI w c p most X pre W' := by
  obtain ⟨⟨G, h1, h2⟩, h3, h4, h5, h6⟩ := h
  exact ⟨⟨G, h1.keep ht (fun k hk => (h2 k hk).1), h2⟩, ht.keep h3 h4, h4, h5, h6.trans ht (fun i hi => Or.inr (h5 i hi))⟩
theorem ClI.enter {w : World} {c p : Nat} {most : Int} {X : List Nat} {pre : List K} {W : World} (h : ClI w c p most X pre W) (x : K) (hx : Ok x) (hn : ¬ x ∈ pre) (hl : pre.length < 100000) (hX : ∀ k ∈ X, k < W.heap.size) (hp : w.heap.size ≤ p) :
    Calls Try.prog 70 #[PT c, kv x] W fun e W' => e = .returned (.tuple #[]) ∧ (∀ k ∈ X, W'.heap[k]? = W.heap[k]?) ∧ ClI w c p most X (pre ++ [x]) W' := by
  obtain ⟨⟨G, h1, h2⟩, h3, h4, h5, h6⟩ := h
  refine (enterO W c G most pre x hx hn hl h1).mono ?_
  rintro e W' ⟨rfl, G', c1, c2, c3⟩
  refine ⟨rfl, fun k hk => c2.block k (hX k hk) (fun hh => (h2 k hh).1 hk), ⟨G', c1, fun k hk => ?_⟩, c2.keep h3 (fun hh => (h2 p hh).2.2 rfl), h4, h5, h6.trans c2 (fun i hi => Or.inr (h2 i hi).2.1)⟩
  rcases c3 k hk with e | e
  · exact h2 k e
  · have := block_lt h3
    have := h6.size
    exact ⟨fun hh => by have := hX k hh; omega, by omega, by omega⟩
def ClQ (w : World) (most : Int) (xs : List K) (w' : World) : Prop := ∃ G, Oq w' w.heap.size G most xs ∧ (∀ k ∈ G, w.heap.size ≤ k) ∧ Touch [] w w'
set_option maxRecDepth 100000 in
set_option maxHeartbeats 2000000 in
theorem cloneO (w : World) (o : Nat) (F : List Nat) (most : Int) (xs : List K) (hl : xs.length < 100000) (h : Oq w o F most xs) : Calls Try.prog 55 #[PT o] w fun e w' => e = .returned (PT w.heap.size) ∧ ClQ w most xs w' := by
  refine (callsIn_wide (n := 0)).1 ?_
  have c0 := h.c0
  have H := hid h
  have ho : o < w.heap.size := h.lt _ h.mem
  clear h
  refine callsIn_of_wp_marks Try.func55 rfl trivial ?_ rfl
  simp only [Try.ntmps55, List.size_toArray, List.length_cons, List.length_nil, Nat.reduceAdd, Nat.reduceSub, Array.replicate_succ, Array.replicate_zero, List.push_toArray, List.append_toArray, List.nil_append, List.cons_append]
  unfold PT
  gi_wp2
  refine ⟨trivial, rfl, ?_⟩
  refine (callsIn_wide.2 (all13 _ o)).mono ?_
  rintro e w1 ⟨rfl, rfl⟩
  gi_wp2
  obtain ⟨W0, hW0⟩ : ∃ W0, ((w.alloc (.cells #[.int .i64 most, .map none, .pointer none, .pointer none] 129)).alloc (.cells #[.pointer (some ⟨w.heap.size, 0, none⟩)] 88)).alloc (.cells #[PT o] 88) = W0 := ⟨_, rfl⟩
  rw [hW0]
  have hz : W0.heap.size = w.heap.size + 3 := by rw [← hW0]; simp
  have T0 : Touch [] w W0 := by rw [← hW0]; exact (((Touch.refl _ _).alloc _).alloc _).alloc _
  have k0 : W0.heap[w.heap.size]? = some (.cells #[.int .i64 most, .map none, .pointer none, .pointer none] 129 (0, 0)) := by
    rw [← hW0]
    exact (Below.heap_alloc _ _ _ (by simp; omega)).trans ((Below.heap_alloc _ _ _ (by simp)).trans (heap_alloc_new w _))
  have k1 : W0.heap[w.heap.size + 1]? = some (.cells #[PT w.heap.size] 88 (0, 0)) := by
    rw [← hW0]
    have := heap_alloc_new (w.alloc (.cells #[.int .i64 most, .map none, .pointer none, .pointer none] 129)) (.cells #[.pointer (some ⟨w.heap.size, 0, none⟩)] 88)
    rw [World.size_alloc] at this
    exact (Below.heap_alloc _ _ _ (by simp)).trans this
  have k2 : W0.heap[w.heap.size + 1 + 1]? = some (.cells #[PT o] 88 (0, 0)) := by
    rw [← hW0]
    have := heap_alloc_new ((w.alloc (.cells #[.int .i64 most, .map none, .pointer none, .pointer none] 129)).alloc (.cells #[.pointer (some ⟨w.heap.size, 0, none⟩)] 88)) (.cells #[PT o] 88)
    rwa [World.size_alloc, World.size_alloc] at this
  have O0 : Oq W0 w.heap.size [w.heap.size] most [] := ⟨none, [], rfl, rfl, ⟨⟨k0, trivial, by simp⟩, by simp, fun e he => (by cases he), Or.inl ⟨rfl, rfl⟩⟩⟩
  clear hW0 c0
  refine range_all (w.heap.size + 1 + 1) o F most xs rfl rfl (by simp [World.cell?, k2]) (by omega) (H.out.keep0 T0) hl (ClI w w.heap.size (w.heap.size + 1) most) (fun _ _ => False) ?_ (fun X pre W W' hi ht => hi.step ht) (fun _ _ _ h _ => h)
    (fun x b => { tmps := #[.pointer (some ⟨o, 0, none⟩), undef, .pointer none, .pointer (some ⟨w.heap.size + 1, 0, none⟩), .pointer (some ⟨b, 0, none⟩), .pointer (some ⟨o, 0, none⟩), .bool false, .pointer (some ⟨o, 0, none⟩), .pointer (some ⟨o, 0, none⟩), .pointer (some ⟨o, 0, none⟩), .int .i64 most, .agg #[.int .i64 most, .map none, .pointer none, .pointer none], .pointer (some ⟨w.heap.size, 0, none⟩), .pointer (some ⟨o, 0, none⟩), .func (.func 63) #[] #[.pointer (some ⟨w.heap.size + 1 + 1, 0, none⟩)], .agg #[.int .u16 x.1, .string x.2], undef, undef, undef, undef], defers := [] }) ?_ ?_ ?_ ?_
  · intro X W ht hX
    have hX' : ∀ k ∈ X, w.heap.size + 3 ≤ k := fun k hk => by have := hX k hk; omega
    refine ⟨⟨[w.heap.size], O0.keep0 ht, fun k hk => ?_⟩, ht.keep k1 (by simp), fun hh => by have := hX' _ hh; omega, fun k hk => by have := hX' k hk; omega, T0.trans' ht⟩
    simp only [List.mem_singleton] at hk
    subst hk
    exact ⟨fun hh => by have := hX' _ hh; omega, Nat.le_refl _, by omega⟩
  · intro l x W K hK
    unfold kv
    gi_wp2
    exact hK
  · rintro l X pre x b W hi hb hX ⟨post, hpost⟩
    have hbx : W.heap[b]? = some (.cells #[.int .u16 x.1, .string x.2] 39 (0, 0)) := hb
    have b0 : W.cell? ⟨b, 0, none⟩ = some (.int .u16 x.1) := by simp [World.cell?, hbx]
    have b1 : W.cell? ⟨b, 1, none⟩ = some (.string x.2) := by simp [World.cell?, hbx]
    have hp := hi.2.1
    have p0 : W.cell? ⟨w.heap.size + 1, 0, none⟩ = some (.pointer (some ⟨w.heap.size, 0, none⟩)) := by unfold PT at hp; simp [World.cell?, hp]
    have hmem : x ∈ xs := by rw [hpost]; simp
    have hnx : ¬ x ∈ pre := fun hh => by
      have := H.out.nd
      rw [hpost, List.nodup_append] at this
      exact this.2.2 x hh x (by simp) rfl
    have hpl : pre.length < 100000 := by rw [hpost] at hl; simp at hl; omega
    have HE := hid (hi.enter x (H.out.ok x hmem) hnx hpl (fun k hk => by have := hX k hk; have := block_lt hb; omega) (by omega))
    unfold PT kv at HE
    clear hb hbx hp hi
    gi_wp2
    refine ⟨trivial, rfl, ?_⟩
    refine (CallsIn.inRound l (callsIn_wide.2 HE.out)).mono ?_
    rintro e W' ⟨rfl, q1, q2⟩
    have Q1 := hid q1
    have Q2 := hid q2
    clear q1 q2
    gi_wp2
    exact ⟨Q1.out, Q2.out⟩
  · rintro X D W hD hDX hi hK
    have hp := hi.2.1
    have p0 : W.cell? ⟨w.heap.size + 1, 0, none⟩ = some (.pointer (some ⟨w.heap.size, 0, none⟩)) := by unfold PT at hp; simp [World.cell?, hp]
    unfold dfr
    have HI := hid hi
    clear hi hp
    gi_wp2
    refine ⟨by simp, .inl ⟨_, _, rfl, run_takeDeferred hK, ?_⟩⟩
    refine ⟨_, results_tmp rfl _ _ _, rfl, ?_⟩
    obtain ⟨⟨G, h1, h2⟩, h3, h4, h5, h6⟩ := HI.out.step (touch_putObj W (l := D) (.deferred none) hDX)
    exact ⟨G, h1, fun k hk => (h2 k hk).2.1, h6⟩
  · intro X D W _ _ h
    exact h.elim
end Go.Proofs.Ytopepalpmkeffaa
