/- A range over All: what the body of each round must keep, and what is known behind the loop; there are fewer than a hundred thousand keys. -/
import Derived.Test.YtopepalpmkeffaaItr
namespace Go.Proofs.Ytopepalpmkeffaa
open Go.RowKit Go.Sort Go.Maps Go.ChangeMaps Go.WideMaps Go.Shelf
set_option linter.unusedVariables false
set_option linter.unusedSimpArgs false
theorem touch_putObj {X : List Nat} (W : World) {l : Nat} (o : Obj) (hl : l ∈ X) : Touch X W (W.putObj l o) :=
  ⟨rfl, rfl, rfl, by simp, fun k hk hn => World.putObj_heap_other (fun e => hn (e ▸ hl))⟩
/-- How a round may be left: what is shielded lies as it lay. -/
def bodyP (X : List Nat) (I Ix : World → Prop) (W : World) : Exit → Act → World → Prop
  | .normal, _, W' => (∀ k ∈ X, W'.heap[k]? = W.heap[k]?) ∧ I W'
  | .ret, _, W' => (∀ k ∈ X, W'.heap[k]? = W.heap[k]?) ∧ Ix W'
  | _, _, _ => False
def dfr (D : Nat) (a : Act) : Act := { a with defers := { target := .collected D, args := #[] } :: a.defers }
set_option maxHeartbeats 2000000 in
theorem range_all {g : Operand} {ps : Array Tmp} {assign body : Code} {Q : Exit → Act → World → Prop} {a : Act} {w : World} (Bo o : Nat) (F : List Nat) (most : Int) (xs : List K)
    (hg : a.eval g = .func (.func 63) #[] #[.pointer (some ⟨Bo, 0, none⟩)]) (hps : ps.size = 1) (hB : w.cell? ⟨Bo, 0, none⟩ = some (PT o)) (hBo : Bo < w.heap.size) (hO : Oq w o F most xs) (hlen : xs.length < 100000)
    (I : List Nat → List K → World → Prop) (Ix : List Nat → World → Prop)
    (hI0 : ∀ X W, Touch [] w W → (∀ k ∈ X, w.heap.size ≤ k) → I X [] W) (hIt : ∀ X pre W W', I X pre W → Touch X W W' → I X pre W') (hIxt : ∀ X W W', Ix X W → Touch X W W' → Ix X W') (a₁ : K → Nat → Act)
    (hassign : ∀ (l : Nat) (x : K) (W : World) (K : Act → World → Prop), K (a₁ x W.heap.size) (W.alloc (bx x)) →
      assign.wpIn (Fence.wide.inRound l) 0 Try.prog (Exit.then K (fun _ _ _ => False)) { tmps := (ps.zip #[kv x]).foldl (fun t (p, v) => t.setIfInBounds p v) a.tmps, defers := [] } W)
    (hbody : ∀ (l : Nat) (X : List Nat) (pre : List K) (x : K) (b : Nat) (W : World), I X pre W → W.heap[b]? = some (bx x) → (∀ k ∈ X, k < b) → (∃ post, xs = pre ++ x :: post) →
      body.wpIn (Fence.wide.inRound l) 0 Try.prog (bodyP X (I X (pre ++ [x])) (Ix X) W) (a₁ x b) W)
    (hdone : ∀ (X : List Nat) (D : Nat) (W : World), w.heap.size ≤ D → D ∈ X → I X xs W → W.heap[D]? = some (.deferred (some [])) → Q .normal (dfr D a) W)
    (hstop : ∀ (X : List Nat) (D : Nat) (W : World), w.heap.size ≤ D → D ∈ X → Ix X W → W.heap[D]? = some (.deferred (some [])) → Code.ret.wpIn Fence.wide 0 Try.prog Q (dfr D a) W) :
    (Code.rangeFunc g ps assign body).wpIn Fence.wide 0 Try.prog Q a w := by
  refine wpIn_rangeFunc ?_
  intro fn hfn
  obtain ⟨rec, hrec⟩ : ∃ rec : LoopState → Option Code → Loop, rec = fun st pe => { state := st, pending := pe, fn, tmps := a.tmps, params := ps, assign, body, defers := w.heap.size } := ⟨_, rfl⟩
  obtain ⟨W1, hW1⟩ : ∃ W1, (w.alloc (.deferred (some []))).alloc (.loop (rec .ready none)) = W1 := ⟨_, rfl⟩
  have T1 : Touch [] w W1 := by rw [← hW1]; exact ((Touch.refl _ _).alloc _).alloc _
  have hz1 : W1.heap.size = w.heap.size + 1 + 1 := by rw [← hW1]; simp
  have hL1 : W1.heap[w.heap.size + 1]? = some (.loop (rec .ready none)) := by
    rw [← hW1]
    have := World.alloc_heap_new (w.alloc (.deferred (some []))) (.loop (rec .ready none))
    rwa [World.size_alloc] at this
  have hD1 : W1.heap[w.heap.size]? = some (.deferred (some [])) := by
    rw [← hW1]
    exact (Below.heap_alloc _ _ _ (by simp)).trans (World.alloc_heap_new w _)
  refine ⟨w.heap.size + 1, [{ target := .collected w.heap.size, args := #[] }], W1, { target := .fn (.func 63) #[.pointer (some ⟨Bo, 0, none⟩)], args := #[.func (.yield (w.heap.size + 1)) #[] #[]] }, W1, 63,
    #[.func (.yield (w.heap.size + 1)) #[] #[], .pointer (some ⟨Bo, 0, none⟩)], W1, ?_, ?_, ?_, ?_, (fun h => (by cases h)), ?_⟩
  · rw [← hW1, hrec]; exact run_enterLoop_outer _ _ _ _ _
  · simp only [resolve, hg]
    simp [go_sem]
  · intro f' hf'; exact trivial
  · have eg := enters_of (P := Try.prog) Try.func63 (by kernel_rfl) rfl
    simp [invoke, go_sem, eg]
  · have hB1 : W1.cell? ⟨Bo, 0, none⟩ = some (PT o) := (World.cell?_of_block (T1.block Bo hBo (by simp))).trans hB
    refine (all32_row (w.heap.size + 1) Bo o F most xs W1 hB1 (hO.keep0 T1) hlen
      (fun r pre W => I [w.heap.size, w.heap.size + 1, r] pre W ∧ W.heap[w.heap.size + 1]? = some (.loop (rec .ready none)) ∧ W.heap[w.heap.size]? = some (.deferred (some [])) ∧ w.heap.size + 1 + 1 ≤ r)
      (fun W => ∃ r, Ix [w.heap.size, w.heap.size + 1, r] W ∧ W.heap[w.heap.size + 1]? = some (.loop (rec .done (some .ret))) ∧ W.heap[w.heap.size]? = some (.deferred (some [])))
      ?_ ?_ ?_).mono ?_
    · intro r W ht hr
      exact ⟨hI0 _ _ (T1.trans' ht) (fun k hk => by simp only [List.mem_cons, List.not_mem_nil, or_false] at hk; omega), ht.keep hL1 (by simp), ht.keep hD1 (by simp), by omega⟩
    · rintro r pre W W' ⟨h1, h2, h3, h4⟩ ht
      exact ⟨hIt _ _ _ _ h1 (ht.mono (fun _ e => by cases e)), ht.keep h2 (by simp), ht.keep h3 (by simp), h4⟩
    · rintro r pre x W ⟨hi, hl, hd, hr⟩ hrl hpost
      have hy := run_yield (P := Try.prog) (args := #[kv x]) hl (by rw [hrec]; exact hps.symm)
      rw [hrec] at hy
      have hllt : w.heap.size + 1 < W.heap.size := block_lt hl
      have hla : (W.alloc (bx x)).heap[w.heap.size + 1]? = some (.loop (rec .ready none)) := (Below.heap_alloc _ _ _ hllt).trans hl
      have hda : (W.alloc (bx x)).heap[w.heap.size]? = some (.deferred (some [])) := (Below.heap_alloc _ _ _ (by omega)).trans hd
      refine ⟨fn, _, assign, body, hy, roundIn_of_wpIn hfn (hassign _ x W _ ⟨_, run_beginRound hla (by rw [hrec]), ?_⟩)⟩
      have T2 : Touch [w.heap.size, w.heap.size + 1, r] W ((W.alloc (bx x)).putObj (w.heap.size + 1) (.loop { rec .ready none with state := .busy })) := ((Touch.refl _ _).alloc _).trans' (touch_putObj _ _ (by simp))
      have hl2 : ((W.alloc (bx x)).putObj (w.heap.size + 1) (.loop { rec .ready none with state := .busy })).heap[w.heap.size + 1]? = some (.loop { rec .ready none with state := .busy }) := World.putObj_heap_same (block_lt hla)
      have hd2 : ((W.alloc (bx x)).putObj (w.heap.size + 1) (.loop { rec .ready none with state := .busy })).heap[w.heap.size]? = some (.deferred (some [])) := (World.putObj_heap_other (by omega)).trans hda
      have hr2 : ((W.alloc (bx x)).putObj (w.heap.size + 1) (.loop { rec .ready none with state := .busy })).heap[r]? = W.heap[r]? := (World.putObj_heap_other (by omega)).trans (Below.heap_alloc _ _ _ hrl)
      have hb2 : ((W.alloc (bx x)).putObj (w.heap.size + 1) (.loop { rec .ready none with state := .busy })).heap[W.heap.size]? = some (bx x) := (World.putObj_heap_other (by omega)).trans (World.alloc_heap_new W _)
      refine wpIn_mono (hbody _ [w.heap.size, w.heap.size + 1, r] pre x W.heap.size _ (hIt _ _ _ _ hi T2) hb2 (fun k hk => by simp only [List.mem_cons, List.not_mem_nil, or_false] at hk; omega) hpost) ?_
      generalize (W.alloc (bx x)).putObj (w.heap.size + 1) (.loop { rec .ready none with state := .busy }) = W2 at *
      have fin : ∀ (jump : Option Code) (W3 : World), (∀ k ∈ [w.heap.size, w.heap.size + 1, r], W3.heap[k]? = W2.heap[k]?) →
          (Instr.endRound (w.heap.size + 1) jump).run Try.prog W3 = .ok (.bool jump.isNone) (W3.putObj (w.heap.size + 1) (.loop (rec (if jump.isNone then .ready else .done) jump))) ∧
          (W3.putObj (w.heap.size + 1) (.loop (rec (if jump.isNone then .ready else .done) jump))).heap[w.heap.size + 1]? = some (.loop (rec (if jump.isNone then .ready else .done) jump)) ∧
          (W3.putObj (w.heap.size + 1) (.loop (rec (if jump.isNone then .ready else .done) jump))).heap[w.heap.size]? = some (.deferred (some [])) ∧
          (W3.putObj (w.heap.size + 1) (.loop (rec (if jump.isNone then .ready else .done) jump))).heap[r]? = W.heap[r]? := fun jump W3 hk3 => by
        have hl3 := (hk3 (w.heap.size + 1) (by simp)).trans hl2
        have := run_endRound (P := Try.prog) jump hl3
        rw [hrec] at this ⊢
        exact ⟨this, World.putObj_heap_same (block_lt hl3), (World.putObj_heap_other (by omega)).trans ((hk3 w.heap.size (by simp)).trans hd2), (World.putObj_heap_other (by omega)).trans ((hk3 r (by simp)).trans hr2)⟩
      rintro e a3 W3 hp
      cases e with
      | normal =>
        obtain ⟨hk3, hi3⟩ := hp
        obtain ⟨f1, f2, f3, f4⟩ := fin none W3 hk3
        exact ⟨_, _, f1, Or.inl ⟨rfl, ⟨hIt _ _ _ _ hi3 (touch_putObj _ _ (by simp)), f2, f3, hr⟩, f4⟩⟩
      | ret =>
        obtain ⟨hk3, hi3⟩ := hp
        obtain ⟨f1, f2, f3, f4⟩ := fin (some .ret) W3 hk3
        exact ⟨_, _, f1, Or.inr ⟨rfl, r, hIxt _ _ _ hi3 (touch_putObj _ _ (by simp)), f2, f3⟩⟩
      | exit id => exact hp.elim
      | goto t => exact hp.elim
      | panic ch => exact hp.elim
      | outgrown => exact hp.elim
    · rintro e W2 ⟨⟨v, rfl⟩, ⟨r, hi, hl, hd, hr⟩ | ⟨r, hi, hl, hd⟩⟩
      · refine ⟨none, _, by have := run_endLoop (P := Try.prog) hl (by rw [hrec]; simp); rw [hrec] at this; exact this, ?_⟩
        exact hdone [w.heap.size, w.heap.size + 1, r] w.heap.size _ (Nat.le_refl _) (by simp) (hIt _ _ _ _ hi (touch_putObj _ _ (by simp))) ((World.putObj_heap_other (by omega)).trans hd)
      · refine ⟨some .ret, _, by have := run_endLoop (P := Try.prog) hl (by rw [hrec]; simp); rw [hrec] at this; exact this, ?_⟩
        exact hstop [w.heap.size, w.heap.size + 1, r] w.heap.size _ (Nat.le_refl _) (by simp) (hIxt _ _ _ hi (touch_putObj _ _ (by simp))) ((World.putObj_heap_other (by omega)).trans hd)
def ax (a : Act) (s p : Tmp) (x : K) (b : Nat) : Act := { tmps := (a.tmps.setIfInBounds p (kv x)).setIfInBounds s (.pointer (some ⟨b, 0, none⟩)), defers := [] }
/-- The same, the loop's variable in slot s, what comes in slot p. -/
theorem range_at {g : Operand} {ps : Array Tmp} {assign body : Code} {Q : Exit → Act → World → Prop} {a : Act} {w : World} (s p : Tmp) (Bo o : Nat) (F : List Nat) (most : Int) (xs : List K)
    (hg : a.eval g = .func (.func 63) #[] #[.pointer (some ⟨Bo, 0, none⟩)]) (hps : ps.size = 1) (hB : w.cell? ⟨Bo, 0, none⟩ = some (PT o)) (hBo : Bo < w.heap.size) (hO : Oq w o F most xs) (hlen : xs.length < 100000)
    (I : List Nat → List K → World → Prop) (Ix : List Nat → World → Prop)
    (hI0 : ∀ X W, Touch [] w W → (∀ k ∈ X, w.heap.size ≤ k) → I X [] W) (hIt : ∀ X pre W W', I X pre W → Touch X W W' → I X pre W') (hIxt : ∀ X W W', Ix X W → Touch X W W' → Ix X W')
    (hassign : ∀ (l : Nat) (x : K) (W : World) (K : Act → World → Prop), K (ax a s p x W.heap.size) (W.alloc (bx x)) →
      assign.wpIn (Fence.wide.inRound l) 0 Try.prog (Exit.then K (fun _ _ _ => False)) { tmps := (ps.zip #[kv x]).foldl (fun t (p, v) => t.setIfInBounds p v) a.tmps, defers := [] } W)
    (hbody : ∀ (l : Nat) (X : List Nat) (pre : List K) (x : K) (b : Nat) (W : World), I X pre W → W.heap[b]? = some (bx x) → (∀ k ∈ X, k < b) → (∃ post, xs = pre ++ x :: post) →
      body.wpIn (Fence.wide.inRound l) 0 Try.prog (bodyP X (I X (pre ++ [x])) (Ix X) W) (ax a s p x b) W)
    (hdone : ∀ (X : List Nat) (D : Nat) (W : World), w.heap.size ≤ D → D ∈ X → I X xs W → W.heap[D]? = some (.deferred (some [])) → Q .normal (dfr D a) W)
    (hstop : ∀ (X : List Nat) (D : Nat) (W : World), w.heap.size ≤ D → D ∈ X → Ix X W → W.heap[D]? = some (.deferred (some [])) → Code.ret.wpIn Fence.wide 0 Try.prog Q (dfr D a) W) :
    (Code.rangeFunc g ps assign body).wpIn Fence.wide 0 Try.prog Q a w :=
  range_all Bo o F most xs hg hps hB hBo hO hlen I Ix hI0 hIt hIxt (ax a s p) hassign hbody hdone hstop
end Go.Proofs.Ytopepalpmkeffaa
