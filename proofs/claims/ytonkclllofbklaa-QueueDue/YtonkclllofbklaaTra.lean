/- The contracts of All of a queue by turn, of the two makers, and of awake. -/
import Derived.Test.YtonkclllofbklaaTrm
import Derived.Test.YtonkclllofbklaaPut
namespace Go.Proofs.Ytonkclllofbklaa
open Go.RowKit Go.Maps Go.ChangeMaps
set_option linter.unusedVariables false
def ints (xs : List Int) : List Value := xs.map (Value.int .i64)
/-- What the map tells of an item's follower. -/
theorem Uq.look {w : World} {q : Nat} {F : List Nat} {xs : List Int} (h : Uq w q F xs) (h0 : 0 < xs.length) :
    ∃ b, w.cell? ⟨q, 2, none⟩ = some (.map (some b)) ∧ ∀ k (hk : k < xs.length), ∃ a y, (Instr.lookup 63 (.map (some b)) (.int .i64 xs[k]) false).run Try.prog w = .ok (.agg #[.int .i64 a, .int .i64 y]) w ∧ ∀ (h1 : k + 1 < xs.length), y = xs[k + 1] := by
  obtain ⟨m, rfl, t⟩ := h
  obtain ⟨f, l, hc, hs⟩ := t.st
  rcases hs with ⟨_, rfl⟩ | ⟨b, be, af, rfl, hm, hch⟩
  · simp at h0
  · refine ⟨b, hc.c2, fun k hk => ⟨be xs[k], af xs[k], ?_, fun h1 => (hch.adj k h1).1⟩⟩
    have hl := hm.look (t := 63) Try.underlying63 (zero79 w) (t.wf _ (List.getElem_mem hk))
    rw [lmap_at (List.getElem_mem hk)] at hl
    simpa [lnk] using hl
theorem fld79 (a y : Int) (w : World) : (Instr.field 79 (.agg #[.int .i64 a, .int .i64 y]) 1).run Try.prog w = .ok (.int .i64 y) w := by kernel_rfl
set_option maxHeartbeats 2000000 in
set_option maxRecDepth 100000 in
theorem uall (w : World) (q : Nat) (F : List Nat) (xs : List Int) (h : Uq w q F xs) :
    Calls Try.prog 32 #[PT q] w fun e w' => ∃ v, e = .returned v ∧ w'.ownsRow w.heap.size 3 1 v xs.length (ints xs) ∧ Touch [] w w' := by
  obtain ⟨i3, hi, hz0, hz1, hz2⟩ := info_parts info3
  have hle := h.len
  have HL : Hid (∀ w1, Touch [] w w1 → Calls Try.prog 31 #[.pointer (some ⟨q, 0, none⟩)] w1 fun e w' => e = .returned (.int .i64 xs.length) ∧ w' = w1) := fun w1 t => ulen w1 q F xs (h.keep0 t)
  have HF : Hid (∀ w1, Touch [] w w1 → Calls Try.prog 28 #[.pointer (some ⟨q, 0, none⟩)] w1 fun e w' => e = .returned (.tuple #[.int .i64 (xs.headD 0), .bool (decide (0 < xs.length))]) ∧ w' = w1) := fun w1 t => ufront w1 q F xs (h.keep0 t)
  have HK := hid h
  have f79 := fld79
  clear h
  generalize decide (0 < xs.length) = B at *
  unfold PT
  go_enter Try.func32, Try.ntmps32
  go_wp2_with fail
  refine (HL.out _ (Touch.refl _ _)).mono ?_
  rintro e w1 ⟨rfl, rfl⟩
  go_wp2_with (at_make; refine wpList_make_own _ rfl _ _ 47 rfl w1.heap.size 3 i3 (.int .i64 0) 1 Try.underlying47 hi hz0 hz1 .i64 .i64 _ xs.length rfl rfl rfl (by rw [hz2]; omega) (by unfold maxLen; omega) (Nat.le_refl _) ?_; intro w3 o3 g3)
  have O3 := hid o3
  have T3 : Hid (Touch [] w1 w3) := Touch.grown (Touch.refl _ _) g3 (fun k hk => by cases hk)
  clear o3 g3
  refine (HF.out _ T3.out).mono ?_
  rintro e w4 ⟨rfl, rfl⟩
  go_wp2_with (go_at_call 31; refine (HL.out _ T3.out).mono ?_; rintro e w5 ⟨rfl, rfl⟩)
  go_loopw [3, 4, 16] (fun s3 it i wr => ∃ a k c y, s3 = .slice a k c ∧ it = .int .i64 y ∧ i = .int .i64 k ∧ k ≤ xs.length ∧ Hid ((∀ (hk : k < xs.length), y = xs[k]) ∧ wr.ownsRow w1.heap.size 3 1 (.slice a k c) k (ints (xs.take k)) ∧ Touch [] w1 wr)) (fun _ _ i _ => xs.length - (intOf i).toNat)
  case atStart => exact ⟨_, 0, _, _, rfl, rfl, rfl, Nat.zero_le _, fun hk => by cases xs with | nil => simp at hk | cons x r => rfl, O3.out, T3.out⟩
  case round =>
    obtain ⟨a, k, c, y, rfl, rfl, rfl, hk, HR⟩ := hrel
    by_cases hlt : k < xs.length
    · have zk : (k : Int) < (xs.length : Int) := by omega
      have hy : Hid (y = xs[k]) := HR.out.1 hlt
      have hbr := HR.out.2.2.size
      have HX : Hid (ints (xs.take (k + 1)) = ints (xs.take k) ++ [.int .i64 y]) := by
        show _ = _
        unfold ints
        rw [List.take_succ_eq_append_getElem hlt, List.map_append, ← hy.out]; rfl
      clear O3 T3
      go_wp2_with (at_builtin; refine wpList_append_lies _ rfl _ _ 47 rfl w1.heap.size 3 i3 (.int .i64 0) 1 8 Try.underlying47 hi hz0 hz1 hz2 rfl (by decide) (.slice a k c) k (ints (xs.take k)) rfl (HR.out.2.1.alloc _) ⟨wr.heap.size, 0, none⟩ 1 1 [.int .i64 y] rfl rfl (cell_one_new _ _ _) (by simp [Value.oneCell']) (by decide) (by unfold maxLen; omega) (by omega) (by simp; omega) _ rfl ?_; intro g1 c1 w5 hown5 hgrow hat hlt5; have T5 : Touch (Value.slice a k c).ownBlock.toList wr w5 := ((Touch.refl _ _).alloc _).grown hgrow (fun j hj => Or.inl (by simp [hj])); have TW : Touch [] w1 w5 := HR.out.2.2.trans T5 (fun j hj => Or.inr (HR.out.2.1.lt j (by simpa using hj)).1); obtain ⟨b, cb, hlook⟩ := (HK.out.keep0 TW).look (by omega); obtain ⟨a6, y6, hl6, hn6⟩ := hlook k hlt; rw [← hy.out] at hl6; have HN := hid (And.intro hn6 (And.intro TW hown5)); clear hlook hn6 TW T5 hgrow hat hown5)
      go_roundw
      case rel => exact ⟨_, k + 1, c1, y6, rfl, rfl, by go_num, by omega, HN.out.1, by rw [HX.out]; exact HN.out.2.2, HN.out.2.1⟩
      case measure => simp [intOf]; omega
    · have e : k = xs.length := by omega
      subst e
      go_wp2
      go_ret
      refine ⟨_, rfl, ?_, HR.out.2.2⟩
      have := HR.out.2.1
      rw [List.take_length] at this
      exact this
theorem newTurns8 (w : World) : Calls Try.prog 8 #[] w fun e w' => e = .returned (PT w.heap.size) ∧ Uq w' w.heap.size [w.heap.size] [] ∧ Touch [] w w' := by
  go_enter Try.func8, Try.ntmps8
  go_wp2
  go_ret
  refine ⟨rfl, ⟨none, rfl, List.nodup_nil, fun x hx => by simp at hx, by simp, 0, 0, heap_alloc_new w _, Or.inl ⟨rfl, rfl⟩⟩, (Touch.refl _ _).alloc _⟩
theorem newTimes19 (w : World) : Calls Try.prog 19 #[] w fun e w' => e = .returned (PT w.heap.size) ∧ Tq w' w.heap.size [w.heap.size] 0 [] ∧ Touch [] w w' := by
  go_enter Try.func19, Try.ntmps19
  go_wp2
  go_ret
  refine ⟨rfl, ⟨.slice none 0 0, none, rfl, ⟨[], ⟨heap_alloc_new w _, World.ownsRow_nil _ _ _ _, Or.inl ⟨rfl, rfl⟩, List.nodup_nil, fun x hx => by simp at hx, by simp⟩, fun k _ h => by simp at h, List.Perm.refl _⟩, List.Pairwise.nil, fun x hx => by simp at hx, by decide, fun x hx => by simp at hx⟩, (Touch.refl _ _).alloc _⟩
/-- Two queues that share no block, both made since w. -/
structure Two (w wr : World) (q t : Nat) (F G : List Nat) (p : Int) (xs : List Int) (S : List Slot) : Prop where
  u : Uq wr q F xs
  t : Tq wr t G p S
  dj : ∀ k, k ∈ F → ¬ k ∈ G
  nu : ∀ k, k ∈ F → w.heap.size ≤ k
  nt : ∀ k, k ∈ G → w.heap.size ≤ k
  to : Touch [] w wr
theorem Two.quiet {w wr w' : World} {q t : Nat} {F G : List Nat} {p : Int} {xs : List Int} {S : List Slot} (h : Two w wr q t F G p xs S) (ht : Touch [] wr w') : Two w w' q t F G p xs S := ⟨h.u.keep0 ht, h.t.keep0 ht, h.dj, h.nu, h.nt, h.to.trans' ht⟩
theorem Two.ustep {w wr w' : World} {q t : Nat} {F F' G : List Nat} {p : Int} {xs ys : List Int} {S : List Slot} (h : Two w wr q t F G p xs S) (hu : Uq w' q F' ys) (ht : Touch F wr w') (hn : Nf wr F F') : Two w w' q t F' G p ys S := by
  refine ⟨hu, h.t.keep ht (fun k hk e => h.dj k e hk), fun k hk e => ?_, fun k hk => ?_, h.nt, h.to.trans ht (fun i hi => Or.inr (h.nu i hi))⟩
  · rcases hn k hk with e' | e'
    · exact h.dj k e' e
    · have := h.t.lt k e; omega
  · rcases hn k hk with e' | e'
    · exact h.nu k e'
    · exact Nat.le_trans h.to.size e'
theorem Two.tstep {w wr w' : World} {q t : Nat} {F G G' : List Nat} {p p' : Int} {xs : List Int} {S S' : List Slot} (h : Two w wr q t F G p xs S) (hu : Tq w' t G' p' S') (ht : Touch G wr w') (hn : Nf wr G G') : Two w w' q t F G' p' xs S' := by
  refine ⟨h.u.keep ht (fun k hk e => h.dj k hk e), hu, fun k hk e => ?_, h.nu, fun k hk => ?_, h.to.trans ht (fun i hi => Or.inr (h.nt i hi))⟩
  · rcases hn k e with e' | e'
    · exact h.dj k hk e'
    · have := h.u.lt k hk; omega
  · rcases hn k hk with e' | e'
    · exact h.nt k e'
    · exact Nat.le_trans h.to.size e'
theorem Two.make {w w1 w2 : World} (h1 : Uq w1 w.heap.size [w.heap.size] []) (t1 : Touch [] w w1) (h2 : Tq w2 w1.heap.size [w1.heap.size] 0 []) (t2 : Touch [] w1 w2) : Two w w2 w.heap.size w1.heap.size [w.heap.size] [w1.heap.size] 0 [] [] := by
  have := h1.lt w.heap.size (by simp)
  have hz := t1.size
  refine ⟨h1.keep0 t2, h2, fun k hk e => ?_, fun k hk => ?_, fun k hk => ?_, t1.trans' t2⟩
  · simp at hk e; omega
  · simp at hk; omega
  · simp at hk; omega
theorem w64c {k : Int} (h : -1000000 ≤ k ∧ k ≤ 1000000) : W64 k := W64.mk (by omega) (by omega)
theorem pos_nil (t : Int) : Pos [] t 0 := ⟨Nat.le_refl _, fun j h => by simp at h, fun h => by omega⟩
set_option maxHeartbeats 2000000 in
set_option maxRecDepth 100000 in
theorem awake9 (w : World) : Calls Try.prog 9 #[] w fun e w' => e = .returned (.bool true) ∧ Touch [] w w' := by
  go_enter Try.func9, Try.ntmps9
  go_wp2_with fail
  refine (newTurns8 w).mono ?_
  rintro e w1 ⟨rfl, u1, t1⟩
  have U1 := hid (And.intro u1 t1)
  clear u1 t1
  unfold PT
  go_wp2_with fail
  refine (newTimes19 w1).mono ?_
  rintro e w2 ⟨rfl, u2, t2⟩
  have W2 := hid (Two.make U1.out.1 U1.out.2 u2 t2)
  clear u2 t2 U1
  unfold PT
  generalize w.heap.size = q at *
  generalize w1.heap.size = t at *
  go_wp2_with (first
    | (go_at_call_of 17 (#[.pointer (some ⟨q, 0, none⟩), .int .i64 5] : Array Value); refine (uput_ok w2 q _ [] 5 (w64c (by omega)) W2.out.u (by simp) (by simp)).mono ?_; rintro e w3 ⟨rfl, F3, u3, t3, n3⟩; have W3 := hid (W2.out.ustep u3 t3 n3); clear u3 t3 n3)
    | (go_at_call_of 17 (#[.pointer (some ⟨q, 0, none⟩), .int .i64 3] : Array Value); refine (uput_ok w3 q _ [5] 3 (w64c (by omega)) W3.out.u (by simp) (by simp)).mono ?_; rintro e w4 ⟨rfl, F4, u4, t4, n4⟩; have W4 := hid (W3.out.ustep u4 t4 n4); clear u4 t4 n4)
    | (go_at_call 24; refine (put24_ok w4 t _ 0 [] 7 1 0 (w64c (by omega)) W4.out.t (isT_yes (by omega)) (by rfl) (by simp) (pos_nil 7) (by omega)).mono ?_; rintro e w5 ⟨rfl, F5, u5, t5, n5⟩; have W5 := hid (W4.out.tstep u5 t5 n5); clear u5 t5 n5)
    | (go_at_call 12; refine (utake_cons w5 q _ 5 [3] W5.out.u).mono ?_; rintro e w6 ⟨rfl, u6, t6⟩; have W6 := hid (W5.out.ustep u6 t6 (Nf.refl _ _)); clear u6 t6)
    | (go_at_call 27; refine (next27_cons w6 t _ _ ⟨7, 0, 1⟩ [] W6.out.t).mono ?_; rintro e w7 ⟨rfl, t7⟩; have W7 := hid (W6.out.quiet t7); clear t7))
  go_ret
  exact ⟨rfl, W7.out.to⟩
end Go.Proofs.Ytonkclllofbklaa
