/- The contracts of All of a queue by turn, and of its maker. -/
import Derived.Test.YtmbjjkdocmcpdaaTrm
namespace Go.Proofs.Ytmbjjkdocmcpdaa
open Go.RowKit Go.Maps Go.ChangeMaps
set_option linter.unusedVariables false
def ints (xs : List Int) : List Value := xs.map (Value.int .i64)
/-- What the map tells of an item's follower. -/
theorem Uq.look {w : World} {q : Nat} {F : List Nat} {xs : List Int} (h : Uq w q F xs) (h0 : 0 < xs.length) :
    ∃ b, w.cell? ⟨q, 2, none⟩ = some (.map (some b)) ∧ ∀ k (hk : k < xs.length), ∃ a y, (Instr.lookup 77 (.map (some b)) (.int .i64 xs[k]) false).run Try.prog w = .ok (.agg #[.int .i64 a, .int .i64 y]) w ∧ ∀ (h1 : k + 1 < xs.length), y = xs[k + 1] := by
  obtain ⟨m, rfl, t⟩ := h
  obtain ⟨f, l, hc, hs⟩ := t.st
  rcases hs with ⟨_, rfl⟩ | ⟨b, be, af, rfl, hm, hch⟩
  · simp at h0
  · refine ⟨b, hc.c2, fun k hk => ⟨be xs[k], af xs[k], ?_, fun h1 => (hch.adj k h1).1⟩⟩
    have hl := hm.look (t := 77) Try.underlying77 (zero79 w) (t.wf _ (List.getElem_mem hk))
    rw [lmap_at (List.getElem_mem hk)] at hl
    simpa [lnk] using hl
theorem fld79 (a y : Int) (w : World) : (Instr.field 76 (.agg #[.int .i64 a, .int .i64 y]) 1).run Try.prog w = .ok (.int .i64 y) w := by kernel_rfl
set_option maxHeartbeats 2000000 in
set_option maxRecDepth 100000 in
theorem uall (w : World) (q : Nat) (F : List Nat) (xs : List Int) (h : Uq w q F xs) :
    Calls Try.prog 31 #[PT q] w fun e w' => ∃ v, e = .returned v ∧ w'.ownsRow w.heap.size 3 1 v xs.length (ints xs) ∧ Touch [] w w' := by
  obtain ⟨i3, hi, hz0, hz1, hz2⟩ := info_parts info3
  have hle := h.len
  have HL : Hid (∀ w1, Touch [] w w1 → Calls Try.prog 36 #[.pointer (some ⟨q, 0, none⟩)] w1 fun e w' => e = .returned (.int .i64 xs.length) ∧ w' = w1) := fun w1 t => ulen w1 q F xs (h.keep0 t)
  have HF : Hid (∀ w1, Touch [] w w1 → Calls Try.prog 37 #[.pointer (some ⟨q, 0, none⟩)] w1 fun e w' => e = .returned (.tuple #[.int .i64 (xs.headD 0), .bool (decide (0 < xs.length))]) ∧ w' = w1) := fun w1 t => ufront w1 q F xs (h.keep0 t)
  have HK := hid h
  have f79 := fld79
  clear h
  generalize decide (0 < xs.length) = B at *
  unfold PT
  go_enter Try.func31, Try.ntmps31
  go_wp2_with fail
  refine (HL.out _ (Touch.refl _ _)).mono ?_
  rintro e w1 ⟨rfl, rfl⟩
  go_wp2_with (at_make; refine wpList_make_own _ rfl _ _ 27 rfl w1.heap.size 3 i3 (.int .i64 0) 1 Try.underlying27 hi hz0 hz1 .i64 .i64 _ xs.length rfl rfl rfl (by rw [hz2]; omega) (by unfold maxLen; omega) (Nat.le_refl _) ?_; intro w3 o3 g3)
  have O3 := hid o3
  have T3 : Hid (Touch [] w1 w3) := Touch.grown (Touch.refl _ _) g3 (fun k hk => by cases hk)
  clear o3 g3
  refine (HF.out _ T3.out).mono ?_
  rintro e w4 ⟨rfl, rfl⟩
  go_wp2_with (go_at_call 36; refine (HL.out _ T3.out).mono ?_; rintro e w5 ⟨rfl, rfl⟩)
  go_loopw [3, 4, 16] (fun s3 it i wr => ∃ a k c y, s3 = .slice a k c ∧ it = .int .i64 y ∧ i = .int .i64 k ∧ k ≤ xs.length ∧ Hid ((∀ (hk : k < xs.length), y = xs[k]) ∧ wr.ownsRow w1.heap.size 3 1 (.slice a k c) k (ints (xs.take k)) ∧ Touch [] w1 wr)) (fun _ _ i _ => xs.length - (intOf i).toNat)
  case atStart => exact ⟨_, 0, _, _, rfl, rfl, rfl, Nat.zero_le _, fun hk => by cases xs with | nil => simp at hk | cons x r => rfl, O3.out, T3.out⟩
  case round =>
    obtain ⟨a, k, c, y, rfl, rfl, rfl, hk, HR⟩ := hrel
    by_cases hlt : k < xs.length
    · have zk : (k : Int) < (xs.length : Int) := by omega
      have hy : Hid (y = xs[k]) := HR.out.1 hlt
      have hbr := HR.out.2.2.size
      have HX : Hid (ints (xs.take (k + 1)) = ints (xs.take k) ++ [.int .i64 y]) := by
        show _ = _
        unfold ints
        rw [List.take_succ_eq_append_getElem hlt, List.map_append, ← hy.out]; rfl
      clear O3 T3
      go_wp2_with (at_builtin; refine wpList_append_lies _ rfl _ _ 27 rfl w1.heap.size 3 i3 (.int .i64 0) 1 8 Try.underlying27 hi hz0 hz1 hz2 rfl (by decide) (.slice a k c) k (ints (xs.take k)) rfl (HR.out.2.1.alloc _) ⟨wr.heap.size, 0, none⟩ 1 1 [.int .i64 y] rfl rfl (cell_one_new _ _ _) (by simp [Value.oneCell']) (by decide) (by unfold maxLen; omega) (by omega) (by simp; omega) _ rfl ?_; intro g1 c1 w5 hown5 hgrow hat hlt5; have T5 : Touch (Value.slice a k c).ownBlock.toList wr w5 := ((Touch.refl _ _).alloc _).grown hgrow (fun j hj => Or.inl (by simp [hj])); have TW : Touch [] w1 w5 := HR.out.2.2.trans T5 (fun j hj => Or.inr (HR.out.2.1.lt j (by simpa using hj)).1); obtain ⟨b, cb, hlook⟩ := (HK.out.keep0 TW).look (by omega); obtain ⟨a6, y6, hl6, hn6⟩ := hlook k hlt; rw [← hy.out] at hl6; have HN := hid (And.intro hn6 (And.intro TW hown5)); clear hlook hn6 TW T5 hgrow hat hown5)
      go_roundw
      case rel => exact ⟨_, k + 1, c1, y6, rfl, rfl, by go_num, by omega, HN.out.1, by rw [HX.out]; exact HN.out.2.2, HN.out.2.1⟩
      case measure => simp [intOf]; omega
    · have e : k = xs.length := by omega
      subst e
      go_wp2
      go_ret
      refine ⟨_, rfl, ?_, HR.out.2.2⟩
      have := HR.out.2.1
      rw [List.take_length] at this
      exact this
theorem newTurns8 (w : World) : Calls Try.prog 40 #[] w fun e w' => e = .returned (PT w.heap.size) ∧ Uq w' w.heap.size [w.heap.size] [] ∧ Touch [] w w' := by
  go_enter Try.func40, Try.ntmps40
  go_wp2
  go_ret
  refine ⟨rfl, ⟨none, rfl, List.nodup_nil, fun x hx => by simp at hx, by simp, 0, 0, heap_alloc_new w _, Or.inl ⟨rfl, rfl⟩⟩, (Touch.refl _ _).alloc _⟩
theorem w64c {k : Int} (h : -1000000 ≤ k ∧ k ≤ 1000000) : W64 k := W64.mk (by omega) (by omega)
end Go.Proofs.Ytmbjjkdocmcpdaa
