/- The contracts of the document's Has, and of keys at two lists that are the same; there are at most eighty thousand keys. -/
import Derived.Test.YtjcdloijodfpgaaRdr
namespace Go.Proofs.Ytjcdloijodfpgaa
open Go.RowKit Go.Sort Go.Maps Go.ChangeMaps Go.WideMaps
set_option linter.unusedVariables false
set_option linter.unusedSimpArgs false
theorem hs_take_no {xs : List K} {kk : K} {k : Nat} (h : k < xs.length) (hn : ¬ kk ∈ xs.take k) (he : ¬ xs[k] = kk) : ¬ kk ∈ xs.take (k + 1) := by
  rw [List.take_succ_eq_append_getElem h]
  simp only [List.mem_append, List.mem_singleton, not_or]
  exact ⟨hn, fun e => he e.symm⟩
set_option maxHeartbeats 4000000 in
set_option maxRecDepth 100000 in
theorem rhas28 (w : World) (most : Int) (v : Value) (xs : List K) (kk : K) (hl : xs.length ≤ 80000) (h : RK w v xs) :
    Calls Try.prog 28 #[rv most v, kv kk] w fun e w' => e = .returned (.bool (hs xs kk)) ∧ Touch [] w w' := by
  have HK := hid h
  obtain ⟨a, c0, rfl, hc0, hform⟩ := h.form
  have HFm := hid hform
  obtain ⟨V, hV⟩ : ∃ V, V = (w.alloc (.cells #[.int .i64 most, .slice a xs.length c0] 31)).alloc (.cells #[.int .u16 kk.1, .string kk.2] 44) := ⟨_, rfl⟩
  have TV : Hid (Touch [] w V) := by show Touch [] w V; rw [hV]; exact ((Touch.refl _ _).alloc _).alloc _
  have HB0 : Hid (V.heap[w.heap.size]? = some (.cells #[.int .i64 most, .slice a xs.length c0] 31 (0, 0))) := by
    show V.heap[w.heap.size]? = _
    rw [hV]
    exact (Below.heap_alloc _ _ _ (by simp)).trans (heap_alloc_new w _)
  have HB1 : Hid (V.heap[w.heap.size + 1]? = some (.cells #[.int .u16 kk.1, .string kk.2] 44 (0, 0))) := by
    show V.heap[w.heap.size + 1]? = _
    rw [hV]
    have := heap_alloc_new (w.alloc (.cells #[.int .i64 most, .slice a xs.length c0] 31)) (.cells #[.int .u16 kk.1, .string kk.2] 44)
    rwa [World.size_alloc] at this
  clear h hform
  subst hV
  unfold rv kv
  go_enter Try.func28, Try.ntmps28
  go_wp2
  generalize hV : ((w.alloc (.cells #[.int .i64 most, .slice a xs.length c0] 31)).alloc (.cells #[.int .u16 kk.1, .string kk.2] 44)) = V at *
  clear hV
  go_loopw [5] (fun i wr => ∃ (k : Nat), k ≤ xs.length ∧ i = .int .i64 k ∧ Hid (Touch [] V wr ∧ ¬ kk ∈ xs.take k)) (fun i _ => xs.length - (intOf i).toNat)
  case atStart => exact ⟨0, Nat.zero_le _, rfl, Touch.refl _ _, by simp⟩
  case round =>
    obtain ⟨k, hk, rfl, HR⟩ := hrel
    have hb0 := HR.out.1.keep HB0.out (by simp)
    have hb1 := HR.out.1.keep HB1.out (by simp)
    have p0 : wr.cell? ⟨w.heap.size, 1, none⟩ = some (.slice a xs.length c0) := by simp [World.cell?, hb0]
    have p2 : wr.cell? ⟨w.heap.size + 1, 0, none⟩ = some (.int .u16 kk.1) := by simp [World.cell?, hb1]
    have p3 : wr.cell? ⟨w.heap.size + 1, 1, none⟩ = some (.string kk.2) := by simp [World.cell?, hb1]
    clear hb0 hb1
    by_cases hlt : k < xs.length
    · obtain ⟨ga, rfl⟩ := HFm.out k hlt
      have zk : (k : Int) < (xs.length : Int) := by omega
      obtain ⟨r0, r1⟩ := own_cells (HK.out.keep (TV.out.trans' HR.out.1)) k hlt
      by_cases hx : xs[k] = kk
      · have ne := fun w => eqk w xs[k] kk
        have HX := hid (hs_yes (xs := xs) (k := kk) (by rw [← hx]; exact List.getElem_mem hlt))
        rw [decide_eq_true hx] at ne
        unfold kv at ne
        rw [hx] at ne r0 r1
        go_wp2
        go_quiet (fail)
        go_wp2
        go_ret
        exact ⟨by rw [HX.out]; rfl, (TV.out.trans' HR.out.1).drewN _⟩
      · have ne := fun w => eqk w xs[k] kk
        have HX := hid (hs_take_no hlt HR.out.2 hx)
        rw [decide_eq_false hx] at ne
        unfold kv at ne
        generalize xs[k] = y at *
        go_wp2
        go_quiet (fail)
        go_wp2
        go_roundw
        case rel => exact ⟨k + 1, by omega, by go_num, HR.out.1.drewN _, HX.out⟩
        case measure => simp [intOf]; omega
    · obtain rfl : k = xs.length := by omega
      have HX : Hid (hs xs kk = false) := by
        have := HR.out.2
        rw [List.take_length] at this
        exact hs_no this
      go_wp2
      go_ret
      exact ⟨by rw [HX.out]; rfl, TV.out.trans' HR.out.1⟩
/-- A slice of the program's keys tells xs. -/
def PK (w : World) (v : Value) (xs : List K) : Prop := w.ownsRow 0 36 2 v xs.length (cellsK xs)
theorem PK.keep {w w' : World} {v : Value} {xs : List K} (h : PK w v xs) (t : Touch [] w w') : PK w' v xs := own_touch h t (fun _ _ e => by cases e)
theorem PK.form {w : World} {v : Value} {xs : List K} (h : PK w v xs) : ∃ a c, v = .slice a xs.length c ∧ xs.length ≤ c ∧ ∀ k (hk : k < xs.length), ∃ g, a = some ⟨g, 0, none⟩ := by
  obtain ⟨h1, h2 | ⟨g, cap, cur, rfl, hg, hc, hn, r⟩⟩ := h
  · obtain ⟨h2, h3⟩ := h2
    exact ⟨none, 0, by rw [h3]; exact h2, by omega, fun k hk => by omega⟩
  · exact ⟨_, cap, rfl, hn, fun k hk => ⟨g, rfl⟩⟩
set_option maxHeartbeats 4000000 in
set_option maxRecDepth 100000 in
theorem keys27 (w : World) (v v' : Value) (xs : List K) (hl : xs.length ≤ 80000) (h : PK w v xs) (h' : RK w v' xs) :
    Calls Try.prog 27 #[v, v'] w fun e w' => e = .returned (.bool true) ∧ Touch [] w w' := by
  have HK := hid h
  have HK' := hid h'
  obtain ⟨a, c0, rfl, hc0, hform⟩ := h.form
  obtain ⟨a', c0', rfl, hc0', hform'⟩ := h'.form
  have HFm := hid hform
  have HFm' := hid hform'
  clear h hform h' hform'
  go_enter Try.func27, Try.ntmps27
  go_wp2
  go_loopw [5] (fun i wr => ∃ (k : Nat), k ≤ xs.length ∧ i = .int .i64 k ∧ Hid (Touch [] w wr)) (fun i _ => xs.length - (intOf i).toNat)
  case atStart => exact ⟨0, Nat.zero_le _, rfl, Touch.refl _ _⟩
  case round =>
    obtain ⟨k, hk, rfl, HR⟩ := hrel
    by_cases hlt : k < xs.length
    · obtain ⟨ga, rfl⟩ := HFm.out k hlt
      obtain ⟨gb, rfl⟩ := HFm'.out k hlt
      have zk : (k : Int) < (xs.length : Int) := by omega
      have C := fun w2 (t : Touch [] wr w2) => own_cells (HK.out.keep (HR.out.trans' t)) k hlt
      have C' := fun w2 (t : Touch [] wr w2) => own_cells (HK'.out.keep (HR.out.trans' t)) k hlt
      have ne := fun w => neqk w xs[k] xs[k]
      rw [decide_eq_false (fun h => h rfl)] at ne
      have HRf := fun w => hid (ref14 w xs[k])
      unfold kv at ne HRf
      generalize xs[k] = y at *
      have s0 : ∀ w2, Touch [] wr w2 → w2.cell? ⟨ga, k * 2, none⟩ = some (.int .u16 y.1) := fun w2 t => (C w2 t).1
      have s1 : ∀ w2, Touch [] wr w2 → w2.cell? ⟨ga, k * 2 + 1, none⟩ = some (.string y.2) := fun w2 t => (C w2 t).2
      have s2 : ∀ w2, Touch [] wr w2 → w2.cell? ⟨gb, k * 2, none⟩ = some (.int .u16 y.1) := fun w2 t => (C' w2 t).1
      have s3 : ∀ w2, Touch [] wr w2 → w2.cell? ⟨gb, k * 2 + 1, none⟩ = some (.string y.2) := fun w2 t => (C' w2 t).2
      clear C C'
      go_wp2
      go_region_held3 (fun w' => Touch [] wr w') (first | assumption | exact (Touch.refl _ _).drew | exact Touch.refl _ _ | exact Touch.drew (by assumption))
        (first
          | (go_at_call 14; refine (HRf _).out.mono ?_; rintro e w1 ⟨rfl, t1⟩; have T1 : Touch [] wr w1 := Touch.trans' (by assumption) t1; clear t1)
          | fail)
      go_wp2
      go_roundw
      case rel => exact ⟨k + 1, by omega, by go_num, HR.out.trans' T1⟩
      case measure => simp [intOf]; omega
    · obtain rfl : k = xs.length := by omega
      go_wp2
      go_ret
      exact ⟨rfl, HR.out⟩
end Go.Proofs.Ytjcdloijodfpgaa
