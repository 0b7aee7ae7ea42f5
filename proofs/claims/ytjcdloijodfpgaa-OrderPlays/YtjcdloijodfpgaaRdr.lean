/- The contract of the document's Drop; there are at most eighty thousand keys. -/
import Derived.Test.YtjcdloijodfpgaaEqk
namespace Go.Proofs.Ytjcdloijodfpgaa
open Go.RowKit Go.Sort Go.Maps Go.ChangeMaps Go.WideMaps
set_option linter.unusedVariables false
set_option linter.unusedSimpArgs false
/-- A slice of the document's keys tells xs. -/
def RK (w : World) (v : Value) (xs : List K) : Prop := w.ownsRow 0 44 2 v xs.length (cellsK xs)
theorem own_zero {w : World} {base e n k : Nat} {v : Value} {xs : List Value} (h : w.ownsRow base e k v n xs) : w.ownsRow 0 e k v n xs := by
  obtain ⟨h1, h2 | ⟨g, cap, cur, rfl, hg, r⟩⟩ := h
  · exact ⟨h1, Or.inl h2⟩
  · exact ⟨h1, Or.inr ⟨g, cap, cur, rfl, Nat.zero_le _, r⟩⟩
theorem own_base {w : World} {base base' e n k : Nat} {v : Value} {xs : List Value} (h : w.ownsRow base e k v n xs) (hb : base' ≤ base) : w.ownsRow base' e k v n xs := by
  obtain ⟨h1, h2 | ⟨g, cap, cur, rfl, hg, r⟩⟩ := h
  · exact ⟨h1, Or.inl h2⟩
  · exact ⟨h1, Or.inr ⟨g, cap, cur, rfl, Nat.le_trans hb hg, r⟩⟩
theorem RK.nil (w : World) : RK w (.slice none 0 0) [] := World.ownsRow_nil _ _ _ _
theorem RK.keep {w w' : World} {v : Value} {xs : List K} (h : RK w v xs) (t : Touch [] w w') : RK w' v xs := own_touch h t (fun _ _ e => by cases e)
theorem RK.form {w : World} {v : Value} {xs : List K} (h : RK w v xs) : ∃ a c, v = .slice a xs.length c ∧ xs.length ≤ c ∧ ∀ k (hk : k < xs.length), ∃ g, a = some ⟨g, 0, none⟩ := by
  obtain ⟨h1, h2 | ⟨g, cap, cur, rfl, hg, hc, hn, r⟩⟩ := h
  · obtain ⟨h2, h3⟩ := h2
    exact ⟨none, 0, by rw [h3]; exact h2, by omega, fun k hk => by omega⟩
  · exact ⟨_, cap, rfl, hn, fun k hk => ⟨g, rfl⟩⟩
theorem own_cells {w : World} {base e g c : Nat} {xs : List K} (h : w.ownsRow base e 2 (.slice (some ⟨g, 0, none⟩) xs.length c) xs.length (cellsK xs)) (k : Nat) (hk : k < xs.length) : w.cell? ⟨g, k * 2, none⟩ = some (.int .u16 xs[k].1) ∧ w.cell? ⟨g, k * 2 + 1, none⟩ = some (.string xs[k].2) :=
  ⟨own_cell h (cellsK_at0 xs k hk), own_cell h (cellsK_at1 xs k hk)⟩
def rv (most : Int) (v : Value) : Value := .agg #[.int .i64 most, v]
structure RdS (w : World) (most : Int) (v : Value) (kk : K) (wr : World) : Prop where
  b0 : wr.heap[w.heap.size]? = some (.cells #[.int .i64 most, v] 31 (0, 0))
  b1 : wr.heap[w.heap.size + 1]? = some (.cells #[.int .u16 kk.1, .string kk.2] 44 (0, 0))
  b2 : wr.heap[w.heap.size + 1 + 1]? = some (.cells #[.int .i64 0, .slice none 0 0] 31 (0, 0))
  t : Touch [] w wr
  sz : w.heap.size + 3 ≤ wr.heap.size
theorem RdS.keep {w wr wr' : World} {most : Int} {v : Value} {kk : K} {G : List Nat} (h : RdS w most v kk wr) (t : Touch G wr wr') (hG : ∀ k ∈ G, w.heap.size + 3 ≤ k) : RdS w most v kk wr' :=
  ⟨t.keep h.b0 (fun hh => by have := hG _ hh; omega), t.keep h.b1 (fun hh => by have := hG _ hh; omega), t.keep h.b2 (fun hh => by have := hG _ hh; omega), h.t.trans t (fun i hi => Or.inr (by have := hG i hi; omega)), Nat.le_trans h.sz t.size⟩
theorem dr_take_same {xs : List K} {k : Nat} (h : k < xs.length) {kk : K} (he : xs[k] = kk) : dr (xs.take (k + 1)) kk = dr (xs.take k) kk := by
  rw [List.take_succ_eq_append_getElem h]
  unfold dr
  rw [List.filter_append]
  simp [he]
theorem dr_take_other {xs : List K} {k : Nat} (h : k < xs.length) {kk : K} (he : ¬ xs[k] = kk) : dr (xs.take (k + 1)) kk = dr (xs.take k) kk ++ [xs[k]] := by
  rw [List.take_succ_eq_append_getElem h]
  unfold dr
  rw [List.filter_append]
  simp [he]
theorem dr_le (xs : List K) (k : K) : (dr xs k).length ≤ xs.length := List.length_filter_le _ _
def drB (xs : List K) (k : K) : Bool := decide ((dr xs k).length < xs.length)
def RdI (w : World) (most : Int) (v : Value) (xs : List K) (kk : K) (k g c N : Nat) (wr : World) : Prop :=
  RdS w most v kk wr ∧ wr.ownsRow (w.heap.size + 3) 44 2 (.slice (some ⟨g, 0, none⟩) N c) N (cellsK (dr (xs.take k) kk)) ∧ N = (dr (xs.take k) kk).length
theorem RdI.drewN {w : World} {most : Int} {v : Value} {xs : List K} {kk : K} {k g c N : Nat} {wr : World} (h : RdI w most v xs kk k g c N wr) (n : Nat) : RdI w most v xs kk k g c N (wr.drewN n) :=
  ⟨h.1.keep ((Touch.refl [] wr).drewN n) (fun _ e => by cases e), own_keep h.2.1 (fun _ _ => rfl), h.2.2⟩
theorem RdI.le {w : World} {most : Int} {v : Value} {xs : List K} {kk : K} {k g c N : Nat} {wr : World} (h : RdI w most v xs kk k g c N wr) : N ≤ k := by
  rw [h.2.2]
  exact Nat.le_trans (dr_le _ _) (by rw [List.length_take]; omega)
set_option maxHeartbeats 4000000 in
set_option maxRecDepth 100000 in
theorem rdrop25 (w : World) (most : Int) (v : Value) (xs : List K) (kk : K) (hl : xs.length ≤ 80000) (h : RK w v xs) :
    Calls Try.prog 25 #[rv most v, kv kk] w fun e w' => ∃ v', e = .returned (.tuple #[rv most v', .bool (drB xs kk)]) ∧ w'.ownsRow w.heap.size 44 2 v' (dr xs kk).length (cellsK (dr xs kk)) ∧ Touch [] w w' := by
  obtain ⟨i3, hi, hz0, hz1, hz2⟩ := info_parts info44
  have HK := hid h
  obtain ⟨a, c0, rfl, hc0, hform⟩ := h.form
  have HFm := hid hform
  obtain ⟨V, hV⟩ : ∃ V, V = (((w.alloc (.cells #[.int .i64 most, .slice a xs.length c0] 31)).alloc (.cells #[.int .u16 kk.1, .string kk.2] 44)).alloc (.cells #[.int .i64 0, .slice none 0 0] 31)).alloc (.cells #[] 44) := ⟨_, rfl⟩
  have HI : Hid (RdI w most (.slice a xs.length c0) xs kk 0 (w.heap.size + 1 + 1 + 1) 0 0 V) := by
    have z1 : V.heap.size = w.heap.size + 4 := by rw [hV]; simp
    have k3 : V.heap[w.heap.size + 1 + 1 + 1]? = some (.cells #[] 44 (0, 0)) := by
      rw [hV]
      have := heap_alloc_new (((w.alloc (.cells #[.int .i64 most, .slice a xs.length c0] 31)).alloc (.cells #[.int .u16 kk.1, .string kk.2] 44)).alloc (.cells #[.int .i64 0, .slice none 0 0] 31)) (.cells #[] 44)
      rwa [World.size_alloc, World.size_alloc, World.size_alloc] at this
    refine ⟨⟨?_, ?_, ?_, ?_, by omega⟩, ⟨rfl, Or.inr ⟨_, 0, #[], rfl, by omega, k3, Nat.le_refl _, by unfold maxLen; omega, rfl, rfl⟩⟩, rfl⟩
    · rw [hV]
      exact (Below.heap_alloc _ _ _ (by simp; omega)).trans ((Below.heap_alloc _ _ _ (by simp; omega)).trans ((Below.heap_alloc _ _ _ (by simp)).trans (heap_alloc_new w _)))
    · rw [hV]
      have := heap_alloc_new (w.alloc (.cells #[.int .i64 most, .slice a xs.length c0] 31)) (.cells #[.int .u16 kk.1, .string kk.2] 44)
      rw [World.size_alloc] at this
      exact (Below.heap_alloc _ _ _ (by simp)).trans ((Below.heap_alloc _ _ _ (by simp)).trans this)
    · rw [hV]
      have := heap_alloc_new ((w.alloc (.cells #[.int .i64 most, .slice a xs.length c0] 31)).alloc (.cells #[.int .u16 kk.1, .string kk.2] 44)) (.cells #[.int .i64 0, .slice none 0 0] 31)
      rw [World.size_alloc, World.size_alloc] at this
      exact (Below.heap_alloc _ _ _ (by simp)).trans this
    · rw [hV]
      exact ((((Touch.refl _ _).alloc _).alloc _).alloc _).alloc _
  clear h hform
  subst hV
  unfold rv kv
  go_enter Try.func25, Try.ntmps25
  go_wp2
  go_loopw [6, 7] (fun l i wr => ∃ (k g c N : Nat), k ≤ xs.length ∧ l = .slice (some ⟨g, 0, none⟩) N c ∧ i = .int .i64 k ∧ Hid (RdI w most (.slice a xs.length c0) xs kk k g c N wr)) (fun _ i _ => xs.length - (intOf i).toNat)
  case atStart => exact ⟨0, _, 0, 0, Nat.zero_le _, rfl, rfl, HI⟩
  case round =>
    clear HI
    obtain ⟨k, g, c, N, hk, rfl, rfl, HR⟩ := hrel
    have hb0 := HR.out.1.b0
    have hb1 := HR.out.1.b1
    have hb2 := HR.out.1.b2
    have p0 : wr.cell? ⟨w.heap.size, 1, none⟩ = some (.slice a xs.length c0) := by simp [World.cell?, hb0]
    have p2 : wr.cell? ⟨w.heap.size + 1, 0, none⟩ = some (.int .u16 kk.1) := by simp [World.cell?, hb1]
    have p3 : wr.cell? ⟨w.heap.size + 1, 1, none⟩ = some (.string kk.2) := by simp [World.cell?, hb1]
    by_cases hlt : k < xs.length
    · obtain ⟨ga, rfl⟩ := HFm.out k hlt
      have zk : (k : Int) < (xs.length : Int) := by omega
      obtain ⟨r0, r1⟩ := own_cells (HK.out.keep HR.out.1.t) k hlt
      clear hb0 hb1 hb2
      by_cases hx : xs[k] = kk
      · have ne := fun w => neqk w xs[k] kk
        have HX := hid (dr_take_same hlt hx)
        rw [decide_eq_false (fun h => h hx)] at ne
        unfold kv at ne
        rw [hx] at ne r0 r1
        go_wp2
        go_quiet (fail)
        go_wp2
        go_roundw
        case rel =>
          refine ⟨k + 1, g, c, N, by omega, rfl, by go_num, ?_⟩
          have := HR.out.drewN nq
          unfold RdI at *
          rw [HX.out]
          exact this
        case measure => simp [intOf]; omega
      · have ne := fun w => neqk w xs[k] kk
        have HX := hid (dr_take_other hlt hx)
        rw [decide_eq_true (show xs[k] ≠ kk from hx)] at ne
        unfold kv at ne
        have hN := HR.out.le
        generalize xs[k] = y at *
        go_wp2
        go_quiet (fail)
        obtain ⟨V, hV⟩ : ∃ V, V = wr.drewN nq := ⟨_, rfl⟩
        rw [← hV]
        have HV : Hid (RdI w most (.slice (some ⟨ga, 0, none⟩) xs.length c0) xs kk k g c N V) := by rw [hV]; exact HR.out.drewN nq
        have q0 : V.cell? ⟨w.heap.size, 1, none⟩ = some (.slice (some ⟨ga, 0, none⟩) xs.length c0) := by rw [hV]; exact p0
        have q1 : V.cell? ⟨ga, k * 2, none⟩ = some (.int .u16 y.1) := by rw [hV]; exact r0
        have q2 : V.cell? ⟨ga, k * 2 + 1, none⟩ = some (.string y.2) := by rw [hV]; exact r1
        have hVs := HV.out.1.sz
        clear hV HR p0 p2 p3 r0 r1 ne
        go_wp2_with (at_builtin; refine wpList_append_lies _ rfl _ _ 29 rfl (w.heap.size + 3) 44 i3 (.agg #[.int .u16 0, .string ⟨#[]⟩]) 2 24 Try.underlying29 hi hz0 hz1 hz2 rfl (by decide) (.slice (some ⟨g, 0, none⟩) N c) N (cellsK (dr (xs.take k) kk)) rfl (HV.out.2.1.alloc _) ⟨V.heap.size, 0, none⟩ 1 1 [.int .u16 y.1, .string y.2] rfl rfl (cell_two_new _ _ _ _) (by simp [Value.oneCell']) (by decide) (by unfold maxLen; omega) (by omega) (by simp; omega) _ rfl ?_; intro g1 c1 w5 hown5 hgrow hat hlt5; have HO5 := hid hown5; have HG5 := hid hgrow; clear hown5 hgrow hat)
        go_roundw
        case rel =>
          refine ⟨k + 1, g1, c1, N + 1, by omega, rfl, by go_num, HV.out.1.keep (G := (Value.slice (some ⟨g, 0, none⟩) N c).ownBlock.toList) (((Touch.refl _ _).alloc _).grown HG5.out (fun j hj => Or.inl (by simp [hj]))) (fun j hj => (HV.out.2.1.lt j (by simpa using hj)).1), ?_, ?_⟩
          · rw [HX.out, cellsK_app]
            exact HO5.out
          · rw [HX.out, List.length_append, ← HV.out.2.2]; rfl
        case measure => simp [intOf]; omega
    · obtain rfl : k = xs.length := by omega
      have HT : Hid (RdI w most (.slice a xs.length c0) xs kk xs.length g c N wr ∧ N = (dr xs kk).length) := ⟨HR.out, by have := HR.out.2.2; rwa [List.take_length] at this⟩
      have z0 : wr.cell? ⟨w.heap.size, 0, none⟩ = some (.int .i64 most) := by simp [World.cell?, hb0]
      have z1 : wr.frozen? ⟨w.heap.size, 1, none⟩ = false := by simp [World.frozen?, hb0]
      have y0 : wr.cell? ⟨w.heap.size + 1 + 1, 0, none⟩ = some (.int .i64 0) := by simp [World.cell?, hb2]
      have y1 : wr.cell? ⟨w.heap.size + 1 + 1, 1, none⟩ = some (.slice none 0 0) := by simp [World.cell?, hb2]
      have y2 : wr.frozen? ⟨w.heap.size + 1 + 1, 0, none⟩ = false := by simp [World.frozen?, hb2]
      have y3 : wr.frozen? ⟨w.heap.size + 1 + 1, 1, none⟩ = false := by simp [World.frozen?, hb2]
      clear hb0 hb1 hb2 p2 p3 HR
      go_wp2
      refine bodyPost_ret (v := .tuple #[.agg #[.int .i64 most, .slice (some ⟨g, 0, none⟩) N c], .bool (decide (N < xs.length))]) (by simp [results, Try.results25, go_sem, y0, y1]) rfl ⟨.slice (some ⟨g, 0, none⟩) N c, ?_, ?_, ?_⟩
      · unfold drB
        rw [← HT.out.2]
      · have h1 := HT.out.1.2.1
        rw [List.take_length] at h1
        rw [← HT.out.2]
        refine own_base (own_keep h1 (fun b hb => ?_)) (Nat.le_add_right _ 3)
        have := (h1.lt b hb).1
        exact (Below.heap_setCell _ _ _ _ (by show b ≠ w.heap.size + 1 + 1; omega)).trans ((Below.heap_setCell _ _ _ _ (by show b ≠ w.heap.size + 1 + 1; omega)).trans (Below.heap_setCell _ _ _ _ (by show b ≠ w.heap.size; omega)))
      · exact ((HT.out.1.1.t.setCell (Or.inr (Nat.le_refl _)) _).setCell (Or.inr (by show w.heap.size ≤ w.heap.size + 1 + 1; omega)) _).setCell (Or.inr (by show w.heap.size ≤ w.heap.size + 1 + 1; omega)) _
end Go.Proofs.Ytjcdloijodfpgaa
