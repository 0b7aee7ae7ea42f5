/- The document's reading of a text as a recipe; the condition is that the text is not too long. -/
import Derived.Test.YtgjojdlbighoaaaDoorRnb
import Derived.Test.YtgjojdlbighoaaaDoorRch
import Derived.Test.YtgjojdlbighoaaaDoorPrs
namespace Go.Proofs.YtgjojdlbighoaaaDoor
open Go.RowKit Go.Sort
set_option linter.unusedVariables false

theorem num_at_end {s : List UInt8} {e : Nat} {lo hi : Int} (h : e = s.length) : numS s e lo hi = .inl s.length := by unfold numS; rw [if_pos h]
theorem nnnum_none {s : List UInt8} {e : Nat} {lo hi : Int} (h : e ≠ s.length) (hv : numV (wd s (e + 1)) = none) : numS s e lo hi = .inl (e + 1) := by unfold numS; rw [if_neg h, hv]
theorem nnnum_out {s : List UInt8} {e : Nat} {lo hi n : Int} (h : e ≠ s.length) (hv : numV (wd s (e + 1)) = some n) (hr : ¬ (lo ≤ n ∧ n ≤ hi)) : numS s e lo hi = .inl (e + 1) := by
  unfold numS; rw [if_neg h, hv]; simp only []; rw [if_neg hr]
theorem nnnum_in {s : List UInt8} {e : Nat} {lo hi n : Int} (h : e ≠ s.length) (hv : numV (wd s (e + 1)) = some n) (hr : lo ≤ n ∧ n ≤ hi) : numS s e lo hi = .inr (n, e + 1 + (wd s (e + 1)).length) := by
  unfold numS; rw [if_neg h, hv]; simp only []; rw [if_pos hr]
/-- how far the numbers of a step are read -/
def Inn (s : List UInt8) (p k i e : Nat) (a b : Int) : Prop :=
  (i = 0 ∧ e = p + (wd s p).length ∧ a = 0 ∧ b = 0) ∨ (i = 1 ∧ numS s (p + (wd s p).length) (kLa k) (kHa k) = .inr (a, e) ∧ b = 0) ∨ (i = 2 ∧ ∃ e1, numS s (p + (wd s p).length) (kLa k) (kHa k) = .inr (a, e1) ∧ numS s e1 (kLb k) (kHb k) = .inr (b, e))
section
variable {s : List UInt8} {p k i e q : Nat} {a b n : Int}
theorem inn_one (hk : opW (wd s p) = k) (h0 : k ≠ 0) (hn : kNamed k = i) (h : Inn s p k i e a b) : oneS s p = .inr (((k : Int), a, b), e) := by
  unfold oneS
  simp only [hk]
  rw [if_neg h0]
  rcases h with ⟨rfl, rfl, rfl, rfl⟩ | ⟨rfl, h1, rfl⟩ | ⟨rfl, e1, h1, h2⟩
  · rw [if_pos hn]
  · rw [if_neg (by omega), h1]
    simp only []
    rw [if_pos hn]
  · rw [if_neg (by omega), h1]
    simp only []
    rw [if_neg (by omega), h2]
theorem one_none (hk : opW (wd s p) = 0) : oneS s p = .inl p := by
  unfold oneS
  simp [hk]
theorem bad_0 (hk : opW (wd s p) = k) (h0 : k ≠ 0) (hn : kNamed k ≠ 0) (h : Inn s p k 0 e a b) (hb : numS s e (kLa k) (kHa k) = .inl q) : oneS s p = .inl q := by
  rcases h with ⟨_, rfl, rfl, rfl⟩ | ⟨h, _⟩ | ⟨h, _⟩
  · unfold oneS
    simp only [hk]
    rw [if_neg h0, if_neg hn, hb]
  · cases h
  · cases h
theorem bad_1 (hk : opW (wd s p) = k) (h0 : k ≠ 0) (hn : kNamed k = 2) (h : Inn s p k 1 e a b) (hb : numS s e (kLb k) (kHb k) = .inl q) : oneS s p = .inl q := by
  rcases h with ⟨h, _⟩ | ⟨_, h1, rfl⟩ | ⟨h, _⟩
  · cases h
  · unfold oneS
    simp only [hk]
    rw [if_neg h0, if_neg (by omega), h1]
    simp only []
    rw [if_neg (by omega), hb]
  · cases h
theorem next_0 (h : Inn s p k 0 e a b) (hb : numS s e (kLa k) (kHa k) = .inr (n, q)) : Inn s p k 1 q n 0 := by
  rcases h with ⟨_, rfl, rfl, rfl⟩ | ⟨h, _⟩ | ⟨h, _⟩
  · exact Or.inr (Or.inl ⟨rfl, hb, rfl⟩)
  · cases h
  · cases h
theorem next_1 (h : Inn s p k 1 e a b) (hb : numS s e (kLb k) (kHb k) = .inr (n, q)) : Inn s p k 2 q a n := by
  rcases h with ⟨h, _⟩ | ⟨_, h1, rfl⟩ | ⟨h, _⟩
  · cases h
  · exact Or.inr (Or.inr ⟨rfl, e, h1, hb⟩)
  · cases h
theorem inn_0 (h : Inn s p k 0 e a b) : a = 0 ∧ b = 0 := by
  rcases h with ⟨_, _, h⟩ | ⟨h, _⟩ | ⟨h, _⟩
  · exact h
  · cases h
  · cases h
theorem inn_1 (h : Inn s p k 1 e a b) (hp : p ≤ s.length) : b = 0 ∧ I64 a ∧ kLa k ≤ a ∧ a ≤ kHa k := by
  rcases h with ⟨h, _⟩ | ⟨_, h, rfl⟩ | ⟨h, _⟩
  · cases h
  · obtain ⟨_, _, h3, h4, h5, _⟩ := num_end (wd_len s p hp) h
    exact ⟨rfl, h3, h4, h5⟩
  · cases h
end
theorem kn_1 {k : Nat} (h : kNamed k = 1) : kLb k = 0 ∧ kHb k = 0 ∧ 1 ≤ k ∧ k ≤ 12 := by
  unfold kNamed at h
  split at h <;> first | exact ⟨rfl, rfl, by decide, by decide⟩ | (exact absurd h (by decide))
theorem kn_2 {k : Nat} (h : kNamed k = 2) : k = 9 := by
  unfold kNamed at h
  split at h <;> first | rfl | (exact absurd h (by decide))
theorem range_1 {k : Nat} {n : Int} (h : kNamed k = 1) (hn : I64 n) : mayD (k : Int) n 0 = decide (kLa k ≤ n ∧ n ≤ kHa k) := by
  obtain ⟨h1, h2, h3, h4⟩ := kn_1 h
  have hm := may_iff k n 0 h3 h4 hn
  rw [h1, h2] at hm
  by_cases hr : kLa k ≤ n ∧ n ≤ kHa k
  · rw [decide_eq_true hr]
    exact mayD_true (hm.2 ⟨hr, by omega, by omega⟩)
  · rw [decide_eq_false hr]
    exact mayD_false fun h => hr (hm.1 h).1
theorem range_2 {k : Nat} {a n : Int} (h1 : 1 ≤ k) (h2 : k ≤ 12) (ha : I64 a) (hr : kLa k ≤ a ∧ a ≤ kHa k) : mayD (k : Int) a n = decide (kLb k ≤ n ∧ n ≤ kHb k) := by
  have hm := may_iff k a n h1 h2 ha
  by_cases hb : kLb k ≤ n ∧ n ≤ kHb k
  · rw [decide_eq_true hb]
    exact mayD_true (hm.2 ⟨hr, hb⟩)
  · rw [decide_eq_false hb]
    exact mayD_false fun h => hb (hm.1 h).2
theorem B3.set1 {w : World} {b : Nat} {v0 v1 v2 : Value} (h : B3 w b v0 v1 v2) (u : Value) : B3 (w.setCell ⟨b, 1, none⟩ u) b v0 u v2 := by
  refine ⟨by rw [size_set]; exact h.lt, ?_, ?_, ?_, ?_, ?_, ?_⟩
  · rw [sc_off (by decide)]; exact h.c0
  · exact sc_same h.c1
  · rw [sc_off (by decide)]; exact h.c2
  · simp only [World.frozen?_setCell]; exact h.f0
  · simp only [World.frozen?_setCell]; exact h.f1
  · simp only [World.frozen?_setCell]; exact h.f2
theorem B3.set2 {w : World} {b : Nat} {v0 v1 v2 : Value} (h : B3 w b v0 v1 v2) (u : Value) : B3 (w.setCell ⟨b, 2, none⟩ u) b v0 v1 u := by
  refine ⟨by rw [size_set]; exact h.lt, ?_, ?_, ?_, ?_, ?_, ?_⟩
  · rw [sc_off (by decide)]; exact h.c0
  · rw [sc_off (by decide)]; exact h.c1
  · exact sc_same h.c2
  · simp only [World.frozen?_setCell]; exact h.f0
  · simp only [World.frozen?_setCell]; exact h.f1
  · simp only [World.frozen?_setCell]; exact h.f2
theorem next44c (s : ByteArray) (e : Nat) (w : World) (he : e + 1 ≤ s.size) (hs : s.size ≤ 4194304) : Calls Tryd.prog 44 #[.string s, .int .i64 ((e : Int) + 1)] w fun r w' => r = .returned (.string (wB s (e + 1))) ∧ w' = w := by
  have := next44 s (e + 1) w he hs
  simpa using this
theorem cell_three (w : World) (x y z : Value) (t : TypeId) : ∀ j u, [x, y, z][j]? = some u → (w.alloc (.cells #[x, y, z] t)).cell? ((⟨w.heap.size, 0, none⟩ : Addr).add j) = some u := cell_three_new w x y z t
set_option maxRecDepth 20000 in
set_option maxHeartbeats 8000000 in
theorem rparse27 (s : ByteArray) (w : World) (hs : s.size ≤ 4194304) : Calls Tryd.prog 27 #[.string s] w fun e w' => ParE s w w' e := by
  obtain ⟨i0, hi, hz0, hz1, hz2⟩ := info_parts info80
  have hsz : (s.size : Int) ≤ 4194304 := by omega
  by_cases h0 : 0 < s.size
  rotate_left
  · obtain rfl := empty_size (s := s) (by omega)
    clear hs hsz h0
    go_enter Tryd.func27, Tryd.ntmps27
    go_wp2_with fail
    go_ret3
    exact ⟨_, _, [], 0, 0, rfl, sl_nil _ _, Or.inl ⟨rfl, rfl, rfl, rfl⟩, (Gr.refl _).alloc _⟩
  have hne := ne_empty h0
  have hnE := ne_isE h0
  have hsl : s.data.toList.length = s.size := rfl
  have HNe : Hid (s.data.toList ≠ []) := fun h => by rw [h] at hsl; simp at hsl; omega
  have HSL : Hid (s.data.toList.length = s.size) := hsl
  clear hsl
  go_enter Tryd.func27, Tryd.ntmps27
  go_wp2_with fail
  go_loopw [5, 6] (fun v5 v6 wr => ∃ (acc : List Sp) (p m g c : Nat), v5 = .slice (some ⟨g, 0, none⟩) m c ∧ v6 = .int .i64 p ∧ p ≤ s.size ∧ m ≤ p ∧ Hid (m = acc.length) ∧ Hid (After s.data.toList acc p) ∧ Hid (wr.ownsRow w.heap.size 80 3 (.slice (some ⟨g, 0, none⟩) m c) m (cellsP acc)) ∧ Hid (Gr w wr)) (fun _ v6 _ => s.size + 1 - (intOf v6).toNat)
  case atStart => exact ⟨[], 0, 0, w.heap.size, 0, rfl, rfl, Nat.zero_le _, Nat.le_refl _, rfl, after_start _, ⟨rfl, Or.inr ⟨w.heap.size, 0, #[], rfl, Nat.le_refl _, heap_alloc_new w _, Nat.le_refl _, by unfold maxLen; omega, rfl, rfl⟩⟩, (Gr.refl _).alloc _⟩
  case round =>
    obtain ⟨acc, p, m, g, c, rfl, rfl, hp, hmp, HML, HA, HO, HG⟩ := hrel
    have hpz : (p : Int) ≤ (s.size : Int) := by omega
    have hpz0 : (0 : Int) ≤ (p : Int) := by omega
    have HC1 : Hid _ := fun w' => next44 s p w' hp hs
    have HC2 : Hid _ := fun w' => op45 (wB s p) w'
    have hwl := wd_len s.data.toList p (by rw [HSL.out]; exact hp)
    rw [HSL.out, ← wB_size] at hwl
    have HWS : Hid ((wd s.data.toList p).length = (wB s p).size) := (wB_size s p).symm
    rw [wB_list] at HC2
    have hk12 := opW_le (wd s.data.toList p)
    obtain ⟨k, hk⟩ : ∃ k, opW (wd s.data.toList p) = k := ⟨_, rfl⟩
    rw [hk] at HC2 hk12
    have HK : Hid (opW (wd s.data.toList p) = k) := hk
    clear hk
    generalize wB s p = W1 at *
    go_wp2_with fail
    refine Calls.mono (HC1.out _) ?_
    rintro _ w1 ⟨rfl, rfl⟩
    go_wp2_with fail
    refine Calls.mono (HC2.out _) ?_
    rintro _ w2 ⟨rfl, rfl⟩
    clear HC1 HC2
    by_cases hk0 : k = 0
    · have HB : Hid (Ps s.data.toList 0 (.inl p)) := HA.out.bad (one_none (by rw [HK.out, hk0]))
      subst hk0
      go_wp2_with fail
      go_ret3
      exact ⟨none, 0, [], p, 80, rfl, sl_nil _ _, Or.inr ⟨HNe.out, Or.inl ⟨HB.out, rfl, rfl⟩⟩, HG.out.alloc _⟩
    have hk0b : ((k : Int) == 0) = false := by
      have : (k : Int) ≠ 0 := by omega
      simpa using this
    have hk0z : ¬ (k : Int) = 0 := by omega
    have HK1 : Hid (k ≠ 0 ∧ 1 ≤ k ∧ k ≤ 12) := ⟨hk0, by omega, hk12⟩
    have hnm2 := named_le k
    clear hk0 hk12
    rcases (by omega : kNamed k = 0 ∨ kNamed k = 1 ∨ kNamed k = 2) with hn | hn | hn
    · have HC3 : Hid (∀ w', Calls Tryd.prog 41 #[.int .i64 k] w' fun e w1 => e = .returned (.tuple #[.string (kWord k), .int .i64 0]) ∧ w1 = w') := fun w' => by
        have h := word41 k HK1.out.2.1 HK1.out.2.2 w'
        rw [hn] at h
        exact h
      have HNK : Hid (kNamed k = 0) := hn
      clear hn hnm2
      generalize kWord k = kw at *
      go_wp2_with fail
      refine Calls.mono (HC3.out _) ?_
      rintro _ w3 ⟨rfl, rfl⟩
      clear HC3
      have HB0 : Hid (B3 (w2.alloc (.cells #[.int .i64 k, .int .i64 0, .int .i64 0] 80)) w2.heap.size (.int .i64 k) (.int .i64 0) (.int .i64 0)) := b3_new w2 _ _ _ _
      have hadd : ((p + W1.size : Nat) : Int) = (p : Int) + (W1.size : Int) := by omega
      have hle : (p : Int) + (W1.size : Int) ≤ (s.size : Int) := by omega
      go_wp2_with fail
      go_loopw [6, 11] (fun v6 v11 wr => ∃ (e i : Nat) (a b : Int), v6 = .int .i64 e ∧ v11 = .int .i64 i ∧ i ≤ 0 ∧ e ≤ s.size ∧ p ≤ e ∧ Hid (Inn s.data.toList p k i e a b) ∧ Hid (B3 wr w2.heap.size (.int .i64 k) (.int .i64 a) (.int .i64 b)) ∧ Hid (Gr w2 wr)) (fun _ v11 _ => 0 - (intOf v11).toNat)
      case atStart => exact ⟨p + W1.size, 0, 0, 0, by rw [hadd], rfl, Nat.zero_le _, hwl, by omega, Or.inl ⟨rfl, by rw [HWS.out], rfl, rfl⟩, HB0.out, (Gr.refl _).alloc _⟩
      case round =>
        obtain ⟨e, i, a, b, rfl, rfl, hin, hes, hpe, HI, HB, HQ⟩ := hrel
        have hez : (e : Int) ≤ (s.size : Int) := by omega
        have hez0 : (0 : Int) ≤ (e : Int) := by omega
        by_cases hlt : i < 0
        · omega
        · have hlz : ¬ (i : Int) < 0 := by omega
          obtain rfl : i = 0 := by omega
          have HOne : Hid (oneS s.data.toList p = .inr (((k : Int), a, b), e)) := inn_one HK.out HK1.out.1 HNK.out HI.out
          have hown2 := owns_gr HO.out HQ.out
          have HGq : Hid (Gr w wr) := HG.out.trans HQ.out
          have hsz2 := HGq.out.size
          have b0 := HB.out.c0
          have b1 := HB.out.c1
          have b2 := HB.out.c2
          clear HI HB
          have HML4 : Hid (m + 1 = (acc ++ [((k : Int), a, b)]).length) := by show _ = _; rw [List.length_append, HML.out]; rfl
          by_cases hE : e = s.size
          · have HD : Hid (Ps s.data.toList 0 (.inr (acc ++ [((k : Int), a, b)]))) := HA.out.done HOne.out (by rw [HSL.out]; exact hE)
            subst hE
            by_cases hbig : 256 < m + 1
            · have hbz : (256 : Int) < (m : Int) + 1 := by omega
              go_wp2_with (at_builtin; refine wpList_append_lies _ rfl _ _ 35 rfl w.heap.size 80 i0 (.agg #[.int .i64 0, .int .i64 0, .int .i64 0]) 3 24 Tryd.underlying35 hi hz0 hz1 hz2 rfl (by decide) _ _ _ rfl (hown2.alloc _) ⟨wr.heap.size, 0, none⟩ 1 1 [.int .i64 k, .int .i64 a, .int .i64 b] rfl rfl (cell_three wr (.int .i64 k) (.int .i64 a) (.int .i64 b) 80) (by simp [Value.oneCell']) (by decide) (by unfold maxLen; omega) (by omega) (by simp; omega) _ rfl ?_; intro g1 c1 w4 hown3 hgrow hat hlt3)
              have HG4 : Hid (Gr w w4) := Below.grown (HGq.out.alloc _) hgrow (by simp; omega) (fun j hj => by
                have h1 := owns_base hown2
                have h2 : some g = some j := hj
                cases h2
                exact h1)
              have HO4 : Hid (w4.ownsRow w.heap.size 80 3 (.slice (some ⟨g1, 0, none⟩) (m + 1) c1) (m + 1) (cellsP (acc ++ [((k : Int), a, b)]))) := by
                show World.ownsRow _ _ _ _ _ _ _
                rw [cellsP_app]
                exact hown3
              clear hown3 hgrow hat hlt3 hown2 b0 b1 b2
              go_ret3
              exact ⟨none, 0, [], 256, 3, rfl, sl_nil _ _, Or.inr ⟨HNe.out, Or.inr (Or.inl ⟨_, HD.out, by rw [← HML4.out]; exact hbig, rfl, rfl, rfl⟩)⟩, HG4.out⟩
            · have hbz : ¬ (256 : Int) < (m : Int) + 1 := by omega
              go_wp2_with (at_builtin; refine wpList_append_lies _ rfl _ _ 35 rfl w.heap.size 80 i0 (.agg #[.int .i64 0, .int .i64 0, .int .i64 0]) 3 24 Tryd.underlying35 hi hz0 hz1 hz2 rfl (by decide) _ _ _ rfl (hown2.alloc _) ⟨wr.heap.size, 0, none⟩ 1 1 [.int .i64 k, .int .i64 a, .int .i64 b] rfl rfl (cell_three wr (.int .i64 k) (.int .i64 a) (.int .i64 b) 80) (by simp [Value.oneCell']) (by decide) (by unfold maxLen; omega) (by omega) (by simp; omega) _ rfl ?_; intro g1 c1 w4 hown3 hgrow hat hlt3)
              have HG4 : Hid (Gr w w4) := Below.grown (HGq.out.alloc _) hgrow (by simp; omega) (fun j hj => by
                have h1 := owns_base hown2
                have h2 : some g = some j := hj
                cases h2
                exact h1)
              have HO4 : Hid (w4.ownsRow w.heap.size 80 3 (.slice (some ⟨g1, 0, none⟩) (m + 1) c1) (m + 1) (cellsP (acc ++ [((k : Int), a, b)]))) := by
                show World.ownsRow _ _ _ _ _ _ _
                rw [cellsP_app]
                exact hown3
              clear hown3 hgrow hat hlt3 hown2 b0 b1 b2
              go_ret3
              refine ⟨some ⟨g1, 0, none⟩, c1, acc ++ [((k : Int), a, b)], 0, 0, by rw [← HML4.out]; rfl, ?_, Or.inr ⟨HNe.out, Or.inr (Or.inr ⟨HD.out, by rw [← HML4.out]; omega, rfl, rfl⟩)⟩, HG4.out⟩
              have h1 := HO4.out
              rw [HML4.out] at h1
              exact owns_sl h1
          · have hEb : ((e : Int) == (s.size : Int)) = false := by
              have : (e : Int) ≠ (s.size : Int) := by omega
              simpa using this
            have hEz : ¬ (e : Int) = (s.size : Int) := by omega
            have HAN : Hid (After s.data.toList (acc ++ [((k : Int), a, b)]) (e + 1)) := HA.out.next HOne.out (by rw [HSL.out]; exact hE)
            go_wp2_with (at_builtin; refine wpList_append_lies _ rfl _ _ 35 rfl w.heap.size 80 i0 (.agg #[.int .i64 0, .int .i64 0, .int .i64 0]) 3 24 Tryd.underlying35 hi hz0 hz1 hz2 rfl (by decide) _ _ _ rfl (hown2.alloc _) ⟨wr.heap.size, 0, none⟩ 1 1 [.int .i64 k, .int .i64 a, .int .i64 b] rfl rfl (cell_three wr (.int .i64 k) (.int .i64 a) (.int .i64 b) 80) (by simp [Value.oneCell']) (by decide) (by unfold maxLen; omega) (by omega) (by simp; omega) _ rfl ?_; intro g1 c1 w4 hown3 hgrow hat hlt3)
            have HG4 : Hid (Gr w w4) := Below.grown (HGq.out.alloc _) hgrow (by simp; omega) (fun j hj => by
              have h1 := owns_base hown2
              have h2 : some g = some j := hj
              cases h2
              exact h1)
            have HO4 : Hid (w4.ownsRow w.heap.size 80 3 (.slice (some ⟨g1, 0, none⟩) (m + 1) c1) (m + 1) (cellsP (acc ++ [((k : Int), a, b)]))) := by
              show World.ownsRow _ _ _ _ _ _ _
              rw [cellsP_app]
              exact hown3
            clear hown3 hgrow hat hlt3 hown2 b0 b1 b2
            go_roundw
            case rel => exact ⟨acc ++ [((k : Int), a, b)], e + 1, m + 1, g1, c1, by first | rfl | simp, by go_num, by omega, by omega, HML4.out, HAN.out, HO4.out, HG4.out⟩
            case measure => simp [intOf]; omega

    · have HC3 : Hid (∀ w', Calls Tryd.prog 41 #[.int .i64 k] w' fun e w1 => e = .returned (.tuple #[.string (kWord k), .int .i64 1]) ∧ w1 = w') := fun w' => by
        have h := word41 k HK1.out.2.1 HK1.out.2.2 w'
        rw [hn] at h
        exact h
      have HNK : Hid (kNamed k = 1) := hn
      clear hn hnm2
      generalize kWord k = kw at *
      go_wp2_with fail
      refine Calls.mono (HC3.out _) ?_
      rintro _ w3 ⟨rfl, rfl⟩
      clear HC3
      have HB0 : Hid (B3 (w2.alloc (.cells #[.int .i64 k, .int .i64 0, .int .i64 0] 80)) w2.heap.size (.int .i64 k) (.int .i64 0) (.int .i64 0)) := b3_new w2 _ _ _ _
      have hadd : ((p + W1.size : Nat) : Int) = (p : Int) + (W1.size : Int) := by omega
      have hle : (p : Int) + (W1.size : Int) ≤ (s.size : Int) := by omega
      go_wp2_with fail
      go_loopw [6, 11] (fun v6 v11 wr => ∃ (e i : Nat) (a b : Int), v6 = .int .i64 e ∧ v11 = .int .i64 i ∧ i ≤ 1 ∧ e ≤ s.size ∧ p ≤ e ∧ Hid (Inn s.data.toList p k i e a b) ∧ Hid (B3 wr w2.heap.size (.int .i64 k) (.int .i64 a) (.int .i64 b)) ∧ Hid (Gr w2 wr)) (fun _ v11 _ => 1 - (intOf v11).toNat)
      case atStart => exact ⟨p + W1.size, 0, 0, 0, by rw [hadd], rfl, Nat.zero_le _, hwl, by omega, Or.inl ⟨rfl, by rw [HWS.out], rfl, rfl⟩, HB0.out, (Gr.refl _).alloc _⟩
      case round =>
        obtain ⟨e, i, a, b, rfl, rfl, hin, hes, hpe, HI, HB, HQ⟩ := hrel
        have hez : (e : Int) ≤ (s.size : Int) := by omega
        have hez0 : (0 : Int) ≤ (e : Int) := by omega
        by_cases hlt : i < 1
        · obtain rfl : i = 0 := by omega
          by_cases hE : e = s.size
          · have HBd : Hid (Ps s.data.toList 0 (.inl s.size)) := HA.out.bad (bad_0 HK.out HK1.out.1 (by rw [HNK.out]; decide) HI.out (by rw [num_at_end (by rw [HSL.out]; exact hE), HSL.out]))
            subst hE
            go_wp2_with fail
            go_ret3
            exact ⟨none, 0, [], s.size, 80, rfl, sl_nil _ _, Or.inr ⟨HNe.out, Or.inl ⟨HBd.out, rfl, rfl⟩⟩, HG.out.trans HQ.out⟩
          have hEb : ((e : Int) == (s.size : Int)) = false := by
            have : (e : Int) ≠ (s.size : Int) := by omega
            simpa using this
          have hEz : ¬ (e : Int) = (s.size : Int) := by omega
          have HEL : Hid (e ≠ s.data.toList.length) := by show e ≠ _; rw [HSL.out]; exact hE
          have HC4 : Hid _ := fun w' => next44c s e w' (by omega) hs
          have hwl2 := wd_len s.data.toList (e + 1) (by rw [HSL.out]; omega)
          rw [HSL.out, ← wB_size] at hwl2
          have HC5 : Hid _ := fun w' => number46 (wB s (e + 1)) w' (by omega)
          have HWV : Hid ((wB s (e + 1)).data.toList = wd s.data.toList (e + 1)) := wB_list s (e + 1)
          have HWL : Hid ((wd s.data.toList (e + 1)).length = (wB s (e + 1)).size) := (wB_size s (e + 1)).symm
          clear hE
          generalize wB s (e + 1) = W2 at *
          obtain ⟨rfl, rfl⟩ := inn_0 HI.out
          go_wp2_with fail
          refine Calls.mono (HC4.out _) ?_
          rintro _ w5 ⟨rfl, rfl⟩
          go_wp2_with fail
          refine Calls.mono (HC5.out _) ?_
          rintro _ w6 ⟨⟨n, ok, rfl, hnum⟩, hg6⟩
          have HNu : Hid (NumOf W2 n ok) := hnum
          have HB6 : Hid _ := HB.out.gr hg6
          have HQ6 : Hid (Gr w2 w6) := HQ.out.trans hg6
          clear HC4 HC5 hnum hg6
          have c0 := HB6.out.c0
          have c1 := HB6.out.c1
          have c2 := HB6.out.c2
          have d0 := HB6.out.f0
          have d1 := HB6.out.f1
          have d2 := HB6.out.f2
          have HBn : Hid _ := HB6.out.set1 (.int .i64 n)
          have HQn : Hid (Gr w2 (w6.setCell ⟨w2.heap.size, 1, none⟩ (.int .i64 n))) := HQ6.out.setCell (Nat.le_refl _) _
          cases ok with
          | false =>
            have HBd : Hid (Ps s.data.toList 0 (.inl (e + 1))) := HA.out.bad (bad_0 HK.out HK1.out.1 (by rw [HNK.out]; decide) HI.out (nnnum_none HEL.out (by rw [← HWV.out]; exact HNu.out.2.2 rfl)))
            go_wp2_with fail
            go_ret3
            exact ⟨none, 0, [], e + 1, 80, rfl, sl_nil _ _, Or.inr ⟨HNe.out, Or.inl ⟨HBd.out, rfl, rfl⟩⟩, HG.out.trans HQn.out⟩
          | true =>
            have HV : Hid (numV (wd s.data.toList (e + 1)) = some n) := by show _ = _; rw [← HWV.out]; exact HNu.out.2.1 rfl
            have HIn : Hid (I64 n) := HNu.out.1
            clear HNu
            have HM : Hid _ := fun w' => may29 k n 0 w'
            have HMD : Hid (mayD k n 0 = decide ((kLa k) ≤ n ∧ n ≤ (kHa k))) := range_1 HNK.out HIn.out
            by_cases hr : (kLa k) ≤ n ∧ n ≤ (kHa k)
            · rw [HMD.out, decide_eq_true hr] at HM
              have HNx : Hid (Inn s.data.toList p k 1 (e + 1 + (wd s.data.toList (e + 1)).length) n 0) := next_0 HI.out (nnnum_in HEL.out HV.out hr)
              go_wp2_with fail
              obtain ⟨_, x0, x1, x2, _, _, _⟩ := HBn.out
              go_wp2_with fail
              refine Calls.mono (HM.out _) ?_
              rintro _ w7 ⟨rfl, hg7⟩
              have HB7 : Hid _ := HBn.out.gr hg7
              have HQ7 : Hid (Gr w2 w7) := HQn.out.trans hg7
              clear hg7
              go_wp2_with fail
              go_roundw
              case rel => exact ⟨e + 1 + W2.size, 1, n, 0, by go_num, by go_num, by omega, hwl2, by omega, (by have h9 := HNx.out; rw [HWL.out] at h9; exact h9), HB7.out, HQ7.out⟩
              case measure => simp [intOf]
            · have HBd : Hid (Ps s.data.toList 0 (.inl (e + 1))) := HA.out.bad (bad_0 HK.out HK1.out.1 (by rw [HNK.out]; decide) HI.out (nnnum_out HEL.out HV.out hr))
              rw [HMD.out, decide_eq_false hr] at HM
              go_wp2_with fail
              obtain ⟨_, x0, x1, x2, _, _, _⟩ := HBn.out
              go_wp2_with fail
              refine Calls.mono (HM.out _) ?_
              rintro _ w7 ⟨rfl, hg7⟩
              have HQ7 : Hid (Gr w2 w7) := HQn.out.trans hg7
              clear hg7
              go_wp2_with fail
              go_ret3
              exact ⟨none, 0, [], e + 1, 80, rfl, sl_nil _ _, Or.inr ⟨HNe.out, Or.inl ⟨HBd.out, rfl, rfl⟩⟩, HG.out.trans HQ7.out⟩
        · have hlz : ¬ (i : Int) < 1 := by omega
          obtain rfl : i = 1 := by omega
          have HOne : Hid (oneS s.data.toList p = .inr (((k : Int), a, b), e)) := inn_one HK.out HK1.out.1 HNK.out HI.out
          have hown2 := owns_gr HO.out HQ.out
          have HGq : Hid (Gr w wr) := HG.out.trans HQ.out
          have hsz2 := HGq.out.size
          have b0 := HB.out.c0
          have b1 := HB.out.c1
          have b2 := HB.out.c2
          clear HI HB
          have HML4 : Hid (m + 1 = (acc ++ [((k : Int), a, b)]).length) := by show _ = _; rw [List.length_append, HML.out]; rfl
          by_cases hE : e = s.size
          · have HD : Hid (Ps s.data.toList 0 (.inr (acc ++ [((k : Int), a, b)]))) := HA.out.done HOne.out (by rw [HSL.out]; exact hE)
            subst hE
            by_cases hbig : 256 < m + 1
            · have hbz : (256 : Int) < (m : Int) + 1 := by omega
              go_wp2_with (at_builtin; refine wpList_append_lies _ rfl _ _ 35 rfl w.heap.size 80 i0 (.agg #[.int .i64 0, .int .i64 0, .int .i64 0]) 3 24 Tryd.underlying35 hi hz0 hz1 hz2 rfl (by decide) _ _ _ rfl (hown2.alloc _) ⟨wr.heap.size, 0, none⟩ 1 1 [.int .i64 k, .int .i64 a, .int .i64 b] rfl rfl (cell_three wr (.int .i64 k) (.int .i64 a) (.int .i64 b) 80) (by simp [Value.oneCell']) (by decide) (by unfold maxLen; omega) (by omega) (by simp; omega) _ rfl ?_; intro g1 c1 w4 hown3 hgrow hat hlt3)
              have HG4 : Hid (Gr w w4) := Below.grown (HGq.out.alloc _) hgrow (by simp; omega) (fun j hj => by
                have h1 := owns_base hown2
                have h2 : some g = some j := hj
                cases h2
                exact h1)
              have HO4 : Hid (w4.ownsRow w.heap.size 80 3 (.slice (some ⟨g1, 0, none⟩) (m + 1) c1) (m + 1) (cellsP (acc ++ [((k : Int), a, b)]))) := by
                show World.ownsRow _ _ _ _ _ _ _
                rw [cellsP_app]
                exact hown3
              clear hown3 hgrow hat hlt3 hown2 b0 b1 b2
              go_ret3
              exact ⟨none, 0, [], 256, 3, rfl, sl_nil _ _, Or.inr ⟨HNe.out, Or.inr (Or.inl ⟨_, HD.out, by rw [← HML4.out]; exact hbig, rfl, rfl, rfl⟩)⟩, HG4.out⟩
            · have hbz : ¬ (256 : Int) < (m : Int) + 1 := by omega
              go_wp2_with (at_builtin; refine wpList_append_lies _ rfl _ _ 35 rfl w.heap.size 80 i0 (.agg #[.int .i64 0, .int .i64 0, .int .i64 0]) 3 24 Tryd.underlying35 hi hz0 hz1 hz2 rfl (by decide) _ _ _ rfl (hown2.alloc _) ⟨wr.heap.size, 0, none⟩ 1 1 [.int .i64 k, .int .i64 a, .int .i64 b] rfl rfl (cell_three wr (.int .i64 k) (.int .i64 a) (.int .i64 b) 80) (by simp [Value.oneCell']) (by decide) (by unfold maxLen; omega) (by omega) (by simp; omega) _ rfl ?_; intro g1 c1 w4 hown3 hgrow hat hlt3)
              have HG4 : Hid (Gr w w4) := Below.grown (HGq.out.alloc _) hgrow (by simp; omega) (fun j hj => by
                have h1 := owns_base hown2
                have h2 : some g = some j := hj
                cases h2
                exact h1)
              have HO4 : Hid (w4.ownsRow w.heap.size 80 3 (.slice (some ⟨g1, 0, none⟩) (m + 1) c1) (m + 1) (cellsP (acc ++ [((k : Int), a, b)]))) := by
                show World.ownsRow _ _ _ _ _ _ _
                rw [cellsP_app]
                exact hown3
              clear hown3 hgrow hat hlt3 hown2 b0 b1 b2
              go_ret3
              refine ⟨some ⟨g1, 0, none⟩, c1, acc ++ [((k : Int), a, b)], 0, 0, by rw [← HML4.out]; rfl, ?_, Or.inr ⟨HNe.out, Or.inr (Or.inr ⟨HD.out, by rw [← HML4.out]; omega, rfl, rfl⟩)⟩, HG4.out⟩
              have h1 := HO4.out
              rw [HML4.out] at h1
              exact owns_sl h1
          · have hEb : ((e : Int) == (s.size : Int)) = false := by
              have : (e : Int) ≠ (s.size : Int) := by omega
              simpa using this
            have hEz : ¬ (e : Int) = (s.size : Int) := by omega
            have HAN : Hid (After s.data.toList (acc ++ [((k : Int), a, b)]) (e + 1)) := HA.out.next HOne.out (by rw [HSL.out]; exact hE)
            go_wp2_with (at_builtin; refine wpList_append_lies _ rfl _ _ 35 rfl w.heap.size 80 i0 (.agg #[.int .i64 0, .int .i64 0, .int .i64 0]) 3 24 Tryd.underlying35 hi hz0 hz1 hz2 rfl (by decide) _ _ _ rfl (hown2.alloc _) ⟨wr.heap.size, 0, none⟩ 1 1 [.int .i64 k, .int .i64 a, .int .i64 b] rfl rfl (cell_three wr (.int .i64 k) (.int .i64 a) (.int .i64 b) 80) (by simp [Value.oneCell']) (by decide) (by unfold maxLen; omega) (by omega) (by simp; omega) _ rfl ?_; intro g1 c1 w4 hown3 hgrow hat hlt3)
            have HG4 : Hid (Gr w w4) := Below.grown (HGq.out.alloc _) hgrow (by simp; omega) (fun j hj => by
              have h1 := owns_base hown2
              have h2 : some g = some j := hj
              cases h2
              exact h1)
            have HO4 : Hid (w4.ownsRow w.heap.size 80 3 (.slice (some ⟨g1, 0, none⟩) (m + 1) c1) (m + 1) (cellsP (acc ++ [((k : Int), a, b)]))) := by
              show World.ownsRow _ _ _ _ _ _ _
              rw [cellsP_app]
              exact hown3
            clear hown3 hgrow hat hlt3 hown2 b0 b1 b2
            go_roundw
            case rel => exact ⟨acc ++ [((k : Int), a, b)], e + 1, m + 1, g1, c1, by first | rfl | simp, by go_num, by omega, by omega, HML4.out, HAN.out, HO4.out, HG4.out⟩
            case measure => simp [intOf]; omega

    · have HC3 : Hid (∀ w', Calls Tryd.prog 41 #[.int .i64 k] w' fun e w1 => e = .returned (.tuple #[.string (kWord k), .int .i64 2]) ∧ w1 = w') := fun w' => by
        have h := word41 k HK1.out.2.1 HK1.out.2.2 w'
        rw [hn] at h
        exact h
      have HNK : Hid (kNamed k = 2) := hn
      clear hn hnm2
      generalize kWord k = kw at *
      go_wp2_with fail
      refine Calls.mono (HC3.out _) ?_
      rintro _ w3 ⟨rfl, rfl⟩
      clear HC3
      have HB0 : Hid (B3 (w2.alloc (.cells #[.int .i64 k, .int .i64 0, .int .i64 0] 80)) w2.heap.size (.int .i64 k) (.int .i64 0) (.int .i64 0)) := b3_new w2 _ _ _ _
      have hadd : ((p + W1.size : Nat) : Int) = (p : Int) + (W1.size : Int) := by omega
      have hle : (p : Int) + (W1.size : Int) ≤ (s.size : Int) := by omega
      go_wp2_with fail
      go_loopw [6, 11] (fun v6 v11 wr => ∃ (e i : Nat) (a b : Int), v6 = .int .i64 e ∧ v11 = .int .i64 i ∧ i ≤ 2 ∧ e ≤ s.size ∧ p ≤ e ∧ Hid (Inn s.data.toList p k i e a b) ∧ Hid (B3 wr w2.heap.size (.int .i64 k) (.int .i64 a) (.int .i64 b)) ∧ Hid (Gr w2 wr)) (fun _ v11 _ => 2 - (intOf v11).toNat)
      case atStart => exact ⟨p + W1.size, 0, 0, 0, by rw [hadd], rfl, Nat.zero_le _, hwl, by omega, Or.inl ⟨rfl, by rw [HWS.out], rfl, rfl⟩, HB0.out, (Gr.refl _).alloc _⟩
      case round =>
        obtain ⟨e, i, a, b, rfl, rfl, hin, hes, hpe, HI, HB, HQ⟩ := hrel
        have hez : (e : Int) ≤ (s.size : Int) := by omega
        have hez0 : (0 : Int) ≤ (e : Int) := by omega
        by_cases hlt : i < 2
        · rcases (by omega : i = 0 ∨ i = 1) with rfl | rfl
          · by_cases hE : e = s.size
            · have HBd : Hid (Ps s.data.toList 0 (.inl s.size)) := HA.out.bad (bad_0 HK.out HK1.out.1 (by rw [HNK.out]; decide) HI.out (by rw [num_at_end (by rw [HSL.out]; exact hE), HSL.out]))
              subst hE
              go_wp2_with fail
              go_ret3
              exact ⟨none, 0, [], s.size, 80, rfl, sl_nil _ _, Or.inr ⟨HNe.out, Or.inl ⟨HBd.out, rfl, rfl⟩⟩, HG.out.trans HQ.out⟩
            have hEb : ((e : Int) == (s.size : Int)) = false := by
              have : (e : Int) ≠ (s.size : Int) := by omega
              simpa using this
            have hEz : ¬ (e : Int) = (s.size : Int) := by omega
            have HEL : Hid (e ≠ s.data.toList.length) := by show e ≠ _; rw [HSL.out]; exact hE
            have HC4 : Hid _ := fun w' => next44c s e w' (by omega) hs
            have hwl2 := wd_len s.data.toList (e + 1) (by rw [HSL.out]; omega)
            rw [HSL.out, ← wB_size] at hwl2
            have HC5 : Hid _ := fun w' => number46 (wB s (e + 1)) w' (by omega)
            have HWV : Hid ((wB s (e + 1)).data.toList = wd s.data.toList (e + 1)) := wB_list s (e + 1)
            have HWL : Hid ((wd s.data.toList (e + 1)).length = (wB s (e + 1)).size) := (wB_size s (e + 1)).symm
            clear hE
            generalize wB s (e + 1) = W2 at *
            obtain ⟨rfl, rfl⟩ := inn_0 HI.out
            go_wp2_with fail
            refine Calls.mono (HC4.out _) ?_
            rintro _ w5 ⟨rfl, rfl⟩
            go_wp2_with fail
            refine Calls.mono (HC5.out _) ?_
            rintro _ w6 ⟨⟨n, ok, rfl, hnum⟩, hg6⟩
            have HNu : Hid (NumOf W2 n ok) := hnum
            have HB6 : Hid _ := HB.out.gr hg6
            have HQ6 : Hid (Gr w2 w6) := HQ.out.trans hg6
            clear HC4 HC5 hnum hg6
            have c0 := HB6.out.c0
            have c1 := HB6.out.c1
            have c2 := HB6.out.c2
            have d0 := HB6.out.f0
            have d1 := HB6.out.f1
            have d2 := HB6.out.f2
            have HBn : Hid _ := HB6.out.set1 (.int .i64 n)
            have HQn : Hid (Gr w2 (w6.setCell ⟨w2.heap.size, 1, none⟩ (.int .i64 n))) := HQ6.out.setCell (Nat.le_refl _) _
            cases ok with
            | false =>
              have HBd : Hid (Ps s.data.toList 0 (.inl (e + 1))) := HA.out.bad (bad_0 HK.out HK1.out.1 (by rw [HNK.out]; decide) HI.out (nnnum_none HEL.out (by rw [← HWV.out]; exact HNu.out.2.2 rfl)))
              go_wp2_with fail
              go_ret3
              exact ⟨none, 0, [], e + 1, 80, rfl, sl_nil _ _, Or.inr ⟨HNe.out, Or.inl ⟨HBd.out, rfl, rfl⟩⟩, HG.out.trans HQn.out⟩
            | true =>
              have HV : Hid (numV (wd s.data.toList (e + 1)) = some n) := by show _ = _; rw [← HWV.out]; exact HNu.out.2.1 rfl
              have HIn : Hid (I64 n) := HNu.out.1
              clear HNu
              have HL9 : Hid (kLa k = 0 ∧ kHa k = 3) := by show _ ∧ _; rw [kn_2 HNK.out]; exact ⟨rfl, rfl⟩
              by_cases hr1 : 0 ≤ n
              · by_cases hr2 : n ≤ 3
                · have HNx : Hid (Inn s.data.toList p k 1 (e + 1 + (wd s.data.toList (e + 1)).length) n 0) := next_0 HI.out (nnnum_in HEL.out HV.out (by rw [HL9.out.1, HL9.out.2]; exact ⟨hr1, hr2⟩))
                  go_wp2_with fail
                  go_roundw
                  case rel => exact ⟨e + 1 + W2.size, 1, n, 0, by go_num, by go_num, by omega, hwl2, by omega, (by have h9 := HNx.out; rw [HWL.out] at h9; exact h9), HBn.out, HQn.out⟩
                  case measure => simp [intOf]
                · have HBd : Hid (Ps s.data.toList 0 (.inl (e + 1))) := HA.out.bad (bad_0 HK.out HK1.out.1 (by rw [HNK.out]; decide) HI.out (nnnum_out HEL.out HV.out (by rw [HL9.out.1, HL9.out.2]; omega)))
                  have hr2d : decide (n ≤ 3) = false := decide_eq_false hr2
                  go_wp2_with fail
                  go_ret3
                  exact ⟨none, 0, [], e + 1, 80, rfl, sl_nil _ _, Or.inr ⟨HNe.out, Or.inl ⟨HBd.out, rfl, rfl⟩⟩, HG.out.trans HQn.out⟩
              · have HBd : Hid (Ps s.data.toList 0 (.inl (e + 1))) := HA.out.bad (bad_0 HK.out HK1.out.1 (by rw [HNK.out]; decide) HI.out (nnnum_out HEL.out HV.out (by rw [HL9.out.1, HL9.out.2]; omega)))
                go_wp2_with fail
                go_ret3
                exact ⟨none, 0, [], e + 1, 80, rfl, sl_nil _ _, Or.inr ⟨HNe.out, Or.inl ⟨HBd.out, rfl, rfl⟩⟩, HG.out.trans HQn.out⟩
          · by_cases hE : e = s.size
            · have HBd : Hid (Ps s.data.toList 0 (.inl s.size)) := HA.out.bad (bad_1 HK.out HK1.out.1 HNK.out HI.out (by rw [num_at_end (by rw [HSL.out]; exact hE), HSL.out]))
              subst hE
              go_wp2_with fail
              go_ret3
              exact ⟨none, 0, [], s.size, 80, rfl, sl_nil _ _, Or.inr ⟨HNe.out, Or.inl ⟨HBd.out, rfl, rfl⟩⟩, HG.out.trans HQ.out⟩
            have hEb : ((e : Int) == (s.size : Int)) = false := by
              have : (e : Int) ≠ (s.size : Int) := by omega
              simpa using this
            have hEz : ¬ (e : Int) = (s.size : Int) := by omega
            have HEL : Hid (e ≠ s.data.toList.length) := by show e ≠ _; rw [HSL.out]; exact hE
            have HC4 : Hid _ := fun w' => next44c s e w' (by omega) hs
            have hwl2 := wd_len s.data.toList (e + 1) (by rw [HSL.out]; omega)
            rw [HSL.out, ← wB_size] at hwl2
            have HC5 : Hid _ := fun w' => number46 (wB s (e + 1)) w' (by omega)
            have HWV : Hid ((wB s (e + 1)).data.toList = wd s.data.toList (e + 1)) := wB_list s (e + 1)
            have HWL : Hid ((wd s.data.toList (e + 1)).length = (wB s (e + 1)).size) := (wB_size s (e + 1)).symm
            clear hE
            generalize wB s (e + 1) = W2 at *
            have HA1 : Hid _ := inn_1 HI.out (by rw [HSL.out]; exact hp)
            obtain rfl := HA1.out.1
            go_wp2_with fail
            refine Calls.mono (HC4.out _) ?_
            rintro _ w5 ⟨rfl, rfl⟩
            go_wp2_with fail
            refine Calls.mono (HC5.out _) ?_
            rintro _ w6 ⟨⟨n, ok, rfl, hnum⟩, hg6⟩
            have HNu : Hid (NumOf W2 n ok) := hnum
            have HB6 : Hid _ := HB.out.gr hg6
            have HQ6 : Hid (Gr w2 w6) := HQ.out.trans hg6
            clear HC4 HC5 hnum hg6
            have c0 := HB6.out.c0
            have c1 := HB6.out.c1
            have c2 := HB6.out.c2
            have d0 := HB6.out.f0
            have d1 := HB6.out.f1
            have d2 := HB6.out.f2
            have HBn : Hid _ := HB6.out.set2 (.int .i64 n)
            have HQn : Hid (Gr w2 (w6.setCell ⟨w2.heap.size, 2, none⟩ (.int .i64 n))) := HQ6.out.setCell (Nat.le_refl _) _
            cases ok with
            | false =>
              have HBd : Hid (Ps s.data.toList 0 (.inl (e + 1))) := HA.out.bad (bad_1 HK.out HK1.out.1 HNK.out HI.out (nnnum_none HEL.out (by rw [← HWV.out]; exact HNu.out.2.2 rfl)))
              go_wp2_with fail
              go_ret3
              exact ⟨none, 0, [], e + 1, 80, rfl, sl_nil _ _, Or.inr ⟨HNe.out, Or.inl ⟨HBd.out, rfl, rfl⟩⟩, HG.out.trans HQn.out⟩
            | true =>
              have HV : Hid (numV (wd s.data.toList (e + 1)) = some n) := by show _ = _; rw [← HWV.out]; exact HNu.out.2.1 rfl
              have HIn : Hid (I64 n) := HNu.out.1
              clear HNu
              have HM : Hid _ := fun w' => may29 k a n w'
              have HMD : Hid (mayD k a n = decide ((kLb k) ≤ n ∧ n ≤ (kHb k))) := range_2 HK1.out.2.1 HK1.out.2.2 HA1.out.2.1 HA1.out.2.2
              by_cases hr : (kLb k) ≤ n ∧ n ≤ (kHb k)
              · rw [HMD.out, decide_eq_true hr] at HM
                have HNx : Hid (Inn s.data.toList p k 2 (e + 1 + (wd s.data.toList (e + 1)).length) a n) := next_1 HI.out (nnnum_in HEL.out HV.out hr)
                go_wp2_with fail
                obtain ⟨_, x0, x1, x2, _, _, _⟩ := HBn.out
                go_wp2_with fail
                refine Calls.mono (HM.out _) ?_
                rintro _ w7 ⟨rfl, hg7⟩
                have HB7 : Hid _ := HBn.out.gr hg7
                have HQ7 : Hid (Gr w2 w7) := HQn.out.trans hg7
                clear hg7
                go_wp2_with fail
                go_roundw
                case rel => exact ⟨e + 1 + W2.size, 2, a, n, by go_num, by go_num, by omega, hwl2, by omega, (by have h9 := HNx.out; rw [HWL.out] at h9; exact h9), HB7.out, HQ7.out⟩
                case measure => simp [intOf]
              · have HBd : Hid (Ps s.data.toList 0 (.inl (e + 1))) := HA.out.bad (bad_1 HK.out HK1.out.1 HNK.out HI.out (nnnum_out HEL.out HV.out hr))
                rw [HMD.out, decide_eq_false hr] at HM
                go_wp2_with fail
                obtain ⟨_, x0, x1, x2, _, _, _⟩ := HBn.out
                go_wp2_with fail
                refine Calls.mono (HM.out _) ?_
                rintro _ w7 ⟨rfl, hg7⟩
                have HQ7 : Hid (Gr w2 w7) := HQn.out.trans hg7
                clear hg7
                go_wp2_with fail
                go_ret3
                exact ⟨none, 0, [], e + 1, 80, rfl, sl_nil _ _, Or.inr ⟨HNe.out, Or.inl ⟨HBd.out, rfl, rfl⟩⟩, HG.out.trans HQ7.out⟩
        · have hlz : ¬ (i : Int) < 2 := by omega
          obtain rfl : i = 2 := by omega
          have HOne : Hid (oneS s.data.toList p = .inr (((k : Int), a, b), e)) := inn_one HK.out HK1.out.1 HNK.out HI.out
          have hown2 := owns_gr HO.out HQ.out
          have HGq : Hid (Gr w wr) := HG.out.trans HQ.out
          have hsz2 := HGq.out.size
          have b0 := HB.out.c0
          have b1 := HB.out.c1
          have b2 := HB.out.c2
          clear HI HB
          have HML4 : Hid (m + 1 = (acc ++ [((k : Int), a, b)]).length) := by show _ = _; rw [List.length_append, HML.out]; rfl
          by_cases hE : e = s.size
          · have HD : Hid (Ps s.data.toList 0 (.inr (acc ++ [((k : Int), a, b)]))) := HA.out.done HOne.out (by rw [HSL.out]; exact hE)
            subst hE
            by_cases hbig : 256 < m + 1
            · have hbz : (256 : Int) < (m : Int) + 1 := by omega
              go_wp2_with (at_builtin; refine wpList_append_lies _ rfl _ _ 35 rfl w.heap.size 80 i0 (.agg #[.int .i64 0, .int .i64 0, .int .i64 0]) 3 24 Tryd.underlying35 hi hz0 hz1 hz2 rfl (by decide) _ _ _ rfl (hown2.alloc _) ⟨wr.heap.size, 0, none⟩ 1 1 [.int .i64 k, .int .i64 a, .int .i64 b] rfl rfl (cell_three wr (.int .i64 k) (.int .i64 a) (.int .i64 b) 80) (by simp [Value.oneCell']) (by decide) (by unfold maxLen; omega) (by omega) (by simp; omega) _ rfl ?_; intro g1 c1 w4 hown3 hgrow hat hlt3)
              have HG4 : Hid (Gr w w4) := Below.grown (HGq.out.alloc _) hgrow (by simp; omega) (fun j hj => by
                have h1 := owns_base hown2
                have h2 : some g = some j := hj
                cases h2
                exact h1)
              have HO4 : Hid (w4.ownsRow w.heap.size 80 3 (.slice (some ⟨g1, 0, none⟩) (m + 1) c1) (m + 1) (cellsP (acc ++ [((k : Int), a, b)]))) := by
                show World.ownsRow _ _ _ _ _ _ _
                rw [cellsP_app]
                exact hown3
              clear hown3 hgrow hat hlt3 hown2 b0 b1 b2
              go_ret3
              exact ⟨none, 0, [], 256, 3, rfl, sl_nil _ _, Or.inr ⟨HNe.out, Or.inr (Or.inl ⟨_, HD.out, by rw [← HML4.out]; exact hbig, rfl, rfl, rfl⟩)⟩, HG4.out⟩
            · have hbz : ¬ (256 : Int) < (m : Int) + 1 := by omega
              go_wp2_with (at_builtin; refine wpList_append_lies _ rfl _ _ 35 rfl w.heap.size 80 i0 (.agg #[.int .i64 0, .int .i64 0, .int .i64 0]) 3 24 Tryd.underlying35 hi hz0 hz1 hz2 rfl (by decide) _ _ _ rfl (hown2.alloc _) ⟨wr.heap.size, 0, none⟩ 1 1 [.int .i64 k, .int .i64 a, .int .i64 b] rfl rfl (cell_three wr (.int .i64 k) (.int .i64 a) (.int .i64 b) 80) (by simp [Value.oneCell']) (by decide) (by unfold maxLen; omega) (by omega) (by simp; omega) _ rfl ?_; intro g1 c1 w4 hown3 hgrow hat hlt3)
              have HG4 : Hid (Gr w w4) := Below.grown (HGq.out.alloc _) hgrow (by simp; omega) (fun j hj => by
                have h1 := owns_base hown2
                have h2 : some g = some j := hj
                cases h2
                exact h1)
              have HO4 : Hid (w4.ownsRow w.heap.size 80 3 (.slice (some ⟨g1, 0, none⟩) (m + 1) c1) (m + 1) (cellsP (acc ++ [((k : Int), a, b)]))) := by
                show World.ownsRow _ _ _ _ _ _ _
                rw [cellsP_app]
                exact hown3
              clear hown3 hgrow hat hlt3 hown2 b0 b1 b2
              go_ret3
              refine ⟨some ⟨g1, 0, none⟩, c1, acc ++ [((k : Int), a, b)], 0, 0, by rw [← HML4.out]; rfl, ?_, Or.inr ⟨HNe.out, Or.inr (Or.inr ⟨HD.out, by rw [← HML4.out]; omega, rfl, rfl⟩)⟩, HG4.out⟩
              have h1 := HO4.out
              rw [HML4.out] at h1
              exact owns_sl h1
          · have hEb : ((e : Int) == (s.size : Int)) = false := by
              have : (e : Int) ≠ (s.size : Int) := by omega
              simpa using this
            have hEz : ¬ (e : Int) = (s.size : Int) := by omega
            have HAN : Hid (After s.data.toList (acc ++ [((k : Int), a, b)]) (e + 1)) := HA.out.next HOne.out (by rw [HSL.out]; exact hE)
            go_wp2_with (at_builtin; refine wpList_append_lies _ rfl _ _ 35 rfl w.heap.size 80 i0 (.agg #[.int .i64 0, .int .i64 0, .int .i64 0]) 3 24 Tryd.underlying35 hi hz0 hz1 hz2 rfl (by decide) _ _ _ rfl (hown2.alloc _) ⟨wr.heap.size, 0, none⟩ 1 1 [.int .i64 k, .int .i64 a, .int .i64 b] rfl rfl (cell_three wr (.int .i64 k) (.int .i64 a) (.int .i64 b) 80) (by simp [Value.oneCell']) (by decide) (by unfold maxLen; omega) (by omega) (by simp; omega) _ rfl ?_; intro g1 c1 w4 hown3 hgrow hat hlt3)
            have HG4 : Hid (Gr w w4) := Below.grown (HGq.out.alloc _) hgrow (by simp; omega) (fun j hj => by
              have h1 := owns_base hown2
              have h2 : some g = some j := hj
              cases h2
              exact h1)
            have HO4 : Hid (w4.ownsRow w.heap.size 80 3 (.slice (some ⟨g1, 0, none⟩) (m + 1) c1) (m + 1) (cellsP (acc ++ [((k : Int), a, b)]))) := by
              show World.ownsRow _ _ _ _ _ _ _
              rw [cellsP_app]
              exact hown3
            clear hown3 hgrow hat hlt3 hown2 b0 b1 b2
            go_roundw
            case rel => exact ⟨acc ++ [((k : Int), a, b)], e + 1, m + 1, g1, c1, by first | rfl | simp, by go_num, by omega, by omega, HML4.out, HAN.out, HO4.out, HG4.out⟩
            case measure => simp [intOf]; omega

end Go.Proofs.YtgjojdlbighoaaaDoor
