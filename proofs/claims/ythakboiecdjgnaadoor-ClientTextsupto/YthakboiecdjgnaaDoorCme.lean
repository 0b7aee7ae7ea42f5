/- The steps of a client in memory, and the contracts of its calls: Go, Token, Use, Put; no conditions but those that each states. -/
import Derived.Test.YthakboiecdjgnaaDoorCnl
namespace Go.Proofs.YthakboiecdjgnaaDoor.Ci
open Go.RowKit Go.Maps Go.ChangeMaps
set_option linter.unusedVariables false
set_option linter.unusedSimpArgs false
section
variable {w w' : World} {b : Nat} {pv lv : Value} {S : Cs}
theorem Cq.pvb (h : Cq w b pv lv S) {k : Nat} (hk : pv.ownBlock = some k) : k ≠ b := fun e => by
  obtain ⟨cs, hc⟩ := own_kind h.pr hk
  obtain ⟨cs', hb, _⟩ := h.blk
  rw [e, hb] at hc
  simp at hc
theorem Cq.lvb (h : Cq w b pv lv S) {k : Nat} (hk : lv.ownBlock = some k) : k ≠ b := fun e => by
  obtain ⟨cs, hc⟩ := own_kind h.lg hk
  obtain ⟨cs', hb, _⟩ := h.blk
  rw [e, hb] at hc
  simp at hc
theorem heap_set_ne {w : World} {a : Addr} {v : Value} {k : Nat} (h : k ≠ a.block) : (w.setCell a v).heap[k]? = w.heap[k]? := Below.heap_setCell _ _ _ _ h
theorem Cq.setAt (h : Cq w b pv lv S) {n : Nat} (hn : n ≤ S.L.length) : Cq (w.setCell ⟨b, 1, none⟩ (.int .i64 (n : Nat))) b pv lv { S with at_ := n } := by
  obtain ⟨cs, h1, h2, h3, h4, h5, h6, h7⟩ := h.blk
  refine ⟨⟨_, bset h1 _, by simpa using h2, ?_, ?_, ?_, ?_, ?_⟩, own_keep h.pr (fun k hk => heap_set_ne (h.pvb hk)), own_keep h.lg (fun k hk => heap_set_ne (h.lvb hk)), hn, h.len⟩
  · rw [Array.getElem?_setIfInBounds_ne (by decide)]; exact h3
  · rw [Array.getElem?_setIfInBounds_self_of_lt (by omega)]
  · rw [Array.getElem?_setIfInBounds_ne (by decide)]; exact h5
  · rw [Array.getElem?_setIfInBounds_ne (by decide)]; exact h6
  · intro i j hi hj
    rw [Array.getElem?_setIfInBounds_ne (by omega)]; exact h7 i j hi hj
theorem Cq.setTok (h : Cq w b pv lv S) (n : Int) : Cq (w.setCell ⟨b, 2, none⟩ (.int .i64 n)) b pv lv { S with tok := n } := by
  obtain ⟨cs, h1, h2, h3, h4, h5, h6, h7⟩ := h.blk
  refine ⟨⟨_, bset h1 _, by simpa using h2, ?_, ?_, ?_, ?_, ?_⟩, own_keep h.pr (fun k hk => heap_set_ne (h.pvb hk)), own_keep h.lg (fun k hk => heap_set_ne (h.lvb hk)), h.le, h.len⟩
  · rw [Array.getElem?_setIfInBounds_ne (by decide)]; exact h3
  · rw [Array.getElem?_setIfInBounds_ne (by decide)]; exact h4
  · rw [Array.getElem?_setIfInBounds_self_of_lt (by omega)]
  · rw [Array.getElem?_setIfInBounds_ne (by decide)]; exact h6
  · intro i j hi hj
    rw [Array.getElem?_setIfInBounds_ne (by omega)]; exact h7 i j hi hj
theorem arr9_in (cs : Array Value) (o : Nat) (v0 v1 v2 v3 v4 v5 v6 v7 v8 : Value) (h : o + 8 < cs.size) (j : Nat) (hj : j < 9) : (((((((((cs.setIfInBounds (o) v0).setIfInBounds (o + 1) v1).setIfInBounds (o + 2) v2).setIfInBounds (o + 3) v3).setIfInBounds (o + 4) v4).setIfInBounds (o + 5) v5).setIfInBounds (o + 6) v6).setIfInBounds (o + 7) v7).setIfInBounds (o + 8) v8)[o + j]? = [v0, v1, v2, v3, v4, v5, v6, v7, v8][j]? := by
  match j, hj with
  | 0, _ => simp [Array.getElem?_setIfInBounds]; omega
  | 1, _ => simp [Array.getElem?_setIfInBounds]; omega
  | 2, _ => simp [Array.getElem?_setIfInBounds]; omega
  | 3, _ => simp [Array.getElem?_setIfInBounds]; omega
  | 4, _ => simp [Array.getElem?_setIfInBounds]; omega
  | 5, _ => simp [Array.getElem?_setIfInBounds]; omega
  | 6, _ => simp [Array.getElem?_setIfInBounds]; omega
  | 7, _ => simp [Array.getElem?_setIfInBounds]; omega
  | 8, _ => simp [Array.getElem?_setIfInBounds]; omega
theorem arr9_out (cs : Array Value) (o : Nat) (v0 v1 v2 v3 v4 v5 v6 v7 v8 : Value) (k : Nat) (hk : k < o ∨ o + 8 < k) : (((((((((cs.setIfInBounds (o) v0).setIfInBounds (o + 1) v1).setIfInBounds (o + 2) v2).setIfInBounds (o + 3) v3).setIfInBounds (o + 4) v4).setIfInBounds (o + 5) v5).setIfInBounds (o + 6) v6).setIfInBounds (o + 7) v7).setIfInBounds (o + 8) v8)[k]? = cs[k]? := by
  rw [Array.getElem?_setIfInBounds_ne (by omega), Array.getElem?_setIfInBounds_ne (by omega), Array.getElem?_setIfInBounds_ne (by omega), Array.getElem?_setIfInBounds_ne (by omega), Array.getElem?_setIfInBounds_ne (by omega), Array.getElem?_setIfInBounds_ne (by omega), Array.getElem?_setIfInBounds_ne (by omega), Array.getElem?_setIfInBounds_ne (by omega), Array.getElem?_setIfInBounds_ne (by omega)]
theorem Touch9 {F : List Nat} {w0 w : World} (t : Touch F w0 w) {b : Nat} (hb : b ∈ F) (o : Nat) (v0 v1 v2 v3 v4 v5 v6 v7 v8 : Value) : Touch F w0 (((((((((w.setCell ⟨b, o, none⟩ v0).setCell ⟨b, o + 1, none⟩ v1).setCell ⟨b, o + 2, none⟩ v2).setCell ⟨b, o + 3, none⟩ v3).setCell ⟨b, o + 4, none⟩ v4).setCell ⟨b, o + 5, none⟩ v5).setCell ⟨b, o + 6, none⟩ v6).setCell ⟨b, o + 7, none⟩ v7).setCell ⟨b, o + 8, none⟩ v8) :=
  (((((((((t.setCell (Or.inl hb) _).setCell (Or.inl hb) _).setCell (Or.inl hb) _).setCell (Or.inl hb) _).setCell (Or.inl hb) _).setCell (Or.inl hb) _).setCell (Or.inl hb) _).setCell (Or.inl hb) _).setCell (Or.inl hb) _)
theorem heap9 {w : World} {b o : Nat} {cs : Array Value} {ty : TypeId} (h : w.heap[b]? = some (.cells cs ty (0, 0))) (v0 v1 v2 v3 v4 v5 v6 v7 v8 : Value) : (((((((((w.setCell ⟨b, o, none⟩ v0).setCell ⟨b, o + 1, none⟩ v1).setCell ⟨b, o + 2, none⟩ v2).setCell ⟨b, o + 3, none⟩ v3).setCell ⟨b, o + 4, none⟩ v4).setCell ⟨b, o + 5, none⟩ v5).setCell ⟨b, o + 6, none⟩ v6).setCell ⟨b, o + 7, none⟩ v7).setCell ⟨b, o + 8, none⟩ v8).heap[b]? = some (.cells (((((((((cs.setIfInBounds (o) v0).setIfInBounds (o + 1) v1).setIfInBounds (o + 2) v2).setIfInBounds (o + 3) v3).setIfInBounds (o + 4) v4).setIfInBounds (o + 5) v5).setIfInBounds (o + 6) v6).setIfInBounds (o + 7) v7).setIfInBounds (o + 8) v8) ty (0, 0)) :=
  (bset (bset (bset (bset (bset (bset (bset (bset (bset h _) _) _) _) _) _) _) _) _)
def setSl (S : Cs) (i : Nat) (z : Sz) : Cs := { S with sl := fun j => if j = i then z else S.sl j }
theorem Cq.setSlot (h : Cq w b pv lv S) {i : Nat} (hi : i < 16) (z : Sz) (v0 v1 v2 v3 v4 v5 v6 v7 v8 : Value) (hz : z.cells = [v0, v1, v2, v3, v4, v5, v6, v7, v8]) : Cq (((((((((w.setCell ⟨b, 4 + i * 9, none⟩ v0).setCell ⟨b, 4 + i * 9 + 1, none⟩ v1).setCell ⟨b, 4 + i * 9 + 2, none⟩ v2).setCell ⟨b, 4 + i * 9 + 3, none⟩ v3).setCell ⟨b, 4 + i * 9 + 4, none⟩ v4).setCell ⟨b, 4 + i * 9 + 5, none⟩ v5).setCell ⟨b, 4 + i * 9 + 6, none⟩ v6).setCell ⟨b, 4 + i * 9 + 7, none⟩ v7).setCell ⟨b, 4 + i * 9 + 8, none⟩ v8) b pv lv (setSl S i z) := by
  have T := Touch9 (b := b) (Touch.refl [b] w) (by simp) (4 + i * 9) v0 v1 v2 v3 v4 v5 v6 v7 v8
  have hk : ∀ v : Value, ∀ k, v.ownBlock = some k → k ≠ b → k < w.heap.size → (((((((((w.setCell ⟨b, 4 + i * 9, none⟩ v0).setCell ⟨b, 4 + i * 9 + 1, none⟩ v1).setCell ⟨b, 4 + i * 9 + 2, none⟩ v2).setCell ⟨b, 4 + i * 9 + 3, none⟩ v3).setCell ⟨b, 4 + i * 9 + 4, none⟩ v4).setCell ⟨b, 4 + i * 9 + 5, none⟩ v5).setCell ⟨b, 4 + i * 9 + 6, none⟩ v6).setCell ⟨b, 4 + i * 9 + 7, none⟩ v7).setCell ⟨b, 4 + i * 9 + 8, none⟩ v8).heap[k]? = w.heap[k]? := fun v k _ hn hl => T.block k hl (by simpa using hn)
  obtain ⟨cs, h1, h2, h3, h4, h5, h6, h7⟩ := h.blk
  refine ⟨⟨_, heap9 h1 v0 v1 v2 v3 v4 v5 v6 v7 v8, by simpa using h2, ?_, ?_, ?_, ?_, ?_⟩, own_keep h.pr (fun k e => hk pv k e (h.pvb e) (h.pr.lt k e).2), own_keep h.lg (fun k e => hk lv k e (h.lvb e) (h.lg.lt k e).2), h.le, h.len⟩
  · rw [arr9_out _ _ _ _ _ _ _ _ _ _ _ _ (by omega)]; exact h3
  · rw [arr9_out _ _ _ _ _ _ _ _ _ _ _ _ (by omega)]; exact h4
  · rw [arr9_out _ _ _ _ _ _ _ _ _ _ _ _ (by omega)]; exact h5
  · rw [arr9_out _ _ _ _ _ _ _ _ _ _ _ _ (by omega)]; exact h6
  · intro i' j' hi' hj'
    by_cases e : i' = i
    · subst e
      rw [arr9_in _ _ _ _ _ _ _ _ _ _ _ (by omega) j' hj']
      simp only [setSl, if_pos, hz]
    · rw [arr9_out _ _ _ _ _ _ _ _ _ _ _ _ (by omega)]
      simp only [setSl, if_neg e]
      exact h7 i' j' hi' hj'
def goS (S : Cs) : Cs := if S.at_ < S.L.length then { S with at_ := S.at_ + 1 } else S
theorem go_ (h : Cq w b pv lv S) : Calls Tryd.prog 23 #[.pointer (some ⟨b, 0, none⟩)] w fun e w' => e = .returned (.bool (decide (S.at_ < S.L.length))) ∧ Touch [b] w w' ∧ Cq w' b pv lv (goS S) := by
  have HQ := hid h
  have hb := h.lt
  have hl := h.len
  have HN := hid (next_ w h)
  rcases Nat.lt_or_ge S.at_ S.L.length with hlt | hge
  · have e1 : nextV S = (S.L[S.at_], (S.at_ : Int), true) := by unfold nextV; rw [List.getElem?_eq_getElem hlt]
    have HG : Hid (goS S = { S with at_ := S.at_ + 1 }) := if_pos hlt
    have HLT := hid hlt
    rw [decide_eq_true hlt]
    rw [e1] at HN
    clear h e1
    generalize S.L[S.at_] = d at *
    obtain ⟨y0, y1, y2, y3, y4⟩ := d
    dsimp only at HN
    clear hlt
    have hat : S.at_ ≤ 256 := by have := HLT.out; omega
    go_enter Tryd.func23, Tryd.ntmps23
    go_wp2_with fail
    refine HN.out.mono ?_
    rintro e w1 ⟨rfl, t1⟩
    have T1 := hid t1
    have Q1 := hid (HQ.out.touch t1)
    have q1 := Q1.out.c1
    have qf := Q1.out.fz 1
    have hb1 : b < w1.heap.size := Nat.lt_of_lt_of_le hb t1.size
    clear t1
    obtain ⟨k, hk⟩ : ∃ k, k = S.at_ := ⟨_, rfl⟩
    rw [← hk] at q1 hat
    have HK := hid hk
    clear hk
    go_wp2_with fail
    go_ret
    refine ⟨rfl, (((T1.out.mono (G := [b]) (fun _ e => by cases e)).setCell (Or.inl (by simp)) _).alloc _), ?_⟩
    rw [HG.out]
    have h9 := (Q1.out.setAt (n := k + 1) (by rw [HK.out]; exact HLT.out)).touch ((Touch.refl [] _).alloc (.cells #[.int .i64 y0, .int .u16 y1, .string y2, .int .i64 y3, .int .i64 y4] 47))
    rw [HK.out] at h9 ⊢
    exact h9
  · have e1 : nextV S = (d0, 0, false) := by unfold nextV; rw [List.getElem?_eq_none (by omega)]
    have HG : Hid (goS S = S) := if_neg (by omega)
    rw [decide_eq_false (by omega)]
    rw [e1] at HN
    unfold d0 at HN
    dsimp only at HN
    clear h e1 hge
    go_enter Tryd.func23, Tryd.ntmps23
    go_wp2_with fail
    refine HN.out.mono ?_
    rintro e w1 ⟨rfl, t1⟩
    go_wp2_with fail
    go_ret
    exact ⟨rfl, (t1.mono (G := [b]) (fun _ e => by cases e)).alloc _, by rw [HG.out]; exact HQ.out.touch (t1.alloc _)⟩
theorem token_ (h : Cq w b pv lv S) : Calls Tryd.prog 20 #[.pointer (some ⟨b, 0, none⟩)] w fun e w' => e = .returned (.int .i64 S.tok) ∧ w' = w := by
  have q := h.c2
  clear h
  generalize S.tok = x at *
  go_enter Tryd.func20, Tryd.ntmps20
  go_wp2
  go_ret
  exact ⟨rfl, rfl⟩
theorem use_no (n : Int) (hn : ¬ (0 ≤ n ∧ n ≤ 1024)) (w : World) (b : Nat) : Calls Tryd.prog 24 #[.pointer (some ⟨b, 0, none⟩), .int .i64 n] w fun e w' => e = .returned (.int .i64 1) ∧ w' = w := by
  rcases (by omega : n < 0 ∨ (¬ n < 0 ∧ 1024 < n)) with h1 | ⟨h1, h2⟩
  · clear hn
    go_enter Tryd.func24, Tryd.ntmps24
    go_wp2
    go_ret
    exact ⟨rfl, rfl⟩
  · clear hn
    go_enter Tryd.func24, Tryd.ntmps24
    go_wp2
    go_ret
    exact ⟨rfl, rfl⟩
theorem use_ok (h : Cq w b pv lv S) {n : Int} (h0 : 0 ≤ n) (h1 : n ≤ 1024) : Calls Tryd.prog 24 #[.pointer (some ⟨b, 0, none⟩), .int .i64 n] w fun e w' => e = .returned (.int .i64 0) ∧ Touch [b] w w' ∧ Cq w' b pv lv { S with tok := n } := by
  have q := h.c2
  have f := h.fz 2
  have HQ := hid (h.setTok n)
  have g1 : ¬ n < 0 := by omega
  have g2 : ¬ 1024 < n := by omega
  clear h h0 h1
  go_enter Tryd.func24, Tryd.ntmps24
  go_wp2
  go_ret
  exact ⟨rfl, (Touch.refl [b] w).setCell (Or.inl (by simp)) _, HQ.out⟩
theorem isSlot_ (n : Int) (w : World) : Calls Tryd.prog 43 #[.int .i64 n] w fun e w' => e = .returned (.bool (decide (0 ≤ n ∧ n < 16))) ∧ w' = w := by
  by_cases h1 : 0 ≤ n
  · by_cases h2 : n < 16
    · rw [decide_eq_true ⟨h1, h2⟩]
      go_enter Tryd.func43, Tryd.ntmps43
      go_wp2
      go_ret
      exact ⟨rfl, rfl⟩
    · rw [decide_eq_false (fun h => h2 h.2)]
      go_enter Tryd.func43, Tryd.ntmps43
      go_wp2
      go_ret
      exact ⟨rfl, rfl⟩
  · rw [decide_eq_false (fun h => h1 h.1)]
    go_enter Tryd.func43, Tryd.ntmps43
    go_wp2
    go_ret
    exact ⟨rfl, rfl⟩
theorem put_slot (n c : Int) (hn : ¬ (0 ≤ n ∧ n < 16)) (w : World) (b : Nat) : Calls Tryd.prog 26 #[.pointer (some ⟨b, 0, none⟩), .int .i64 n, .int .i64 c] w fun e w' => e = .returned (.int .i64 211) ∧ w' = w := by
  have HI : Hid (∀ w', Calls Tryd.prog 43 #[.int .i64 n] w' fun e w'' => e = .returned (.bool false) ∧ w'' = w') := fun w' => (isSlot_ n w').mono fun e w'' ⟨he, t⟩ => ⟨by rw [he, decide_eq_false hn], t⟩
  clear hn
  go_enter Tryd.func26, Tryd.ntmps26
  go_wp2_with fail
  refine (HI.out _).mono ?_
  rintro e w1 ⟨rfl, e1⟩
  rw [e1]
  clear e1 w1
  go_wp2_with fail
  go_ret
  exact ⟨rfl, rfl⟩
theorem put_arg (n c : Int) (hn : 0 ≤ n ∧ n < 16) (hc : c < 1) (w : World) (b : Nat) : Calls Tryd.prog 26 #[.pointer (some ⟨b, 0, none⟩), .int .i64 n, .int .i64 c] w fun e w' => e = .returned (.int .i64 1) ∧ w' = w := by
  have HI : Hid (∀ w', Calls Tryd.prog 43 #[.int .i64 n] w' fun e w'' => e = .returned (.bool true) ∧ w'' = w') := fun w' => (isSlot_ n w').mono fun e w'' ⟨he, t⟩ => ⟨by rw [he, decide_eq_true hn], t⟩
  clear hn
  go_enter Tryd.func26, Tryd.ntmps26
  go_wp2_with fail
  refine (HI.out _).mono ?_
  rintro e w1 ⟨rfl, e1⟩
  rw [e1]
  clear e1 w1
  go_wp2_with fail
  go_ret
  exact ⟨rfl, rfl⟩
set_option maxRecDepth 20000 in
theorem put_ok (h : Cq w b pv lv S) (i : Nat) (c : Int) (hi : i < 16) (hc : ¬ c < 1) : Calls Tryd.prog 26 #[.pointer (some ⟨b, 0, none⟩), .int .i64 (i : Nat), .int .i64 c] w fun e w' => e = .returned (.int .i64 0) ∧ Touch [b] w w' ∧ Cq w' b pv lv (setSl S i ⟨c, false, g0⟩) := by
  have HQ := hid (h.setSlot hi ⟨c, false, g0⟩ _ _ _ _ _ _ _ _ _ rfl)
  have HI : Hid (∀ w', Calls Tryd.prog 43 #[.int .i64 (i : Nat)] w' fun e w'' => e = .returned (.bool true) ∧ w'' = w') := fun w' => (isSlot_ i w').mono fun e w'' ⟨he, t⟩ => ⟨by rw [he, decide_eq_true (by omega)], t⟩
  have hz : (i : Int) < 16 := by omega
  have p0 := h.cs (j := 0) hi (by omega) rfl
  have p1 := h.cs (j := 1) hi (by omega) rfl
  have p2 := h.cs (j := 2) hi (by omega) rfl
  have p3 := h.cs (j := 3) hi (by omega) rfl
  have p4 := h.cs (j := 4) hi (by omega) rfl
  have p5 := h.cs (j := 5) hi (by omega) rfl
  have p6 := h.cs (j := 6) hi (by omega) rfl
  have p7 := h.cs (j := 7) hi (by omega) rfl
  have p8 := h.cs (j := 8) hi (by omega) rfl
  rw [Nat.add_zero] at p0
  have f := h.fz
  clear hi h
  go_enter Tryd.func26, Tryd.ntmps26
  go_wp2_with fail
  refine (HI.out _).mono ?_
  rintro e w1 ⟨rfl, e1⟩
  rw [e1]
  clear e1 w1
  go_wp2_with fail
  go_ret
  exact ⟨rfl, Touch9 (b := b) (Touch.refl [b] w) (by simp) _ _ _ _ _ _ _ _ _ _, HQ.out⟩
end
end Go.Proofs.YthakboiecdjgnaaDoor.Ci
