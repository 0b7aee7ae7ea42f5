/- The contracts of a client's Take; no conditions but those that each states. -/
import Derived.Test.YthakboiecdjgnaaDoorCme
namespace Go.Proofs.YthakboiecdjgnaaDoor.Ci
open Go.RowKit Go.Maps Go.ChangeMaps
set_option linter.unusedVariables false
set_option linter.unusedSimpArgs false
theorem blk7 {W : World} {b t : Nat} {u0 u1 u2 u3 u4 u5 u6 : Value} (h : W.heap[b]? = some (.cells #[u0, u1, u2, u3, u4, u5, u6] t (0, 0))) (v0 v1 v2 v3 v4 v5 v6 : Value) : (((((((W.setCell ⟨b, 0, none⟩ v0).setCell ⟨b, 1, none⟩ v1).setCell ⟨b, 2, none⟩ v2).setCell ⟨b, 3, none⟩ v3).setCell ⟨b, 4, none⟩ v4).setCell ⟨b, 5, none⟩ v5).setCell ⟨b, 6, none⟩ v6).heap[b]? = some (.cells #[v0, v1, v2, v3, v4, v5, v6] t (0, 0)) := by
  simp [World.setCell, Array.getElem?_modify, h]
theorem results3_7 {fn : Func} {p u v : Tmp} (h : fn.results = #[.cell p 60, .tmp u, .tmp v]) (tmps : Array Value) (w : World) {g : Nat} {v0 v1 v2 v3 v4 v5 v6 : Value} {t : TypeId} {fr : Nat × Nat} (hp : tmps.getD p undef = .pointer (some ⟨g, 0, none⟩)) (hb : w.heap[g]? = some (.cells #[v0, v1, v2, v3, v4, v5, v6] t fr)) :
    (results fn tmps).run Tryd.prog w = .ok (.tuple #[.agg #[v0, v1, v2, v3, v4, v5, v6], tmps.getD u undef, tmps.getD v undef]) w := by
  have hp' : tmps[p]?.getD undef = .pointer (some ⟨g, 0, none⟩) := by simpa using hp
  have c0 := cell_at (j := 0) hb rfl
  have c1 := cell_at (j := 1) hb rfl
  have c2 := cell_at (j := 2) hb rfl
  have c3 := cell_at (j := 3) hb rfl
  have c4 := cell_at (j := 4) hb rfl
  have c5 := cell_at (j := 5) hb rfl
  have c6 := cell_at (j := 6) hb rfl
  simp only [results, h]
  simp [hp', asAddr, go_sem, c0, c1, c2, c3, c4, c5, c6]
section
variable {w w' : World} {b : Nat} {pv lv : Value} {S : Cs}
theorem take_slot (n : Int) (hn : ¬ (0 ≤ n ∧ n < 16)) (w : World) (b : Nat) : Calls Tryd.prog 22 #[.pointer (some ⟨b, 0, none⟩), .int .i64 n] w fun e w' => e = .returned (.tuple #[.agg #[.int .i64 0, .int .i64 0, .int .i64 0, .int .i64 0, .int .i64 0, .int .i64 0, .int .i64 0], .int .i64 0, .int .i64 211]) ∧ Touch [] w w' := by
  have HI : Hid (∀ w', Calls Tryd.prog 43 #[.int .i64 n] w' fun e w'' => e = .returned (.bool false) ∧ w'' = w') := fun w' => (isSlot_ n w').mono fun e w'' ⟨he, t⟩ => ⟨by rw [he, decide_eq_false hn], t⟩
  clear hn
  go_enter Tryd.func22, Tryd.ntmps22
  go_wp2_with fail
  refine (HI.out _).mono ?_
  rintro e w1 ⟨rfl, e1⟩
  rw [e1]
  clear e1 w1
  go_wp2_with fail
  exact bodyPost_ret (v := .tuple #[.agg #[.int .i64 0, .int .i64 0, .int .i64 0, .int .i64 0, .int .i64 0, .int .i64 0, .int .i64 0], .int .i64 0, .int .i64 211]) (by simp [results, Tryd.results22, go_sem]) rfl ⟨rfl, (Touch.refl [] w).alloc _⟩
def takN (z : Sz) : Int := if z.fu then 3 else if 0 < z.ca then 2 else 1
theorem Cq.cells9 (h : Cq w b pv lv S) {i : Nat} (hi : i < 16) : w.cell? ⟨b, 4 + i * 9, none⟩ = some (.int .i64 (S.sl i).ca) ∧ w.cell? ⟨b, 4 + i * 9 + 1, none⟩ = some (.bool (S.sl i).fu) ∧ w.cell? ⟨b, 4 + i * 9 + 2, none⟩ = some (.int .i64 (S.sl i).g.pl) ∧ w.cell? ⟨b, 4 + i * 9 + 3, none⟩ = some (.int .i64 (S.sl i).g.ho) ∧ w.cell? ⟨b, 4 + i * 9 + 4, none⟩ = some (.int .i64 (S.sl i).g.va) ∧ w.cell? ⟨b, 4 + i * 9 + 5, none⟩ = some (.int .i64 (S.sl i).g.kd) ∧ w.cell? ⟨b, 4 + i * 9 + 6, none⟩ = some (.int .i64 (S.sl i).g.cd) ∧ w.cell? ⟨b, 4 + i * 9 + 7, none⟩ = some (.int .i64 (S.sl i).g.rn) ∧ w.cell? ⟨b, 4 + i * 9 + 8, none⟩ = some (.int .i64 (S.sl i).g.tm) :=
  ⟨h.cs (j := 0) hi (by omega) rfl, h.cs (j := 1) hi (by omega) rfl, h.cs (j := 2) hi (by omega) rfl, h.cs (j := 3) hi (by omega) rfl, h.cs (j := 4) hi (by omega) rfl, h.cs (j := 5) hi (by omega) rfl, h.cs (j := 6) hi (by omega) rfl, h.cs (j := 7) hi (by omega) rfl, h.cs (j := 8) hi (by omega) rfl⟩
set_option maxRecDepth 20000 in
set_option maxHeartbeats 1000000 in
theorem take_not (h : Cq w b pv lv S) (i : Nat) (hi : i < 16) (hf : (S.sl i).fu = false) : Calls Tryd.prog 22 #[.pointer (some ⟨b, 0, none⟩), .int .i64 (i : Nat)] w fun e w' => e = .returned (.tuple #[.agg #[.int .i64 0, .int .i64 0, .int .i64 0, .int .i64 0, .int .i64 0, .int .i64 0, .int .i64 0], .int .i64 (takN (S.sl i)), .int .i64 0]) ∧ Touch [] w w' := by
  have HI : Hid (∀ w', Calls Tryd.prog 43 #[.int .i64 (i : Nat)] w' fun e w'' => e = .returned (.bool true) ∧ w'' = w') := fun w' => (isSlot_ i w').mono fun e w'' ⟨he, t⟩ => ⟨by rw [he, decide_eq_true (by omega)], t⟩
  have hz : (i : Int) < 16 := by omega
  have hb := h.lt
  obtain ⟨p0, p1, p2, p3, p4, p5, p6, p7, p8⟩ := h.cells9 hi
  rw [hf] at p1
  have HT : Hid (takN (S.sl i) = if 0 < (S.sl i).ca then 2 else 1) := by show _ = _; unfold takN; rw [hf]; rfl
  clear hi h hf
  generalize takN (S.sl i) = tn at *
  generalize S.sl i = z at *
  obtain ⟨ca, fu, ⟨g0', g1, g2, g3, g4, g5, g6⟩⟩ := z
  dsimp only at *
  by_cases hc : 0 < ca
  · have HT2 : Hid (tn = 2) := by show _ = _; rw [HT.out, if_pos hc]
    clear HT
    go_enter Tryd.func22, Tryd.ntmps22
    go_wp2_with fail
    refine (HI.out _).mono ?_
    rintro e w1 ⟨rfl, e1⟩
    rw [e1]
    clear e1 w1
    go_wp2_with fail
    exact bodyPost_ret (v := .tuple #[.agg #[.int .i64 0, .int .i64 0, .int .i64 0, .int .i64 0, .int .i64 0, .int .i64 0, .int .i64 0], .int .i64 2, .int .i64 0]) (by simp [results, Tryd.results22, go_sem]) rfl ⟨by rw [HT2.out], ((Touch.refl [] w).alloc _).alloc _⟩
  · have HT2 : Hid (tn = 1) := by show _ = _; rw [HT.out, if_neg hc]
    clear HT
    go_enter Tryd.func22, Tryd.ntmps22
    go_wp2_with fail
    refine (HI.out _).mono ?_
    rintro e w1 ⟨rfl, e1⟩
    rw [e1]
    clear e1 w1
    go_wp2_with fail
    exact bodyPost_ret (v := .tuple #[.agg #[.int .i64 0, .int .i64 0, .int .i64 0, .int .i64 0, .int .i64 0, .int .i64 0, .int .i64 0], .int .i64 1, .int .i64 0]) (by simp [results, Tryd.results22, go_sem]) rfl ⟨by rw [HT2.out], ((Touch.refl [] w).alloc _).alloc _⟩
set_option maxRecDepth 20000 in
set_option maxHeartbeats 1000000 in
theorem take_full (h : Cq w b pv lv S) (i : Nat) (hi : i < 16) (hf : (S.sl i).fu = true) : Calls Tryd.prog 22 #[.pointer (some ⟨b, 0, none⟩), .int .i64 (i : Nat)] w fun e w' => e = .returned (.tuple #[.agg #[.int .i64 (S.sl i).g.pl, .int .i64 (S.sl i).g.ho, .int .i64 (S.sl i).g.va, .int .i64 (S.sl i).g.kd, .int .i64 (S.sl i).g.cd, .int .i64 (S.sl i).g.rn, .int .i64 (S.sl i).g.tm], .int .i64 3, .int .i64 0]) ∧ Touch [b] w w' ∧ Cq w' b pv lv (setSl S i s0) := by
  have HI : Hid (∀ w', Calls Tryd.prog 43 #[.int .i64 (i : Nat)] w' fun e w'' => e = .returned (.bool true) ∧ w'' = w') := fun w' => (isSlot_ i w').mono fun e w'' ⟨he, t⟩ => ⟨by rw [he, decide_eq_true (by omega)], t⟩
  have hz : (i : Int) < 16 := by omega
  have hb := h.lt
  obtain ⟨p0, p1, p2, p3, p4, p5, p6, p7, p8⟩ := h.cells9 hi
  rw [hf] at p1
  have f := h.fz
  have HQ := hid (h.setSlot hi s0 _ _ _ _ _ _ _ _ _ rfl)
  clear hi h hf
  generalize setSl S i s0 = S2 at *
  generalize S.sl i = z at *
  obtain ⟨ca, fu, ⟨g0', g1, g2, g3, g4, g5, g6⟩⟩ := z
  dsimp only at *
  go_enter Tryd.func22, Tryd.ntmps22
  go_wp2_with fail
  refine (HI.out _).mono ?_
  rintro e w1 ⟨rfl, e1⟩
  rw [e1]
  clear e1 w1
  go_wp2_with fail
  exact bodyPost_ret (v := .tuple #[.agg #[.int .i64 g0', .int .i64 g1, .int .i64 g2, .int .i64 g3, .int .i64 g4, .int .i64 g5, .int .i64 g6], .int .i64 3, .int .i64 0]) (by simp [results, Tryd.results22, go_sem]) rfl ⟨rfl, ((Touch9 (b := b) (Touch.refl [b] w) (by simp) (4 + i * 9) _ _ _ _ _ _ _ _ _).alloc _).alloc _, (HQ.out.touch ((Touch.refl [] _).alloc _)).touch ((Touch.refl [] _).alloc _)⟩
theorem fill_no (n c : Int) (g : Gz) (hn : ¬ (0 ≤ n ∧ n < 16)) (w : World) (b : Nat) : Calls Tryd.prog 27 #[.pointer (some ⟨b, 0, none⟩), .int .i64 n, .int .i64 c, .agg #[.int .i64 g.pl, .int .i64 g.ho, .int .i64 g.va, .int .i64 g.kd, .int .i64 g.cd, .int .i64 g.rn, .int .i64 g.tm]] w fun e w' => e = .returned (.bool false) ∧ Touch [] w w' := by
  have HI : Hid (∀ w', Calls Tryd.prog 43 #[.int .i64 n] w' fun e w'' => e = .returned (.bool false) ∧ w'' = w') := fun w' => (isSlot_ n w').mono fun e w'' ⟨he, t⟩ => ⟨by rw [he, decide_eq_false hn], t⟩
  clear hn
  obtain ⟨g0', g1, g2, g3, g4, g5, g6⟩ := g
  dsimp only
  go_enter Tryd.func27, Tryd.ntmps27
  go_wp2_with fail
  refine (HI.out _).mono ?_
  rintro e w1 ⟨rfl, e1⟩
  rw [e1]
  clear e1 w1
  go_wp2_with fail
  go_ret
  exact ⟨rfl, (Touch.refl [] w).alloc _⟩
set_option maxRecDepth 20000 in
set_option maxHeartbeats 1000000 in
theorem fill_not (h : Cq w b pv lv S) (i : Nat) (c : Int) (g : Gz) (hi : i < 16) (hf : ¬ (1 ≤ c ∧ (S.sl i).ca = c)) : Calls Tryd.prog 27 #[.pointer (some ⟨b, 0, none⟩), .int .i64 (i : Nat), .int .i64 c, .agg #[.int .i64 g.pl, .int .i64 g.ho, .int .i64 g.va, .int .i64 g.kd, .int .i64 g.cd, .int .i64 g.rn, .int .i64 g.tm]] w fun e w' => e = .returned (.bool false) ∧ Touch [] w w' := by
  have HI : Hid (∀ w', Calls Tryd.prog 43 #[.int .i64 (i : Nat)] w' fun e w'' => e = .returned (.bool true) ∧ w'' = w') := fun w' => (isSlot_ i w').mono fun e w'' ⟨he, t⟩ => ⟨by rw [he, decide_eq_true (by omega)], t⟩
  have hz : (i : Int) < 16 := by omega
  have hb := h.lt
  have p0 := (h.cells9 hi).1
  clear hi h
  generalize (S.sl i).ca = ca at *
  obtain ⟨g0', g1, g2, g3, g4, g5, g6⟩ := g
  dsimp only
  by_cases hc : c < 1
  · clear hf
    go_enter Tryd.func27, Tryd.ntmps27
    go_wp2_with fail
    refine (HI.out _).mono ?_
    rintro e w1 ⟨rfl, e1⟩
    rw [e1]
    clear e1 w1
    go_wp2_with fail
    go_ret
    exact ⟨rfl, (Touch.refl [] w).alloc _⟩
  · have hne : (ca != c) = true := by simp; intro e; exact hf ⟨by omega, e⟩
    clear hf
    go_enter Tryd.func27, Tryd.ntmps27
    go_wp2_with fail
    refine (HI.out _).mono ?_
    rintro e w1 ⟨rfl, e1⟩
    rw [e1]
    clear e1 w1
    go_wp2_with fail
    go_ret
    exact ⟨rfl, (Touch.refl [] w).alloc _⟩
end
end Go.Proofs.YthakboiecdjgnaaDoor.Ci
