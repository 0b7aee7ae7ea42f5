/- The keys that a program names; the conditions: the table holds what the start lays, the program lies in memory. -/
import Derived.Test.YthakboiecdjgnaaDoorCug
import Derived.Test.YthakboiecdjgnaaDoorCnl
namespace Go.Proofs.YthakboiecdjgnaaDoor.Ci
open Go.RowKit Go.Maps Go.ChangeMaps
set_option linter.unusedVariables false
def hasK (d : Dz) : Bool := decide (1 ≤ d.op ∧ d.op ≤ 9) && kKey d.op.toNat
def keysZ (L : List Dz) : List K := (L.filter hasK).map fun d => (d.sp, d.nm)
theorem hasK_iff (d : Dz) : hasK d = (decide (d.op = 1) || decide (d.op = 2) || decide (d.op = 4)) := by
  unfold hasK
  by_cases h : 1 ≤ d.op ∧ d.op ≤ 9
  · rw [decide_eq_true h]
    have h2 : d.op = 1 ∨ d.op = 2 ∨ d.op = 3 ∨ d.op = 4 ∨ d.op = 5 ∨ d.op = 6 ∨ d.op = 7 ∨ d.op = 8 ∨ d.op = 9 := by omega
    rcases h2 with h2 | h2 | h2 | h2 | h2 | h2 | h2 | h2 | h2 <;> rw [h2] <;> rfl
  · rw [decide_eq_false h, decide_eq_false (by omega : ¬ d.op = 1), decide_eq_false (by omega : ¬ d.op = 2), decide_eq_false (by omega : ¬ d.op = 4)]
    rfl
theorem keysZ_snoc (L : List Dz) (j : Nat) (h : j < L.length) : keysZ (L.take (j + 1)) = keysZ (L.take j) ++ (if hasK L[j] then [(L[j].sp, L[j].nm)] else []) := by
  rw [List.take_succ_eq_append_getElem h]
  unfold keysZ
  rw [List.filter_append, List.map_append]
  congr 1
  cases hk : hasK L[j] <;> simp [hk]
theorem keysZ_len (L : List Dz) : (keysZ L).length ≤ L.length := by
  unfold keysZ
  rw [List.length_map]
  exact List.length_filter_le _ _
theorem keysZ_ok {L : List Dz} (h : Oks L) : Un.Oks (keysZ L) := fun x hx => by
  unfold keysZ at hx
  obtain ⟨d, hd, rfl⟩ := List.mem_map.1 hx
  have := h d (List.mem_filter.1 hd).1
  exact ⟨this.sp, this.nm⟩
theorem own_un {w : World} {B : Nat} {v : Value} {xs : List K} (h : w.ownsRow B 45 2 v xs.length (Un.cellsK xs)) : Un.Sl w v xs := by
  obtain ⟨a, c, rfl⟩ := own_form h
  rcases Nat.eq_zero_or_pos xs.length with e | e
  · exact Or.inl ⟨List.length_eq_zero_iff.1 e, a, c, by rw [e]⟩
  · obtain ⟨b, c', e1, _, _⟩ := own_some h e
    cases e1
    exact Or.inr ⟨b, 0, c, rfl, Un.owns_row h⟩
set_option maxRecDepth 20000 in
set_option maxHeartbeats 2000000 in
theorem keys_ (L : List Dz) (a : Option Addr) (c : Nat) (w : World) (hk : Kd w) (hs : Sl w a L) (hw : Oks L) (hl : L.length ≤ 2932031007400) :
    Calls Tryd.prog 16 #[.slice a L.length c] w fun e w' => ∃ v, e = .returned v ∧ Un.Sl w' v (Un.unl [] (keysZ L)) ∧ Touch [] w w' := by
  have HS : Hid (Kd w ∧ Sl w a L ∧ Oks L) := ⟨hk, hs, hw⟩
  clear hk hs hw
  go_enter Tryd.func16, Tryd.ntmps16
  go_wp2
  go_loopw [3, 8] (fun t i wr => ∃ (j : Nat) (A : Option Addr) (C n : Nat), i = .int .i64 j ∧ j ≤ L.length ∧ n ≤ j ∧ t = .slice A n C ∧ Hid (n = (keysZ (L.take j)).length) ∧ Hid (wr.ownsRow w.heap.size 45 2 (.slice A n C) n (Un.cellsK (keysZ (L.take j)))) ∧ Hid (Touch [] w wr)) (fun _ i _ => L.length - (intOf i).toNat)
  case atStart => exact ⟨0, none, 0, 0, rfl, Nat.zero_le _, Nat.le_refl _, rfl, by show (0 : Nat) = _; simp [keysZ], own_nil _ _ _ _, Touch.refl [] _⟩
  case round =>
    obtain ⟨j, A, C, n, rfl, hj, hn, rfl, HN, HO, HG⟩ := hrel
    by_cases hlt : j < L.length
    · have hz : (j : Int) < (L.length : Int) := by omega
      obtain ⟨b, off, rfl, c0, c1, c2, c3, c4⟩ := (HS.out.2.1.touch HG.out) j hlt
      have HK := hid (fun w' (t : Touch [] wr w') => HS.out.1.touch (HG.out.trans' t))
      have HX := hid (keysZ_snoc L j hlt)
      have HI := hid (fun w' => isOp_ L[j].op w')
      have HH : Hid (hasK L[j] = (decide (1 ≤ L[j].op ∧ L[j].op ≤ 9) && kKey L[j].op.toNat)) := rfl
      generalize L[j].op = x0 at *
      generalize L[j].sp = x1 at *
      generalize L[j].nm = x2 at *
      generalize L[j].n = x3 at *
      generalize L[j].sl = x4 at *
      by_cases ho : 1 ≤ x0 ∧ x0 ≤ 9
      · rw [decide_eq_true ho] at HI HH
        obtain ⟨k, rfl⟩ : ∃ k : Nat, x0 = k := ⟨x0.toNat, by omega⟩
        have hk10 : k < 10 := by omega
        have hk3 : (k : Int) < 10 := by omega
        have hk4 : (0 : Int) ≤ (k : Int) := by omega
        have HKK := hid (fun w' (t : Touch [] wr w') => (HK.out w' t).key k hk10)
        have HH2 : Hid (hasK L[j] = kKey k) := HH.out
        clear ho HH
        cases hkk : kKey k with
        | true =>
          rw [hkk] at HKK HH2
          have HX2 : Hid (keysZ (L.take (j + 1)) = keysZ (L.take j) ++ [(x1, x2)]) := by show _ = _; rw [HX.out, HH2.out]; rfl
          clear hkk HX
          go_wp2_with fail
          refine (HI.out _).mono ?_
          rintro e w1 ⟨rfl, t1⟩
          have q0 : w1.cell? ⟨wr.heap.size, 0, none⟩ = some (.int .i64 k) := tcell t1 (by simp)
          have q1 : w1.cell? ⟨wr.heap.size, 1, none⟩ = some (.int .u16 x1) := tcell t1 (by simp)
          have q2 : w1.cell? ⟨wr.heap.size, 2, none⟩ = some (.string x2) := tcell t1 (by simp)
          have qk := HKK.out w1 (((Touch.refl [] wr).alloc _).trans' t1)
          have T1 := hid (((Touch.refl [] wr).alloc (.cells #[.int .i64 k, .int .u16 x1, .string x2, .int .i64 x3, .int .i64 x4] 47)).trans' t1)
          have HO1 := hid (own_touch HO.out T1.out (by simp))
          have HG1 := hid (HG.out.trans' T1.out)
          clear t1 HKK
          go_wp2_with (at_builtin; refine wpList_append_rs rfl _ _ 41 45 rfl _ 2 24 Un.info24 Tryd.underlying41 rfl (by decide) w.heap.size _ n _ rfl (own_touch HO1.out ((Touch.refl [] w1).alloc _) (by simp)) _ 1 [.int .u16 x1, .string x2] rfl (Rs.new w1 #[.int .u16 x1, .string x2] 45 2 rfl) (fun y hy => by simp only [List.mem_cons, List.not_mem_nil, or_false] at hy; rcases hy with rfl | rfl <;> rfl) (by unfold maxLen; omega) (by omega) (Nat.le_trans HG1.out.size (by simp)) ?_; intro v3 w3 o3 g3 n3; obtain ⟨a3, c3', e3⟩ := own_form o3; subst e3)
          have HO3 := hid o3
          have T3 := hid (touch_grown (HG1.out.alloc _) g3 (own_touch HO1.out ((Touch.refl [] w1).alloc _) (by simp)) (Nat.le_refl _))
          clear o3 g3 n3
          go_roundw
          case rel => exact ⟨j + 1, a3, c3', n + 1, by go_num, by omega, by omega, rfl, by show _ = _; rw [HX2.out, List.length_append, ← HN.out]; rfl, by rw [HX2.out, Un.cellsK_app]; exact HO3.out, T3.out⟩
          case measure => simp [intOf]; omega
        | false =>
          rw [hkk] at HKK HH2
          have HX2 : Hid (keysZ (L.take (j + 1)) = keysZ (L.take j)) := by show _ = _; rw [HX.out, HH2.out]; simp
          clear hkk HX
          go_wp2_with fail
          refine (HI.out _).mono ?_
          rintro e w1 ⟨rfl, t1⟩
          have q0 : w1.cell? ⟨wr.heap.size, 0, none⟩ = some (.int .i64 k) := tcell t1 (by simp)
          have qk := HKK.out w1 (((Touch.refl [] wr).alloc _).trans' t1)
          have T1 := hid (((Touch.refl [] wr).alloc (.cells #[.int .i64 k, .int .u16 x1, .string x2, .int .i64 x3, .int .i64 x4] 47)).trans' t1)
          clear t1 HKK
          go_wp2_with fail
          go_roundw
          case rel => exact ⟨j + 1, A, C, n, by go_num, by omega, by omega, rfl, by rw [HX2.out]; exact HN.out, by rw [HX2.out]; exact own_touch HO.out T1.out (by simp), HG.out.trans' T1.out⟩
          case measure => simp [intOf]; omega
      · rw [decide_eq_false ho] at HI HH
        have HX2 : Hid (keysZ (L.take (j + 1)) = keysZ (L.take j)) := by show _ = _; rw [HX.out, HH.out]; simp
        clear ho HX HH
        go_wp2_with fail
        refine (HI.out _).mono ?_
        rintro e w1 ⟨rfl, t1⟩
        have T1 := hid (((Touch.refl [] wr).alloc (.cells #[.int .i64 x0, .int .u16 x1, .string x2, .int .i64 x3, .int .i64 x4] 47)).trans' t1)
        clear t1
        go_wp2_with fail
        go_roundw
        case rel => exact ⟨j + 1, A, C, n, by go_num, by omega, by omega, rfl, by rw [HX2.out]; exact HN.out, by rw [HX2.out]; exact own_touch HO.out T1.out (by simp), HG.out.trans' T1.out⟩
        case measure => simp [intOf]; omega
    · have hz : ¬ (j : Int) < (L.length : Int) := by omega
      have HE2 : Hid (L.take j = L) := List.take_of_length_le (by omega)
      have HU := hid (Un.unlike29 (keysZ L) (.slice A n C) wr (by have := keysZ_len L; omega) (keysZ_ok HS.out.2.2) (own_un (by have h1 := HO.out; have h2 := HN.out; rw [HE2.out] at h1 h2; rw [← h2]; exact h1)))
      go_wp2_with fail
      refine HU.out.mono ?_
      rintro e w6 ⟨v, rfl, h6, b6⟩
      go_wp2_with fail
      go_ret
      exact ⟨_, rfl, h6, HG.out.trans' (Touch.of_below b6)⟩
end Go.Proofs.YthakboiecdjgnaaDoor.Ci
