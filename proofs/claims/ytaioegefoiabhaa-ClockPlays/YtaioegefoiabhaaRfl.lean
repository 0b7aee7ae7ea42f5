/- The law's look whether two rows of rings are the same; the document's Left. -/
import Derived.Test.YtaioegefoiabhaaAwk
import Derived.Deep.QuietTactic
import Derived.BigQuiet
namespace Go.Proofs.Ytaioegefoiabhaa
open Go.RowKit Go.Maps Go.ChangeMaps
set_option linter.unusedVariables false
set_option maxHeartbeats 1000000 in
theorem rings32 (w : World) (B B' : Nat) (a b : Value) (l : List Tm) (ha : RR 45 w B a l) (hb : RR 93 w B' b l) (hl : l.length ≤ 65536) :
    Calls Try.prog 32 #[a, b] w fun e w' => e = .returned (.bool true) ∧ Touch [] w w' := by
  obtain ⟨a1, c1, rfl⟩ := ha.slice
  obtain ⟨a2, c2, rfl⟩ := hb.slice
  have HA := hid ha
  have HB := hid hb
  clear ha hb
  obtain ⟨N, hN⟩ : ∃ N, N = l.length := ⟨_, rfl⟩
  have HN := hid hN
  rw [← hN] at HA HB hl ⊢
  clear hN
  have zl : (N : Int) ≤ 65536 := by omega
  clear hl
  go_enter Try.func32, Try.ntmps32
  go_wp2
  go_loopw [5] (fun i wr => ∃ n : Nat, i = .int .i64 n ∧ n ≤ N ∧ Hid (Touch [] w wr)) (fun i _ => N - (intOf i).toNat)
  case atStart => exact ⟨0, rfl, Nat.zero_le _, Touch.refl _ _⟩
  case round =>
    obtain ⟨n, rfl, hn, HT⟩ := hrel
    by_cases hlt : n < N
    · have zn : (n : Int) < (N : Int) := by omega
      obtain ⟨g, rfl, eN, y0, y1⟩ := (HA.out.keep0 HT.out).cells (k := n) (by have := HN.out; omega)
      obtain ⟨g2, rfl, eN2, u0, u1⟩ := (HB.out.keep0 HT.out).cells (k := n) (by have := HN.out; omega)
      clear eN eN2
      generalize gtT l n = x at *
      go_wp2
      go_quiet (fail)
      go_wp2
      go_roundw
      case rel => exact ⟨n + 1, by go_num, by omega, HT.out.drewN _⟩
      case measure => simp [intOf]; omega
    · have zn : ¬ (n : Int) < (N : Int) := by omega
      go_wp2
      go_ret
      exact ⟨rfl, HT.out⟩
theorem fnd_at {l : List Tm} {k : Int} {i : Nat} (hi : i < l.length) (h : ∀ j, j < i → (gtT l j).it ≠ k) (he : (gtT l i).it = k) : fndT l k = some (gtT l i) := by
  unfold fndT
  rw [List.find?_eq_some_iff_getElem]
  refine ⟨by simpa using he, i, hi, (gtT_eq hi).symm, fun j hj => ?_⟩
  have := h j hj
  rw [gtT_eq (by omega)] at this
  simpa using this
theorem fnd_no {l : List Tm} {k : Int} (h : ∀ j, j < l.length → (gtT l j).it ≠ k) : fndT l k = none := by
  unfold fndT
  rw [List.find?_eq_none]
  intro x hx
  obtain ⟨j, hj, rfl⟩ := List.getElem_of_mem hx
  have := h j hj
  rw [gtT_eq hj] at this
  simpa using this
set_option maxHeartbeats 1000000 in
theorem rleft34 (w : World) (B : Nat) (v : Value) (s : Cs) (k : Int) (h : RR 93 w B v s.T) (ok : Ok s) :
    Calls Try.prog 34 #[.agg #[.int .i64 s.now, v, .int .i64 s.last], .int .i64 k] w fun e w' => e = .returned (.tuple #[.int .i64 (leftN s k), .bool (leftB s k)]) ∧ Touch [] w w' := by
  obtain ⟨a, c, rfl⟩ := h.slice
  have HR : Hid (RR 93 (w.alloc (.cells #[.int .i64 s.now, .slice a s.T.length c, .int .i64 s.last] 28)) B (.slice a s.T.length c) s.T) := h.keep0 ((Touch.refl _ _).alloc _)
  clear h
  have HO := hid ok
  have n0 := ok.n0
  have n1 := ok.n1
  have hl := ok.len
  clear ok
  obtain ⟨N, hN⟩ : ∃ N, N = s.T.length := ⟨_, rfl⟩
  have HN := hid hN
  rw [← hN] at HR hl ⊢
  clear hN
  have zl : (N : Int) ≤ 65536 := by omega
  clear hl
  have HF : Hid (∀ n, n < N → (∀ j, j < n → (gtT s.T j).it ≠ k) → (gtT s.T n).it = k → leftN s k = (gtT s.T n).at_ - s.now ∧ leftB s k = true) := fun n hn h1 h2 => by
    have := fnd_at (l := s.T) (by have := HN.out; omega) h1 h2
    unfold leftN leftB
    rw [this]
    exact ⟨rfl, rfl⟩
  have HG : Hid ((∀ j, j < N → (gtT s.T j).it ≠ k) → leftN s k = 0 ∧ leftB s k = false) := fun h1 => by
    have := fnd_no (l := s.T) (k := k) (fun j hj => h1 j (by have := HN.out; omega))
    unfold leftN leftB
    rw [this]
    exact ⟨rfl, rfl⟩
  have HX : Hid (∀ n, n < N → 0 ≤ (gtT s.T n).at_ ∧ (gtT s.T n).at_ ≤ 4611686018427387904) := fun n hn => by
    have hm := gtT_mem (s := s.T) (i := n) (by have := HN.out; omega)
    have := HO.out.at0 _ hm
    have := HO.out.at1 _ hm
    have := HO.out.n0
    exact ⟨by omega, by omega⟩
  generalize s.now = now at *
  generalize s.last = last at *
  go_enter Try.func34, Try.ntmps34
  go_wp2
  go_loop [6] (fun i => ∃ n : Nat, i = .int .i64 n ∧ n ≤ N ∧ Hid (∀ j, j < n → (gtT s.T j).it ≠ k)) (fun i => N - (intOf i).toNat)
  case atStart => exact ⟨0, rfl, Nat.zero_le _, fun j hj => by omega⟩
  case round =>
    obtain ⟨n, rfl, hn, HK⟩ := hrel
    by_cases hlt : n < N
    · have zn : (n : Int) < (N : Int) := by omega
      obtain ⟨g, rfl, eN, y0, y1⟩ := HR.out.cells (k := n) (by have := HN.out; omega)
      clear eN
      obtain ⟨x0, x1⟩ := HX.out n hlt
      by_cases e : (gtT s.T n).it = k
      · have HV : Hid (leftN s k = (gtT s.T n).at_ - now ∧ leftB s k = true) := HF.out n hlt HK.out e
        have e' : ((gtT s.T n).it == k) = true := by simp [e]
        clear e HF HG HK HX
        generalize gtT s.T n = x at *
        go_wp2
        go_quiet (fail)
        go_wp2
        exact bodyPost_ret (v := .tuple #[.int .i64 (x.at_ - now), .bool true]) (by simp [results, Try.results34, go_sem]) rfl ⟨by rw [HV.out.1, HV.out.2], ((Touch.refl _ _).alloc _).drewN _⟩
      · have e' : ((gtT s.T n).it == k) = false := by simp [e]
        have HN2 : Hid (∀ j, j < n + 1 → (gtT s.T j).it ≠ k) := fun j hj => by
          by_cases ej : j = n
          · subst ej; exact e
          · exact HK.out j (by omega)
        clear e
        generalize gtT s.T n = x at *
        go_wp2
        go_round
        case rel => exact ⟨n + 1, by go_num, by omega, HN2⟩
        case measure => simp [intOf]; omega
    · have zn : ¬ (n : Int) < (N : Int) := by omega
      have HV : Hid (leftN s k = 0 ∧ leftB s k = false) := HG.out (fun j hj => HK.out j (by omega))
      clear HF HG HK HX
      go_wp2
      exact bodyPost_ret (v := .tuple #[.int .i64 0, .bool false]) (by simp [results, Try.results34, go_sem]) rfl ⟨by rw [HV.out.1, HV.out.2], (Touch.refl _ _).alloc _⟩
end Go.Proofs.Ytaioegefoiabhaa
