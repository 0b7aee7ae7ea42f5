/- The contracts of Advance and Leap of a clock. -/
import Derived.Test.YtaioegefoiabhaaGot
namespace Go.Proofs.Ytaioegefoiabhaa
open Go.RowKit Go.Maps Go.ChangeMaps
set_option linter.unusedVariables false
/-- A row of rings and a word beside it, and how the clock stands. -/
def AdE (e : Ending) (w w' : World) (c : Nat) (F : List Nat) (s : Cs) (R : List Tm) (x : Value) : Prop := ∃ a n m, e = .returned (.tuple #[.slice a n m, x]) ∧ RR 45 w' w.heap.size (.slice a n m) R ∧ Nx w w' c F s
section
variable (w : World) (c : Nat) (F : List Nat) (s : Cs) (d : Int)
theorem advance11 (h : Ck w c F s) (hd : W64 d) : Calls Try.prog 11 #[PC c, .int .i64 d] w fun e w' => AdE e w w' c F (advS s d) (advR s d) (.int .i64 (advE s d)) := by
  have ok := h.ok
  have hE : ∀ {x : Int}, advE s d = x → x ≠ 0 → advS s d = s ∧ advR s d = [] := fun {x} e hx => by
    have : ¬ advE s d = 0 := by rw [e]; exact hx
    unfold advS advR
    rw [if_neg this, if_neg this]
    exact ⟨rfl, rfl⟩
  by_cases h0 : d < 0
  · have e1 : advE s d = 11 := by unfold advE; rw [if_pos h0]
    obtain ⟨e2, e3⟩ := hE e1 (by decide)
    rw [e1, e2, e3]
    have HN : Hid (AdE (.returned (.tuple #[.slice none 0 0, .int .i64 11])) w w c F s [] (.int .i64 11)) := ⟨none, 0, 0, rfl, RR.nil _ _ _, Nx.same h (Touch.refl _ _)⟩
    clear h e1 e2 e3 ok hE
    unfold PC
    go_enter Try.func11, Try.ntmps11
    go_wp2
    exact bodyPost_ret (v := .tuple #[.slice none 0 0, .int .i64 11]) (by simp [results, Try.results11, go_sem]) rfl HN.out
  · have HF := hid (after26 s.now d w ok.n0 ok.n1 (by omega) hd.hi)
    by_cases h1 : 4611686018427387904 - s.now < d
    · have e1 : advE s d = 10 := by unfold advE; rw [if_neg h0, if_pos h1]
      obtain ⟨e2, e3⟩ := hE e1 (by decide)
      rw [e1, e2, e3]
      rw [if_pos h1, decide_eq_false (show ¬ d ≤ 4611686018427387904 - s.now by omega)] at HF
      have HN : Hid (AdE (.returned (.tuple #[.slice none 0 0, .int .i64 10])) w w c F s [] (.int .i64 10)) := ⟨none, 0, 0, rfl, RR.nil _ _ _, Nx.same h (Touch.refl _ _)⟩
      obtain ⟨q, G, p, S, rfl, k⟩ := h
      have c0 := k.cc.c0
      clear k e1 e2 e3 ok hE h1 hd
      generalize s.now = n at *
      unfold PC
      go_enter Try.func11, Try.ntmps11
      go_wp2_with (go_at_call 26; refine HF.out.mono ?_; rintro e w2 ⟨rfl, rfl⟩)
      exact bodyPost_ret (v := .tuple #[.slice none 0 0, .int .i64 10]) (by simp [results, Try.results11, go_sem]) rfl HN.out
    · have e1 : advE s d = 0 := by unfold advE; rw [if_neg h0, if_neg h1]
      have e2 : advS s d = goS s (s.now + d) := by unfold advS; rw [if_pos e1]
      have e3 : advR s d = goR s (s.now + d) := by unfold advR; rw [if_pos e1]
      rw [e1, e2, e3]
      rw [if_neg h1, decide_eq_true (show d ≤ 4611686018427387904 - s.now by omega)] at HF
      have HG := hid (goTo27 w c F s (s.now + d) h (by omega) (by omega))
      obtain ⟨q, G, p, S, rfl, k⟩ := h
      have c0 := k.cc.c0
      clear k e1 e2 e3 ok hE h1 hd
      unfold PC at *
      generalize s.now + d = to at *
      generalize s.now = n at *
      go_enter Try.func11, Try.ntmps11
      go_wp2_with (first | (go_at_call 26; refine HF.out.mono ?_; rintro e w2 ⟨rfl, rfl⟩) | (go_at_call 27; refine HG.out.mono ?_; rintro e w3 ⟨a, n3, m, rfl, r1, r2⟩; have R := hid (And.intro r1 r2); clear r1 r2))
      exact bodyPost_ret (v := .tuple #[.slice a n3 m, .int .i64 0]) (by simp [results, Try.results11, go_sem]) rfl ⟨a, n3, m, rfl, R.out.1, R.out.2⟩
theorem leap18 (h : Ck w c F s) : Calls Try.prog 18 #[PC c] w fun e w' => AdE e w w' c F (leapS s) (leapR s) (.bool (decide (s.T ≠ []))) := by
  have ok := h.ok
  cases hT : s.T with
  | nil =>
    have e2 : leapS s = s := by unfold leapS; rw [hT]
    have e3 : leapR s = [] := by unfold leapR; rw [hT]
    rw [e2, e3, decide_eq_false (fun e => e rfl)]
    have HX := hid (next17_nil w c F s h hT)
    have HN : Hid (∀ w', Touch [] w w' → AdE (.returned (.tuple #[.slice none 0 0, .bool false])) w w' c F s [] (.bool false)) := fun w' t => ⟨none, 0, 0, rfl, RR.nil _ _ _, Nx.same h t⟩
    clear h e2 e3 ok hT
    unfold PC at *
    go_enter Try.func18, Try.ntmps18
    go_wp2_with (go_at_call 17; refine HX.out.mono ?_; rintro e w2 ⟨rfl, t2⟩)
    exact bodyPost_ret (v := .tuple #[.slice none 0 0, .bool false]) (by simp [results, Try.results18, go_sem]) rfl (HN.out _ (t2.alloc _))
  | cons x l =>
    have e2 : leapS s = goS s x.at_ := by unfold leapS; rw [hT]
    have e3 : leapR s = goR s x.at_ := by unfold leapR; rw [hT]
    rw [e2, e3, decide_eq_true (show x :: l ≠ [] by simp)]
    have hx : x ∈ s.T := by rw [hT]; exact List.mem_cons_self
    have HX := hid (next17_cons w c F s h hT)
    have HG : Hid (∀ w1, Touch [] w w1 → Calls Try.prog 27 #[.pointer (some ⟨c, 0, none⟩), .int .i64 x.at_] w1 fun e w' => GoE e w w' c F s x.at_) := fun w1 t1 => by
      refine (goTo27 w1 c F s x.at_ (h.keep0 t1) (ok.at0 x hx) (ok.at1 x hx)).mono ?_
      rintro e w' ⟨a, n, m, r1, r2, r3⟩
      exact ⟨a, n, m, r1, r2.base t1.size, r3.pre t1⟩
    clear h e2 e3 ok hT hx
    unfold PC at *
    generalize x.at_ = u at *
    generalize x.it = v at *
    go_enter Try.func18, Try.ntmps18
    go_wp2_with (first | (go_at_call 17; refine HX.out.mono ?_; rintro e w2 ⟨rfl, t2⟩) | (go_at_call 27; refine (HG.out _ (t2.alloc _)).mono ?_; rintro e w3 ⟨a, n3, m, rfl, r1, r2⟩; have R := hid (And.intro r1 r2); clear r1 r2))
    exact bodyPost_ret (v := .tuple #[.slice a n3 m, .bool true]) (by simp [results, Try.results18, go_sem]) rfl ⟨a, n3, m, rfl, R.out.1, R.out.2⟩
end
end Go.Proofs.Ytaioegefoiabhaa
