/- The contracts of the document's Arm as one, and of its In. -/
import Derived.Test.YtaioegefoiabhaaRa0
import Derived.Test.YtaioegefoiabhaaRa1
import Derived.Test.YtaioegefoiabhaaRa2
namespace Go.Proofs.Ytaioegefoiabhaa
open Go.RowKit Go.Maps Go.ChangeMaps
set_option linter.unusedVariables false
section
variable (w : World) (B : Nat) (v : Value) (s : Cs) (t d : Int)
theorem rarm28 (h : RR 93 w B v s.T) (ok : Ok s) (hB : B ≤ w.heap.size) (hl : s.last < 4611686018427387904) :
    Calls Try.prog 28 #[.agg #[.int .i64 s.now, v, .int .i64 s.last], .int .i64 t] w fun e w' => RmE e w w' B (armS s t) (armN s t) (armE s t) := by
  by_cases he : armE s t = 0
  · have hn : armN s t = s.last + 1 := by unfold armN; rw [if_pos he]
    rw [hn, he]
    rcases h.form with ⟨rfl, hT⟩ | ⟨g, c, rfl, hc, hm⟩
    · exact rarm_nil w B s t h ok hB hl he
    · by_cases hcn : pos s.T t = c
      · exact rarm_cap w B s t g c (pos s.T t) h (posT_pos _ _) hcn ok hB hl he
      · exact rarm_mid w B s t g c (pos s.T t) h (posT_pos _ _) hcn ok hB hl he
  · have hn : armN s t = 0 := by unfold armN; rw [if_neg he]
    have hs : armS s t = s := by unfold armS; rw [if_neg he]
    rw [hn, hs]
    exact rarm_err w B v s t h ok he
/-- What a call inside a function of the document's leaves, laid into the result's box. -/
theorem box_out {w V w1 : World} {s s1 : Cs} {v : Value} {B : Nat} {a : Option Addr} {k c : Nat} (hV : Bo w V s v) (t1 : Touch [] V w1) (hr : RR 93 w1 B (.slice a k c) s1.T) (x y z : Value) :
    RR 93 (((w1.setCell ⟨w.heap.size + 1, 0, none⟩ x).setCell ⟨w.heap.size + 1, 1, none⟩ y).setCell ⟨w.heap.size + 1, 2, none⟩ z) B (.slice a k c) s1.T ∧ Touch [] w (((w1.setCell ⟨w.heap.size + 1, 0, none⟩ x).setCell ⟨w.heap.size + 1, 1, none⟩ y).setCell ⟨w.heap.size + 1, 2, none⟩ z) := by
  have hb := hV.b1.keep0 t1
  have T : Touch [w.heap.size + 1] w1 (((w1.setCell ⟨w.heap.size + 1, 0, none⟩ x).setCell ⟨w.heap.size + 1, 1, none⟩ y).setCell ⟨w.heap.size + 1, 2, none⟩ z) := (((Touch.refl _ _).setCell (p := ⟨w.heap.size + 1, 0, none⟩) (Or.inl (by simp)) _).setCell (p := ⟨w.heap.size + 1, 1, none⟩) (Or.inl (by simp)) _).setCell (p := ⟨w.heap.size + 1, 2, none⟩) (Or.inl (by simp)) _
  exact ⟨hr.keep T (rax_row (hV.b0.keep0 t1) hb hr), hV.out1 t1 x y z⟩
set_option maxHeartbeats 2000000 in
theorem rin29 (h : RR 93 w B v s.T) (ok : Ok s) (hB : B ≤ w.heap.size) (hl : s.last < 4611686018427387904) (hd : W64 d) :
    Calls Try.prog 29 #[.agg #[.int .i64 s.now, v, .int .i64 s.last], .int .i64 d] w fun e w' => RmE e w w' B (inS s d) (inN s d) (inE s d) := by
  obtain ⟨a, c, rfl⟩ := h.slice
  have n0 := ok.n0
  have n1 := ok.n1
  have d1 := hd.hi
  by_cases h0 : d < 0
  · have e1 : inN s d = 0 := by unfold inN; rw [if_pos h0]
    have e2 : inE s d = 11 := by unfold inE; rw [if_pos h0]
    have e3 : inS s d = s := by unfold inS; rw [if_pos h0]
    rw [e1, e2, e3]
    have HX : Hid (∀ w', Touch [] w w' → RmE (.returned (.tuple #[.agg #[.int .i64 s.now, .slice a s.T.length c, .int .i64 s.last], .int .i64 0, .int .i64 11])) w w' B s 0 11) := fun w' t => ⟨_, _, _, rfl, h.keep0 t, t⟩
    clear h ok hd e1 e2 e3
    generalize s.T.length = N at *
    generalize s.now = now at *
    generalize s.last = last at *
    go_enter Try.func29, Try.ntmps29
    go_wp2
    exact bodyPost_ret (v := .tuple #[.agg #[.int .i64 now, .slice a N c, .int .i64 last], .int .i64 0, .int .i64 11]) (by simp [results, Try.results29, go_sem]) rfl (HX.out _ (((Touch.refl _ _).alloc _).alloc _))
  · have e1 : inN s d = armN s (inT s d) := by unfold inN; rw [if_neg h0]
    have e2 : inE s d = armE s (inT s d) := by unfold inE; rw [if_neg h0]
    have e3 : inS s d = armS s (inT s d) := by unfold inS; rw [if_neg h0]
    rw [e1, e2, e3]
    have HV := hid (Bo.mk' w s (.slice a s.T.length c))
    obtain ⟨V, hV⟩ : ∃ V, V = (w.alloc (.cells #[.int .i64 s.now, .slice a s.T.length c, .int .i64 s.last] 28)).alloc (.cells #[.int .i64 0, .slice none 0 0, .int .i64 0] 28) := ⟨_, rfl⟩
    rw [← hV] at HV
    have HA : Hid (Calls Try.prog 28 #[.agg #[.int .i64 s.now, .slice a s.T.length c, .int .i64 s.last], .int .i64 (inT s d)] V fun e w' => RmE e V w' B (armS s (inT s d)) (armN s (inT s d)) (armE s (inT s d))) := rarm28 V B (.slice a s.T.length c) s (inT s d) (h.keep0 HV.out.tc) ok (by have := HV.out.tc.size; omega) hl
    clear h ok hd e1 e2 e3 hl
    generalize armN s (inT s d) = an at *
    generalize armE s (inT s d) = ae at *
    generalize armS s (inT s d) = s1 at *
    by_cases h1 : 4611686018427387904 - s.now < d
    · have eT : inT s d = 4611686018427387904 := by unfold inT; rw [if_pos h1]
      rw [eT] at HA
      rw [hV] at HA
      clear eT
      go_enter Try.func29, Try.ntmps29
      go_wp2_with (first
        | (go_at_call 28; refine HA.out.mono ?_; rintro e w1 ⟨a1, k1, c1, rfl, r1, t1⟩; rw [← hV] at t1; have HR1 := hid (And.intro r1 t1); have b1 := HV.out.b1.keep0 t1; have q0 := b1.c0; have q1 := b1.c1; have q2 := b1.c2; have qf := b1.fr; clear r1 t1 b1))
      obtain ⟨r2, t2⟩ := box_out HV.out HR1.out.2 HR1.out.1 (.int .i64 s1.now) (.slice a1 k1 c1) (.int .i64 s1.last)
      exact bodyPost_ret (v := .tuple #[.agg #[.int .i64 s1.now, .slice a1 k1 c1, .int .i64 s1.last], .int .i64 an, .int .i64 ae]) (by simp [results, Try.results29, go_sem, q0, q1, q2]) rfl ⟨a1, k1, c1, rfl, r2, t2⟩
    · have eT : inT s d = s.now + d := by unfold inT; rw [if_neg h1]
      rw [eT] at HA
      rw [hV] at HA
      clear eT
      have h1' : d ≤ 4611686018427387904 - s.now := by omega
      go_enter Try.func29, Try.ntmps29
      go_wp2_with (first
        | (go_at_call 28; refine HA.out.mono ?_; rintro e w1 ⟨a1, k1, c1, rfl, r1, t1⟩; rw [← hV] at t1; have HR1 := hid (And.intro r1 t1); have b1 := HV.out.b1.keep0 t1; have q0 := b1.c0; have q1 := b1.c1; have q2 := b1.c2; have qf := b1.fr; clear r1 t1 b1))
      obtain ⟨r2, t2⟩ := box_out HV.out HR1.out.2 HR1.out.1 (.int .i64 s1.now) (.slice a1 k1 c1) (.int .i64 s1.last)
      exact bodyPost_ret (v := .tuple #[.agg #[.int .i64 s1.now, .slice a1 k1 c1, .int .i64 s1.last], .int .i64 an, .int .i64 ae]) (by simp [results, Try.results29, go_sem, q0, q1, q2]) rfl ⟨a1, k1, c1, rfl, r2, t2⟩
end
end Go.Proofs.Ytaioegefoiabhaa
