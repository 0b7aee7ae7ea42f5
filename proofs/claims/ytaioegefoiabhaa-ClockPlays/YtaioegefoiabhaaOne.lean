/- The law's step: something done to a clock and to the document's. -/
import Derived.Test.YtaioegefoiabhaaRai
import Derived.Test.YtaioegefoiabhaaRlp
import Derived.Test.YtaioegefoiabhaaNil
namespace Go.Proofs.Ytaioegefoiabhaa
open Go.RowKit Go.Maps Go.ChangeMaps
set_option linter.unusedVariables false
theorem Ck.apartE {w : World} {c : Nat} {F : List Nat} {s : Cs} (h : Ck w c F s) {e B : Nat} {v : Value} {l : List Tm} (hr : RR e w B v l) (e1 : e ≠ 58) (e2 : e ≠ 83) (e3 : e ≠ 86) : ∀ b, v.ownBlock = some b → ¬ b ∈ F := by
  obtain ⟨q, G, p, S, rfl, k⟩ := h
  intro b hb hF
  rcases List.mem_cons.1 hF with rfl | hF
  · exact own_ne hr k.cc e1 b hb rfl
  · exact k.tq.apart hr e2 e3 b hb hF
/-- The three boxes that the step makes ahead of all. -/
structure On (w V : World) (s : Cs) (v : Value) (k i t : Int) : Prop where
  b0 : BM V w.heap.size s.now v s.last
  b1 : Bx V (w.heap.size + 1) k i t
  b2 : BM V (w.heap.size + 2) 0 (.slice none 0 0) 0
  sz : V.heap.size = w.heap.size + 3
  tc : Touch [] w V
theorem On.mk' (w : World) (s : Cs) (v : Value) (k i t : Int) : On w (((w.alloc (.cells #[.int .i64 s.now, v, .int .i64 s.last] 28)).alloc (.cells #[.int .i64 k, .int .i64 i, .int .i64 t] 30)).alloc (.cells #[.int .i64 0, .slice none 0 0, .int .i64 0] 28)) s v k i t := by
  have h1 := Bx.new (w.alloc (.cells #[.int .i64 s.now, v, .int .i64 s.last] 28)) k i t
  have h2 := BM.new ((w.alloc (.cells #[.int .i64 s.now, v, .int .i64 s.last] 28)).alloc (.cells #[.int .i64 k, .int .i64 i, .int .i64 t] 30)) 0 (.slice none 0 0) 0
  refine ⟨((BM.new w _ _ _).keep0 ((Touch.refl _ _).alloc _)).keep0 ((Touch.refl _ _).alloc _), ?_, ?_, by simp, (((Touch.refl _ _).alloc _).alloc _).alloc _⟩
  · have := h1.keep0 ((Touch.refl _ _).alloc (.cells #[.int .i64 0, .slice none 0 0, .int .i64 0] 28))
    simpa using this
  · simpa using h2
/-- The boxes behind the clock's own step. -/
structure Oa (w V w1 : World) (c : Nat) (F : List Nat) (s1 : Cs) (s : Cs) (v : Value) (k i t : Int) (B : Nat) (l : List Tm) : Prop where
  b0 : BM w1 w.heap.size s.now v s.last
  b1 : Bx w1 (w.heap.size + 1) k i t
  b2 : BM w1 (w.heap.size + 2) 0 (.slice none 0 0) 0
  rr : RR 93 w1 B v l
  nx : Nx V w1 c F s1
theorem On.step {w V w1 : World} {c : Nat} {F : List Nat} {s s1 : Cs} {v : Value} {k i t : Int} {B : Nat} {l : List Tm} (h : On w V s v k i t) (hc : Ck w c F s) (hr : RR 93 w B v l) (hn : Nx V w1 c F s1) : Oa w V w1 c F s1 s v k i t B l := by
  have hc' := hc.keep0 h.tc
  have hr' := hr.keep0 h.tc
  have hn' := hn
  obtain ⟨F', n1, n2, n3⟩ := hn
  have hf : ∀ j, w.heap.size ≤ j → ¬ j ∈ F := fun j hj e => by have := hc.lt j e; omega
  exact ⟨h.b0.keep n2 (hf _ (Nat.le_refl _)), h.b1.keep n2 (hf _ (by omega)), h.b2.keep n2 (hf _ (by omega)), hr'.keep n2 (fun b hb => hc'.apartE hr' (by decide) (by decide) (by decide) b hb), hn'⟩
def OnE (e : Ending) (w w' : World) (B c : Nat) (F : List Nat) (s1 : Cs) : Prop := ∃ a n m, e = .returned (.tuple #[.agg #[.int .i64 s1.now, .slice a n m, .int .i64 s1.last], .bool true]) ∧ RR 93 w' B (.slice a n m) s1.T ∧ Nx w w' c F s1
theorem On.fin {w V w1 w2 W : World} {c : Nat} {F : List Nat} {s s1 : Cs} {v : Value} {k i t : Int} {B : Nat} {a : Option Addr} {n m : Nat} (h : On w V s v k i t) (hn : Nx V w1 c F s1) (hb : BM w1 (w.heap.size + 2) 0 (.slice none 0 0) 0) (t2 : Touch [] w1 w2) (hr : RR 93 w2 B (.slice a n m) s1.T) (T : Touch [w.heap.size + 2] w2 W) : RR 93 W B (.slice a n m) s1.T ∧ Nx w W c F s1 := by
  obtain ⟨F', n1, n2, n3⟩ := hn
  have hb2 := hb.keep0 t2
  have hsz := h.sz
  have hlt := block_lt hb
  refine ⟨hr.keep T (fun b hb e => by simp at e; subst e; exact own_ne hr hb2 (by decide) _ hb rfl), F', (n1.keep0 t2).keep T (fun j hj e => ?_), ?_, fun j hj => ?_⟩
  · simp at e
    subst e
    rcases n3 _ hj with e' | e'
    · obtain ⟨q, G, p, S, rfl, kk⟩ := n1
      rcases List.mem_cons.1 hj with e2 | e2
      · have := kk.cc
        rw [← e2] at this
        unfold CC at this
        unfold BM at hb
        rw [hb] at this
        simp at this
      · exact kk.tq.notin hb (by decide) (by decide) e2
    · omega
  · exact (((h.tc.mono (fun _ e => by cases e)).trans' n2).trans' (t2.mono (fun _ e => by cases e))).trans T (fun j hj => Or.inr (by simp at hj; omega))
  · rcases n3 j hj with e' | e'
    · exact Or.inl e'
    · exact Or.inr (by omega)
theorem set3_keep {w : World} {a b o : Nat} {x y z : Value} (h : a ≠ b) : (((w.setCell ⟨a, 0, none⟩ x).setCell ⟨a, 1, none⟩ y).setCell ⟨a, 2, none⟩ z).cell? ⟨b, o, none⟩ = w.cell? ⟨b, o, none⟩ := by
  rw [World.cell?_setCell_far _ _ _ _ h, World.cell?_setCell_far _ _ _ _ h, World.cell?_setCell_far _ _ _ _ h]
set_option maxHeartbeats 2000000 in
theorem one_arm (w : World) (B c : Nat) (F : List Nat) (v : Value) (s : Cs) (i t : Int) (hc : Ck w c F s) (hr : RR 93 w B v s.T) (hB : B ≤ w.heap.size) (hl : s.last < 4611686018427387904) (ht : W64 t) :
    Calls Try.prog 12 #[PC c, .agg #[.int .i64 s.now, v, .int .i64 s.last], .agg #[.int .i64 0, .int .i64 i, .int .i64 t]] w fun e w' => OnE e w w' B c F (armS s t) := by
  obtain ⟨a, m, rfl⟩ := hr.slice
  have ok := hc.ok
  have HV := hid (On.mk' w s (.slice a s.T.length m) 0 i t)
  obtain ⟨V, hV⟩ : ∃ V, V = ((w.alloc (.cells #[.int .i64 s.now, .slice a s.T.length m, .int .i64 s.last] 28)).alloc (.cells #[.int .i64 0, .int .i64 i, .int .i64 t] 30)).alloc (.cells #[.int .i64 0, .slice none 0 0, .int .i64 0] 28) := ⟨_, rfl⟩
  rw [← hV] at HV
  have HC : Hid (Calls Try.prog 10 #[.pointer (some ⟨c, 0, none⟩), .int .i64 t] V fun e w' => e = .returned (.tuple #[.int .i64 (armN s t), .int .i64 (armE s t)]) ∧ Oa w V w' c F (armS s t) s (.slice a s.T.length m) 0 i t B s.T) := by
    refine (arm10 V c F s t (hc.keep0 HV.out.tc) hl).mono ?_
    rintro e w' ⟨he, hn⟩
    exact ⟨he, HV.out.step hc hr hn⟩
  have HD : Hid (∀ w1, Oa w V w1 c F (armS s t) s (.slice a s.T.length m) 0 i t B s.T → Calls Try.prog 28 #[.agg #[.int .i64 s.now, .slice a s.T.length m, .int .i64 s.last], .int .i64 t] w1 fun e w' => RmE e w1 w' B (armS s t) (armN s t) (armE s t)) := fun w1 h1 => rarm28 w1 B _ s t h1.rr ok (by obtain ⟨_, _, n2, _⟩ := h1.nx; have := n2.size; have := HV.out.tc.size; omega) hl
  clear hc hr ok ht hl
  generalize armN s t = nn at *
  generalize armE s t = ee at *
  generalize armS s t = s1 at *
  generalize s.T.length = N at *
  generalize s.T = T at *
  rw [hV] at HC
  unfold PC
  go_enter Try.func12, Try.ntmps12
  go_wp2_with (first
    | (go_at_call 10; refine HC.out.mono ?_; rintro e w1 ⟨rfl, h1⟩; rw [← hV] at h1; have H1 := hid h1; have p00 := h1.b0.c0; have p01 := h1.b0.c1; have p02 := h1.b0.c2; have p12 := h1.b1.c2; have p11 := h1.b1.c1; clear h1)
    | (go_at_call 28; refine (HD.out _ H1.out).mono ?_; rintro e w2 ⟨a2, n2, m2, rfl, r2, t2⟩; have H2 := hid (And.intro r2 t2); have b2 := H1.out.b2.keep0 t2; have q0 := b2.c0; have q1 := b2.c1; have q2 := b2.c2; have qf := b2.fr; have hlt : w.heap.size + 2 < w2.heap.size := block_lt b2; clear r2 t2 b2))
  have TT : Touch [w.heap.size + 2] w2 ((((w2.setCell ⟨w.heap.size + 2, 0, none⟩ (.int .i64 s1.now)).setCell ⟨w.heap.size + 2, 1, none⟩ (.slice a2 n2 m2)).setCell ⟨w.heap.size + 2, 2, none⟩ (.int .i64 s1.last)).alloc (.cells #[.int .i64 s1.now, .slice a2 n2 m2, .int .i64 s1.last] 28)) := ((((Touch.refl _ _).setCell (p := ⟨w.heap.size + 2, 0, none⟩) (Or.inl (by simp)) _).setCell (p := ⟨w.heap.size + 2, 1, none⟩) (Or.inl (by simp)) _).setCell (p := ⟨w.heap.size + 2, 2, none⟩) (Or.inl (by simp)) _).alloc _
  obtain ⟨rr, nx⟩ := HV.out.fin H1.out.nx H1.out.b2 H2.out.2 H2.out.1 TT
  exact bodyPost_ret (v := .tuple #[.agg #[.int .i64 s1.now, .slice a2 n2 m2, .int .i64 s1.last], .bool true]) (by simp [results, Try.results12, go_sem, q0, q1, q2, hlt]) rfl ⟨a2, n2, m2, rfl, rr, nx⟩
set_option maxHeartbeats 2000000 in
theorem one_in (w : World) (B c : Nat) (F : List Nat) (v : Value) (s : Cs) (i t : Int) (hc : Ck w c F s) (hr : RR 93 w B v s.T) (hB : B ≤ w.heap.size) (hl : s.last < 4611686018427387904) (ht : W64 t) :
    Calls Try.prog 12 #[PC c, .agg #[.int .i64 s.now, v, .int .i64 s.last], .agg #[.int .i64 1, .int .i64 i, .int .i64 t]] w fun e w' => OnE e w w' B c F (inS s t) := by
  obtain ⟨a, m, rfl⟩ := hr.slice
  have ok := hc.ok
  have HV := hid (On.mk' w s (.slice a s.T.length m) 1 i t)
  obtain ⟨V, hV⟩ : ∃ V, V = ((w.alloc (.cells #[.int .i64 s.now, .slice a s.T.length m, .int .i64 s.last] 28)).alloc (.cells #[.int .i64 1, .int .i64 i, .int .i64 t] 30)).alloc (.cells #[.int .i64 0, .slice none 0 0, .int .i64 0] 28) := ⟨_, rfl⟩
  rw [← hV] at HV
  have HC : Hid (Calls Try.prog 16 #[.pointer (some ⟨c, 0, none⟩), .int .i64 t] V fun e w' => e = .returned (.tuple #[.int .i64 (inN s t), .int .i64 (inE s t)]) ∧ Oa w V w' c F (inS s t) s (.slice a s.T.length m) 1 i t B s.T) := by
    refine (in16 V c F s t (hc.keep0 HV.out.tc) hl ht).mono ?_
    rintro e w' ⟨he, hn⟩
    exact ⟨he, HV.out.step hc hr hn⟩
  have HD : Hid (∀ w1, Oa w V w1 c F (inS s t) s (.slice a s.T.length m) 1 i t B s.T → Calls Try.prog 29 #[.agg #[.int .i64 s.now, .slice a s.T.length m, .int .i64 s.last], .int .i64 t] w1 fun e w' => RmE e w1 w' B (inS s t) (inN s t) (inE s t)) := fun w1 h1 => rin29 w1 B _ s t h1.rr ok (by obtain ⟨_, _, n2, _⟩ := h1.nx; have := n2.size; have := HV.out.tc.size; omega) hl ht
  clear hc hr ok ht hl
  generalize inN s t = nn at *
  generalize inE s t = ee at *
  generalize inS s t = s1 at *
  generalize s.T.length = N at *
  generalize s.T = T at *
  rw [hV] at HC
  unfold PC
  go_enter Try.func12, Try.ntmps12
  go_wp2_with (first
    | (go_at_call 16; refine HC.out.mono ?_; rintro e w1 ⟨rfl, h1⟩; rw [← hV] at h1; have H1 := hid h1; have p00 := h1.b0.c0; have p01 := h1.b0.c1; have p02 := h1.b0.c2; have p12 := h1.b1.c2; have p11 := h1.b1.c1; clear h1)
    | (go_at_call 29; refine (HD.out _ H1.out).mono ?_; rintro e w2 ⟨a2, n2, m2, rfl, r2, t2⟩; have H2 := hid (And.intro r2 t2); have b2 := H1.out.b2.keep0 t2; have q0 := b2.c0; have q1 := b2.c1; have q2 := b2.c2; have qf := b2.fr; have hlt : w.heap.size + 2 < w2.heap.size := block_lt b2; clear r2 t2 b2))
  have TT : Touch [w.heap.size + 2] w2 ((((w2.setCell ⟨w.heap.size + 2, 0, none⟩ (.int .i64 s1.now)).setCell ⟨w.heap.size + 2, 1, none⟩ (.slice a2 n2 m2)).setCell ⟨w.heap.size + 2, 2, none⟩ (.int .i64 s1.last)).alloc (.cells #[.int .i64 s1.now, .slice a2 n2 m2, .int .i64 s1.last] 28)) := ((((Touch.refl _ _).setCell (p := ⟨w.heap.size + 2, 0, none⟩) (Or.inl (by simp)) _).setCell (p := ⟨w.heap.size + 2, 1, none⟩) (Or.inl (by simp)) _).setCell (p := ⟨w.heap.size + 2, 2, none⟩) (Or.inl (by simp)) _).alloc _
  obtain ⟨rr, nx⟩ := HV.out.fin H1.out.nx H1.out.b2 H2.out.2 H2.out.1 TT
  exact bodyPost_ret (v := .tuple #[.agg #[.int .i64 s1.now, .slice a2 n2 m2, .int .i64 s1.last], .bool true]) (by simp [results, Try.results12, go_sem, q0, q1, q2, hlt]) rfl ⟨a2, n2, m2, rfl, rr, nx⟩
set_option maxHeartbeats 2000000 in
theorem one_stop (w : World) (B c : Nat) (F : List Nat) (v : Value) (s : Cs) (i t : Int) (hc : Ck w c F s) (hr : RR 93 w B v s.T) (hB : B ≤ w.heap.size) (hi : W64 i) :
    Calls Try.prog 12 #[PC c, .agg #[.int .i64 s.now, v, .int .i64 s.last], .agg #[.int .i64 2, .int .i64 i, .int .i64 t]] w fun e w' => OnE e w w' B c F (stopS s i) := by
  obtain ⟨a, m, rfl⟩ := hr.slice
  have ok := hc.ok
  have HV := hid (On.mk' w s (.slice a s.T.length m) 2 i t)
  obtain ⟨V, hV⟩ : ∃ V, V = ((w.alloc (.cells #[.int .i64 s.now, .slice a s.T.length m, .int .i64 s.last] 28)).alloc (.cells #[.int .i64 2, .int .i64 i, .int .i64 t] 30)).alloc (.cells #[.int .i64 0, .slice none 0 0, .int .i64 0] 28) := ⟨_, rfl⟩
  rw [← hV] at HV
  have HC : Hid (Calls Try.prog 20 #[.pointer (some ⟨c, 0, none⟩), .int .i64 i] V fun e w' => e = .returned (.bool (hasT s.T i)) ∧ Oa w V w' c F (stopS s i) s (.slice a s.T.length m) 2 i t B s.T) := by
    refine (stop20 V c F s i (hc.keep0 HV.out.tc) hi).mono ?_
    rintro e w' ⟨he, hn⟩
    exact ⟨he, HV.out.step hc hr hn⟩
  have HD : Hid (∀ w1, Oa w V w1 c F (stopS s i) s (.slice a s.T.length m) 2 i t B s.T → Calls Try.prog 30 #[.agg #[.int .i64 s.now, .slice a s.T.length m, .int .i64 s.last], .int .i64 i] w1 fun e w' => ∃ a2 n2 m2, e = .returned (.tuple #[.agg #[.int .i64 (stopS s i).now, .slice a2 n2 m2, .int .i64 (stopS s i).last], .bool (hasT s.T i)]) ∧ RR 93 w' B (.slice a2 n2 m2) (stopS s i).T ∧ Touch [] w1 w') := fun w1 h1 => by
    refine (rstop30 w1 B _ s i h1.rr ok).mono ?_
    rintro e w' ⟨a2, n2, m2, he, r, t⟩
    exact ⟨a2, n2, m2, he, r.base (by obtain ⟨_, _, n2, _⟩ := h1.nx; have := n2.size; have := HV.out.tc.size; omega), t⟩
  clear hc hr ok hi
  generalize hasT s.T i = bb at *
  generalize stopS s i = s1 at *
  generalize s.T.length = N at *
  generalize s.T = T at *
  rw [hV] at HC
  unfold PC
  go_enter Try.func12, Try.ntmps12
  go_wp2_with (first
    | (go_at_call 20; refine HC.out.mono ?_; rintro e w1 ⟨rfl, h1⟩; rw [← hV] at h1; have H1 := hid h1; have p00 := h1.b0.c0; have p01 := h1.b0.c1; have p02 := h1.b0.c2; have p12 := h1.b1.c2; have p11 := h1.b1.c1; clear h1)
    | (go_at_call 30; refine (HD.out _ H1.out).mono ?_; rintro e w2 ⟨a2, n2, m2, rfl, r2, t2⟩; have H2 := hid (And.intro r2 t2); have b2 := H1.out.b2.keep0 t2; have q0 := b2.c0; have q1 := b2.c1; have q2 := b2.c2; have qf := b2.fr; have hlt : w.heap.size + 2 < w2.heap.size := block_lt b2; clear r2 t2 b2))
  have TT : Touch [w.heap.size + 2] w2 ((((w2.setCell ⟨w.heap.size + 2, 0, none⟩ (.int .i64 s1.now)).setCell ⟨w.heap.size + 2, 1, none⟩ (.slice a2 n2 m2)).setCell ⟨w.heap.size + 2, 2, none⟩ (.int .i64 s1.last)).alloc (.cells #[.int .i64 s1.now, .slice a2 n2 m2, .int .i64 s1.last] 28)) := ((((Touch.refl _ _).setCell (p := ⟨w.heap.size + 2, 0, none⟩) (Or.inl (by simp)) _).setCell (p := ⟨w.heap.size + 2, 1, none⟩) (Or.inl (by simp)) _).setCell (p := ⟨w.heap.size + 2, 2, none⟩) (Or.inl (by simp)) _).alloc _
  obtain ⟨rr, nx⟩ := HV.out.fin H1.out.nx H1.out.b2 H2.out.2 H2.out.1 TT
  exact bodyPost_ret (v := .tuple #[.agg #[.int .i64 s1.now, .slice a2 n2 m2, .int .i64 s1.last], .bool true]) (by simp [results, Try.results12, go_sem, q0, q1, q2, hlt]) rfl ⟨a2, n2, m2, rfl, rr, nx⟩
set_option maxHeartbeats 2000000 in
set_option maxRecDepth 100000 in
theorem one_adv (w : World) (B c : Nat) (F : List Nat) (v : Value) (s : Cs) (i t : Int) (hc : Ck w c F s) (hr : RR 93 w B v s.T) (hB : B ≤ w.heap.size) (ht : W64 t) :
    Calls Try.prog 12 #[PC c, .agg #[.int .i64 s.now, v, .int .i64 s.last], .agg #[.int .i64 3, .int .i64 i, .int .i64 t]] w fun e w' => OnE e w w' B c F (advS s t) := by
  obtain ⟨a, m, rfl⟩ := hr.slice
  have ok := hc.ok
  have hRl : (advR s t).length ≤ 65536 := by
    have := ok.len
    unfold advR goR; split; · rw [List.length_take]; omega
    · simp
  have HV := hid (On.mk' w s (.slice a s.T.length m) 3 i t)
  obtain ⟨V, hV⟩ : ∃ V, V = ((w.alloc (.cells #[.int .i64 s.now, .slice a s.T.length m, .int .i64 s.last] 28)).alloc (.cells #[.int .i64 3, .int .i64 i, .int .i64 t] 30)).alloc (.cells #[.int .i64 0, .slice none 0 0, .int .i64 0] 28) := ⟨_, rfl⟩
  rw [← hV] at HV
  have HC : Hid (Calls Try.prog 11 #[.pointer (some ⟨c, 0, none⟩), .int .i64 t] V fun e w' => ∃ a5 n5 m5, e = .returned (.tuple #[.slice a5 n5 m5, .int .i64 (advE s t)]) ∧ RR 45 w' V.heap.size (.slice a5 n5 m5) (advR s t) ∧ Oa w V w' c F (advS s t) s (.slice a s.T.length m) 3 i t B s.T) := by
    refine (advance11 V c F s t (hc.keep0 HV.out.tc) ht).mono ?_
    rintro e w' ⟨a5, n5, m5, he, hr5, hn⟩
    exact ⟨a5, n5, m5, he, hr5, HV.out.step hc hr hn⟩
  have HD : Hid (∀ w1, Oa w V w1 c F (advS s t) s (.slice a s.T.length m) 3 i t B s.T → Calls Try.prog 31 #[.agg #[.int .i64 s.now, .slice a s.T.length m, .int .i64 s.last], .int .i64 t] w1 fun e w' => RaE e w1 w' B (advS s t) (advR s t) (.int .i64 (advE s t))) := fun w1 h1 => radv31 w1 B _ s t h1.rr ok (by obtain ⟨_, _, n2, _⟩ := h1.nx; have := n2.size; have := HV.out.tc.size; omega) ht
  clear hc hr ok
  generalize advE s t = ee at *
  generalize advR s t = R at *
  generalize advS s t = s1 at *
  generalize s.T.length = N at *
  generalize s.T = T at *
  have HRg : Hid (∀ w3 (a5 : Option Addr) (n5 m5 : Nat) (a6 : Option Addr) (n6 m6 : Nat) B5, RR 45 w3 B5 (.slice a5 n5 m5) R → RR 93 w3 B (.slice a6 n6 m6) R → Calls Try.prog 32 #[.slice a5 n5 m5, .slice a6 n6 m6] w3 fun e w' => e = .returned (.bool true) ∧ Touch [] w3 w') := fun w3 a5 n5 m5 a6 n6 m6 B5 h5 h6 => rings32 w3 B5 B _ _ R h5 h6 hRl
  rw [hV] at HC
  unfold PC
  go_enter Try.func12, Try.ntmps12
  go_wp2_with (first
    | (go_at_call 11; refine HC.out.mono ?_; rintro e w1 ⟨a5, n5, m5, rfl, r5, h1⟩; rw [← hV] at h1; have H1 := hid h1; have H5 := hid r5; have p00 := h1.b0.c0; have p01 := h1.b0.c1; have p02 := h1.b0.c2; have p12 := h1.b1.c2; have p11 := h1.b1.c1; clear h1 r5)
    | (go_at_call 31; refine (HD.out _ H1.out).mono ?_; rintro e w2 ⟨a2, n2, m2, a6, n6, m6, rfl, r2, r6, t2⟩; have H2 := hid (And.intro r2 (And.intro r6 t2)); have b2 := H1.out.b2.keep0 t2; have hlt : w.heap.size + 2 < w2.heap.size := block_lt b2; have HB2 := hid b2; clear r2 r6 t2 b2))
  have k0 : (w2.alloc (.cells #[.int .i64 s1.now, .slice a2 n2 m2, .int .i64 s1.last] 28)).cell? ⟨w2.heap.size, 0, none⟩ = some (.int .i64 s1.now) := (BM.new w2 _ _ _).c0
  have k1 : (w2.alloc (.cells #[.int .i64 s1.now, .slice a2 n2 m2, .int .i64 s1.last] 28)).cell? ⟨w2.heap.size, 1, none⟩ = some (.slice a2 n2 m2) := (BM.new w2 _ _ _).c1
  have k2 : (w2.alloc (.cells #[.int .i64 s1.now, .slice a2 n2 m2, .int .i64 s1.last] 28)).cell? ⟨w2.heap.size, 2, none⟩ = some (.int .i64 s1.last) := (BM.new w2 _ _ _).c2
  have HK := hid (BM.new w2 s1.now (.slice a2 n2 m2) s1.last)
  obtain ⟨W, hW⟩ : ∃ W, W = w2.alloc (.cells #[.int .i64 s1.now, .slice a2 n2 m2, .int .i64 s1.last] 28) := ⟨_, rfl⟩
  have TW : Hid (Touch [] w2 W) := by rw [hW]; exact (Touch.refl _ _).alloc _
  rw [← hW] at k0 k1 k2 HK ⊢
  clear hW
  have HNE : Hid (w.heap.size + 1 + 1 ≠ w2.heap.size) := by show _ ≠ _; omega
  go_region_held3 (fun w' => w'.cell? ⟨w2.heap.size, 0, none⟩ = some (.int .i64 s1.now) ∧ w'.cell? ⟨w2.heap.size, 1, none⟩ = some (.slice a2 n2 m2) ∧ w'.cell? ⟨w2.heap.size, 2, none⟩ = some (.int .i64 s1.last)) (first | assumption | exact ⟨k0, k1, k2⟩ | exact ⟨k30, k31, k32⟩ | exact ⟨(set3_keep HNE.out).trans k30, (set3_keep HNE.out).trans k31, (set3_keep HNE.out).trans k32⟩)
    (first | (go_at_call 32; refine (HRg.out _ _ _ _ _ _ _ _ ((H5.out.keep0 H2.out.2.2).keep0 TW.out.drew) (H2.out.2.1.keep0 TW.out.drew)).mono ?_; rintro e w3 ⟨rfl, t3⟩; have T3 : Touch [] W w3 := (Touch.refl _ _).drew.trans' t3; have HT3 := hid (TW.out.trans' T3); have K3 := HK.out.keep0 T3; have k30 := K3.c0; have k31 := K3.c1; have k32 := K3.c2; have B3 := HB2.out.keep0 HT3.out; have q0 := B3.c0; have q1 := B3.c1; have q2 := B3.c2; have qf := B3.fr; clear t3 T3 K3 B3))
  all_goals
    go_wp2
    have TT : Touch [w.heap.size + 2] w3 (((w3.setCell ⟨w.heap.size + 2, 0, none⟩ (.int .i64 s1.now)).setCell ⟨w.heap.size + 2, 1, none⟩ (.slice a2 n2 m2)).setCell ⟨w.heap.size + 2, 2, none⟩ (.int .i64 s1.last)) := (((Touch.refl _ _).setCell (p := ⟨w.heap.size + 2, 0, none⟩) (Or.inl (by simp)) _).setCell (p := ⟨w.heap.size + 2, 1, none⟩) (Or.inl (by simp)) _).setCell (p := ⟨w.heap.size + 2, 2, none⟩) (Or.inl (by simp)) _
    obtain ⟨rr, nx⟩ := HV.out.fin H1.out.nx H1.out.b2 (H2.out.2.2.trans' HT3.out) (H2.out.1.keep0 HT3.out) TT
    exact bodyPost_ret (v := .tuple #[.agg #[.int .i64 s1.now, .slice a2 n2 m2, .int .i64 s1.last], .bool true]) (by simp [results, Try.results12, go_sem, q0, q1, q2]) rfl ⟨a2, n2, m2, rfl, rr, nx⟩
set_option maxHeartbeats 2000000 in
set_option maxRecDepth 100000 in
theorem one_leap (w : World) (B c : Nat) (F : List Nat) (v : Value) (s : Cs) (k i t : Int) (hc : Ck w c F s) (hr : RR 93 w B v s.T) (hB : B ≤ w.heap.size) (h0 : k ≠ 0) (h1 : k ≠ 1) (h2 : k ≠ 2) (h3 : k ≠ 3) :
    Calls Try.prog 12 #[PC c, .agg #[.int .i64 s.now, v, .int .i64 s.last], .agg #[.int .i64 k, .int .i64 i, .int .i64 t]] w fun e w' => OnE e w w' B c F (leapS s) := by
  obtain ⟨a, m, rfl⟩ := hr.slice
  have ok := hc.ok
  have hRl : (leapR s).length ≤ 65536 := by
    have := ok.len
    unfold leapR; split; · simp
    · unfold goR; rw [List.length_take]; omega
  have HV := hid (On.mk' w s (.slice a s.T.length m) k i t)
  obtain ⟨V, hV⟩ : ∃ V, V = ((w.alloc (.cells #[.int .i64 s.now, .slice a s.T.length m, .int .i64 s.last] 28)).alloc (.cells #[.int .i64 k, .int .i64 i, .int .i64 t] 30)).alloc (.cells #[.int .i64 0, .slice none 0 0, .int .i64 0] 28) := ⟨_, rfl⟩
  rw [← hV] at HV
  have HC : Hid (Calls Try.prog 18 #[.pointer (some ⟨c, 0, none⟩)] V fun e w' => ∃ a5 n5 m5, e = .returned (.tuple #[.slice a5 n5 m5, .bool (decide (s.T ≠ []))]) ∧ RR 45 w' V.heap.size (.slice a5 n5 m5) (leapR s) ∧ Oa w V w' c F (leapS s) s (.slice a s.T.length m) k i t B s.T) := by
    refine (leap18 V c F s (hc.keep0 HV.out.tc)).mono ?_
    rintro e w' ⟨a5, n5, m5, he, hr5, hn⟩
    exact ⟨a5, n5, m5, he, hr5, HV.out.step hc hr hn⟩
  have HD : Hid (∀ w1, Oa w V w1 c F (leapS s) s (.slice a s.T.length m) k i t B s.T → Calls Try.prog 33 #[.agg #[.int .i64 s.now, .slice a s.T.length m, .int .i64 s.last]] w1 fun e w' => RaE e w1 w' B (leapS s) (leapR s) (.bool (decide (s.T ≠ [])))) := fun w1 h1 => rleap33 w1 B _ s h1.rr ok (by obtain ⟨_, _, n2, _⟩ := h1.nx; have := n2.size; have := HV.out.tc.size; omega)
  clear hc hr ok
  have bk0 : (k == 0) = false := by simpa using h0
  have bk1 : (k == 1) = false := by simpa using h1
  have bk2 : (k == 2) = false := by simpa using h2
  have bk3 : (k == 3) = false := by simpa using h3
  clear h0 h1 h2 h3
  generalize decide (s.T ≠ []) = ee at *
  generalize leapR s = R at *
  generalize leapS s = s1 at *
  generalize s.T.length = N at *
  generalize s.T = T at *
  have HRg : Hid (∀ w3 (a5 : Option Addr) (n5 m5 : Nat) (a6 : Option Addr) (n6 m6 : Nat) B5, RR 45 w3 B5 (.slice a5 n5 m5) R → RR 93 w3 B (.slice a6 n6 m6) R → Calls Try.prog 32 #[.slice a5 n5 m5, .slice a6 n6 m6] w3 fun e w' => e = .returned (.bool true) ∧ Touch [] w3 w') := fun w3 a5 n5 m5 a6 n6 m6 B5 h5 h6 => rings32 w3 B5 B _ _ R h5 h6 hRl
  rw [hV] at HC
  unfold PC
  go_enter Try.func12, Try.ntmps12
  go_wp2_with (first
    | (go_at_call 18; refine HC.out.mono ?_; rintro e w1 ⟨a5, n5, m5, rfl, r5, h1⟩; rw [← hV] at h1; have H1 := hid h1; have H5 := hid r5; have p00 := h1.b0.c0; have p01 := h1.b0.c1; have p02 := h1.b0.c2; have p12 := h1.b1.c2; have p11 := h1.b1.c1; clear h1 r5)
    | (go_at_call 33; refine (HD.out _ H1.out).mono ?_; rintro e w2 ⟨a2, n2, m2, a6, n6, m6, rfl, r2, r6, t2⟩; have H2 := hid (And.intro r2 (And.intro r6 t2)); have b2 := H1.out.b2.keep0 t2; have hlt : w.heap.size + 2 < w2.heap.size := block_lt b2; have HB2 := hid b2; clear r2 r6 t2 b2))
  have k0 : (w2.alloc (.cells #[.int .i64 s1.now, .slice a2 n2 m2, .int .i64 s1.last] 28)).cell? ⟨w2.heap.size, 0, none⟩ = some (.int .i64 s1.now) := (BM.new w2 _ _ _).c0
  have k1 : (w2.alloc (.cells #[.int .i64 s1.now, .slice a2 n2 m2, .int .i64 s1.last] 28)).cell? ⟨w2.heap.size, 1, none⟩ = some (.slice a2 n2 m2) := (BM.new w2 _ _ _).c1
  have k2 : (w2.alloc (.cells #[.int .i64 s1.now, .slice a2 n2 m2, .int .i64 s1.last] 28)).cell? ⟨w2.heap.size, 2, none⟩ = some (.int .i64 s1.last) := (BM.new w2 _ _ _).c2
  have HK := hid (BM.new w2 s1.now (.slice a2 n2 m2) s1.last)
  obtain ⟨W, hW⟩ : ∃ W, W = w2.alloc (.cells #[.int .i64 s1.now, .slice a2 n2 m2, .int .i64 s1.last] 28) := ⟨_, rfl⟩
  have TW : Hid (Touch [] w2 W) := by rw [hW]; exact (Touch.refl _ _).alloc _
  rw [← hW] at k0 k1 k2 HK ⊢
  clear hW
  have HNE : Hid (w.heap.size + 1 + 1 ≠ w2.heap.size) := by show _ ≠ _; omega
  go_region_held3 (fun w' => w'.cell? ⟨w2.heap.size, 0, none⟩ = some (.int .i64 s1.now) ∧ w'.cell? ⟨w2.heap.size, 1, none⟩ = some (.slice a2 n2 m2) ∧ w'.cell? ⟨w2.heap.size, 2, none⟩ = some (.int .i64 s1.last)) (first | assumption | exact ⟨k0, k1, k2⟩ | exact ⟨k30, k31, k32⟩ | exact ⟨(set3_keep HNE.out).trans k30, (set3_keep HNE.out).trans k31, (set3_keep HNE.out).trans k32⟩)
    (first | (go_at_call 32; refine (HRg.out _ _ _ _ _ _ _ _ ((H5.out.keep0 H2.out.2.2).keep0 TW.out.drew) (H2.out.2.1.keep0 TW.out.drew)).mono ?_; rintro e w3 ⟨rfl, t3⟩; have T3 : Touch [] W w3 := (Touch.refl _ _).drew.trans' t3; have HT3 := hid (TW.out.trans' T3); have K3 := HK.out.keep0 T3; have k30 := K3.c0; have k31 := K3.c1; have k32 := K3.c2; have B3 := HB2.out.keep0 HT3.out; have q0 := B3.c0; have q1 := B3.c1; have q2 := B3.c2; have qf := B3.fr; clear t3 T3 K3 B3))
  all_goals
    go_wp2
    have TT : Touch [w.heap.size + 2] w3 (((w3.setCell ⟨w.heap.size + 2, 0, none⟩ (.int .i64 s1.now)).setCell ⟨w.heap.size + 2, 1, none⟩ (.slice a2 n2 m2)).setCell ⟨w.heap.size + 2, 2, none⟩ (.int .i64 s1.last)) := (((Touch.refl _ _).setCell (p := ⟨w.heap.size + 2, 0, none⟩) (Or.inl (by simp)) _).setCell (p := ⟨w.heap.size + 2, 1, none⟩) (Or.inl (by simp)) _).setCell (p := ⟨w.heap.size + 2, 2, none⟩) (Or.inl (by simp)) _
    obtain ⟨rr, nx⟩ := HV.out.fin H1.out.nx H1.out.b2 (H2.out.2.2.trans' HT3.out) (H2.out.1.keep0 HT3.out) TT
    exact bodyPost_ret (v := .tuple #[.agg #[.int .i64 s1.now, .slice a2 n2 m2, .int .i64 s1.last], .bool true]) (by simp [results, Try.results12, go_sem, q0, q1, q2]) rfl ⟨a2, n2, m2, rfl, rr, nx⟩
end Go.Proofs.Ytaioegefoiabhaa
