/- The contracts of New, Arm, In, Stop, Left and Next of a clock. -/
import Derived.Test.YtaioegefoiabhaaClk
namespace Go.Proofs.Ytaioegefoiabhaa
open Go.RowKit Go.Maps Go.ChangeMaps
set_option linter.unusedVariables false
theorem CkS.keep0 {w w' : World} {c q : Nat} {G : List Nat} {p : Int} {S : List Slot} {s : Cs} (k : CkS w c q G p S s) (ht : Touch [] w w') : CkS w' c q G p S s := ⟨k.cc.keep ht (fun e => by cases e), k.tq.keep0 ht, k.ap, k.pl, k.eq, k.ok⟩
theorem Nx.pre {w w1 w' : World} {c : Nat} {F : List Nat} {s : Cs} (ht : Touch [] w w1) (h : Nx w1 w' c F s) : Nx w w' c F s := by
  obtain ⟨F', h1, h2, h3⟩ := h
  refine ⟨F', h1, (ht.mono (fun _ e => by cases e)).trans' h2, fun i hi => ?_⟩
  rcases h3 i hi with e | e
  · exact Or.inl e
  · exact Or.inr (Nat.le_trans ht.size e)
theorem Nx.post {w w1 w' : World} {c : Nat} {F : List Nat} {s : Cs} (h : Nx w w1 c F s) (ht : Touch [] w1 w') : Nx w w' c F s := by
  obtain ⟨F', h1, h2, h3⟩ := h
  exact ⟨F', h1.keep0 ht, h2.trans' (ht.mono (fun _ e => by cases e)), h3⟩
theorem Nx.same {w w' : World} {c : Nat} {F : List Nat} {s : Cs} (h : Ck w c F s) (ht : Touch [] w w') : Nx w w' c F s := ⟨F, h.keep0 ht, ht.mono (fun _ e => by cases e), Nf.refl _ _⟩
theorem newTimes21 (w : World) : Calls Try.prog 21 #[] w fun e w' => e = .returned (.pointer (some ⟨w.heap.size, 0, none⟩)) ∧ Tq w' w.heap.size [w.heap.size] 0 [] ∧ Touch [] w w' := by
  go_enter Try.func21, Try.ntmps21
  go_wp2
  go_ret
  refine ⟨rfl, ⟨.slice none 0 0, none, rfl, ⟨[], ⟨heap_alloc_new w _, World.ownsRow_nil _ _ _ _, Or.inl ⟨rfl, rfl⟩, List.nodup_nil, fun x hx => by simp at hx, by simp⟩, fun k _ h => by simp at h, List.Perm.refl _⟩, List.Pairwise.nil, fun x hx => by simp at hx, by decide, fun x hx => by simp at hx⟩, (Touch.refl _ _).alloc _⟩
def NwQ (e : Ending) (w w' : World) (s : Cs) : Prop := ∃ c F, e = .returned (.pointer (some ⟨c, 0, none⟩)) ∧ Ck w' c F s ∧ Touch [] w w' ∧ ∀ k, k ∈ F → w.heap.size ≤ k
theorem new7 (w : World) : Calls Try.prog 7 #[] w fun e w' => NwQ e w w' ⟨0, 0, []⟩ := by
  have HN := hid (newTimes21 w)
  go_enter Try.func7, Try.ntmps7
  go_wp2_with (go_at_call 21; refine HN.out.mono ?_; rintro e w1 ⟨rfl, hq, ht⟩; have Q := hid (And.intro hq ht); clear hq ht)
  go_ret
  have hlt := Q.out.1.lt w.heap.size (by simp)
  refine ⟨w1.heap.size, [w1.heap.size, w.heap.size], rfl, ⟨_, [w.heap.size], 0, [], rfl, heap_alloc_new _ _, Q.out.1.keep0 ((Touch.refl _ _).alloc _), by simp; omega, Int.le_refl _, rfl, Ok.start⟩, Q.out.2.alloc _, fun k hk => ?_⟩
  simp at hk
  omega
section
variable (w : World) (c : Nat) (F : List Nat) (s : Cs) (t : Int)
theorem arm10_tick (h : Ck w c F s) (ht : isT t = false) : Calls Try.prog 10 #[PC c, .int .i64 t] w fun e w' => e = .returned (.tuple #[.int .i64 0, .int .i64 10]) ∧ w' = w := by
  have HI := hid (is37 t w)
  rw [ht] at HI
  clear ht h
  unfold PC
  go_enter Try.func10, Try.ntmps10
  go_wp2_with (go_at_call 24; refine HI.out.mono ?_; rintro e w2 ⟨rfl, rfl⟩)
  exact bodyPost_ret (v := .tuple #[.int .i64 0, .int .i64 10]) (by simp [results, Try.results10, go_sem]) rfl ⟨rfl, rfl⟩
theorem arm10_past (h : Ck w c F s) (ht : isT t = true) (hn : t < s.now) : Calls Try.prog 10 #[PC c, .int .i64 t] w fun e w' => e = .returned (.tuple #[.int .i64 0, .int .i64 50]) ∧ w' = w := by
  have HI := hid (is37 t w)
  rw [ht] at HI
  obtain ⟨q, G, p, S, rfl, k⟩ := h
  have c0 := k.cc.c0
  clear ht k
  generalize s.now = n at *
  unfold PC
  go_enter Try.func10, Try.ntmps10
  go_wp2_with (go_at_call 24; refine HI.out.mono ?_; rintro e w2 ⟨rfl, rfl⟩)
  exact bodyPost_ret (v := .tuple #[.int .i64 0, .int .i64 50]) (by simp [results, Try.results10, go_sem]) rfl ⟨rfl, rfl⟩
theorem arm10_many (h : Ck w c F s) (ht : isT t = true) (hn : s.now ≤ t) (hm : 65536 ≤ s.T.length) : Calls Try.prog 10 #[PC c, .int .i64 t] w fun e w' => e = .returned (.tuple #[.int .i64 0, .int .i64 3]) ∧ w' = w := by
  have HI := hid (is37 t w)
  rw [ht] at HI
  obtain ⟨q, G, p, S, rfl, k⟩ := h
  have c0 := k.cc.c0
  have c2 := k.cc.c2
  have HL := hid (len26 w q G p S k.tq)
  have zl : (65536 : Int) ≤ (S.length : Int) := by rw [k.w64]; omega
  clear ht k hm
  generalize s.now = n at *
  generalize (S.length : Int) = N at *
  unfold PC
  unfold PT at HL
  go_enter Try.func10, Try.ntmps10
  go_wp2_with (first | (go_at_call 24; refine HI.out.mono ?_; rintro e w2 ⟨rfl, rfl⟩) | (go_at_call 25; refine HL.out.mono ?_; rintro e w2 ⟨rfl, rfl⟩))
  exact bodyPost_ret (v := .tuple #[.int .i64 0, .int .i64 3]) (by simp [results, Try.results10, go_sem]) rfl ⟨rfl, rfl⟩
theorem arm_end {w w1 : World} {c q : Nat} {G F' : List Nat} {p : Int} {S : List Slot} {s : Cs} {t : Int} (k : CkS w c q G p S s) (he : armE s t = 0)
    (h1 : Tq w1 q F' (p + 1) (ins S (pos s.T t) ⟨t, p, s.last + 1⟩)) (h2 : Touch G w w1) (h3 : Nf w G F') : CC w1 c q s.now s.last ∧ Nx w (w1.setCell ⟨c, 1, none⟩ (.int .i64 (s.last + 1))) c (c :: G) (armS s t) := by
  have hc := k.cc.keep h2 k.ap
  have hcF : ¬ c ∈ F' := fun e => by
    rcases h3 c e with e' | e'
    · exact k.ap e'
    · have := block_lt k.cc; omega
  have T1 : Touch [c] w1 (w1.setCell ⟨c, 1, none⟩ (.int .i64 (s.last + 1))) := (Touch.refl _ _).setCell (Or.inl (by simp)) _
  refine ⟨hc, c :: F', ⟨q, F', p + 1, ins S (pos s.T t) ⟨t, p, s.last + 1⟩, rfl, ?_, h1.keep T1 (fun i hi e => hcF (by rw [List.mem_singleton] at e; rw [← e]; exact hi)), hcF, ?_, ?_, k.ok.arm t⟩, ?_, fun i hi => ?_⟩
  · unfold armS
    rw [if_pos he]
    exact hc.set1 _
  · unfold armS
    rw [if_pos he]
    have := k.pl
    show p + 1 ≤ s.last + 1
    omega
  · unfold armS
    rw [if_pos he, tms_ins, ← k.eq]
  · exact (h2.mono (G := c :: G) (fun i hi => List.mem_cons_of_mem _ hi)).setCell (p := ⟨c, 1, none⟩) (Or.inl List.mem_cons_self) _
  · rcases List.mem_cons.1 hi with rfl | hi
    · exact Or.inl List.mem_cons_self
    · rcases h3 i hi with e | e
      · exact Or.inl (List.mem_cons_of_mem _ e)
      · exact Or.inr e
set_option maxHeartbeats 2000000 in
theorem arm10_ok (h : Ck w c F s) (he : armE s t = 0) (hl : s.last < 4611686018427387904) : Calls Try.prog 10 #[PC c, .int .i64 t] w fun e w' => e = .returned (.tuple #[.int .i64 (s.last + 1), .int .i64 0]) ∧ Nx w w' c F (armS s t) := by
  obtain ⟨q, G, p, S, rfl, k⟩ := h
  obtain ⟨h1, h2, h3⟩ := armE_ok he
  have HI := hid (is37 t w)
  rw [isT_yes h1] at HI
  have c0 := k.cc.c0
  have c1 := k.cc.c1
  have c2 := k.cc.c2
  have HL := hid (len26 w q G p S k.tq)
  have zl : (S.length : Int) < 65536 := by rw [k.w64]; omega
  have l0 := k.ok.l0
  have HP : Hid (∀ w1, Touch [] w w1 → Calls Try.prog 23 #[.pointer (some ⟨q, 0, none⟩), .int .i64 t, .int .i64 (s.last + 1)] w1 fun e w' => e = .returned (.int .i64 0) ∧ (w'.cell? ⟨c, 1, none⟩ = some (.int .i64 s.last) ∧ w'.cell? ⟨c, 2, none⟩ = some (.pointer (some ⟨q, 0, none⟩)) ∧ w'.frozen? ⟨c, 1, none⟩ = false) ∧ Nx w (w'.setCell ⟨c, 1, none⟩ (.int .i64 (s.last + 1))) c (c :: G) (armS s t)) := fun w1 t1 => by
    refine (put24_ok w1 q G p S t (s.last + 1) (pos s.T t) (W64.mk (by omega) (by omega)) (k.tq.keep0 t1) (isT_yes h1) k.nd (by rw [k.w64]; exact h3) (pos_tms (by rw [← k.eq]; exact posT_pos _ _)) (by have := k.pl; omega)).mono ?_
    rintro e w2 ⟨he1, F', r1, r2, r3⟩
    obtain ⟨r4, r5⟩ := arm_end (k.keep0 t1) he r1 r2 r3
    exact ⟨he1, ⟨r4.c1, r4.c2, r4.fr 1⟩, r5.pre t1⟩
  clear k he h3
  generalize armS s t = s' at *
  generalize s.now = n at *
  generalize s.last = l at *
  generalize (S.length : Int) = N at *
  have hw : IntKind.i64.wrap (l + 1) = l + 1 := by simp [IntKind.wrap, IntKind.bits, IntKind.signed]; omega
  have HB := hid (And.intro hl l0)
  clear h1 hl l0
  unfold PC
  unfold PT at HL
  go_enter Try.func10, Try.ntmps10
  go_wp2_with (first | (go_at_call 24; refine HI.out.mono ?_; rintro e w2 ⟨rfl, rfl⟩) | (go_at_call 25; refine HL.out.mono ?_; rintro e w2 ⟨rfl, rfl⟩))
  go_region_held3 (fun w' => w'.cell? ⟨c, 2, none⟩ = some (.pointer (some ⟨q, 0, none⟩)) ∧ w'.cell? ⟨c, 1, none⟩ = some (.int .i64 l)) (first | assumption | go_keep)
    (first | (go_at_call 23; refine (HP.out _ (Touch.refl _ _).drew).mono ?_; rintro e w1 ⟨rfl, ⟨y1, y2, yf⟩, r⟩; have R := hid r; clear r))
  go_wp2
  exact bodyPost_ret (v := .tuple #[.int .i64 (l + 1), .int .i64 0]) (by simp [results, Try.results10, go_sem]) rfl ⟨rfl, R.out⟩
end
end Go.Proofs.Ytaioegefoiabhaa
