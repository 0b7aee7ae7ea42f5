/- The walk of the law QueueTurns: whatever is done in whatever order; the list of acts is within the form's reach. -/
import Derived.Test.YtonkclllofbklaaTun
import Derived.Test.YtonkclllofbklaaOpn
namespace Go.Proofs.Ytonkclllofbklaa
open Go.RowKit Go.Maps Go.ChangeMaps
set_option linter.unusedVariables false
theorem Uq.apart {w : World} {q : Nat} {F : List Nat} {xs : List Int} (h : Uq w q F xs) {base e k n : Nat} {v : Value} {ys : List Value} (ho : w.ownsRow base e k v n ys) (e1 : e ≠ 65) : ∀ b, v.ownBlock = some b → ¬ b ∈ F := by
  obtain ⟨m, rfl, t⟩ := h
  obtain ⟨f, l, hc, hs⟩ := t.st
  intro b hb hF
  obtain ⟨_, h2 | ⟨g, cap, cur, rfl, hg, hcc, r⟩⟩ := ho
  · rw [h2.1] at hb; cases hb
  · simp [Value.ownBlock] at hb
    subst hb
    simp [fp] at hF
    rcases hF with rfl | hF
    · unfold TC at hc
      rw [hcc] at hc
      simp at hc
      exact e1 hc.2
    · rcases hs with ⟨rfl, _⟩ | ⟨b, be, af, rfl, hm, _⟩
      · cases hF
      · cases hF
        obtain ⟨D, ⟨es, cl, hb, _⟩, _⟩ := hm
        rw [hb] at hcc
        simp at hcc
/-- A queue by turn and a list of the document's, both made since w. -/
structure TuC (w wr : World) (q : Nat) (F : List Nat) (xs : List Int) (v : Value) (l : List Tm) : Prop where
  u : Uq wr q F xs
  r : RN wr w.heap.size v l
  nu : ∀ k, k ∈ F → w.heap.size ≤ k
  to : Touch [] w wr
theorem TuC.quiet {w wr w' : World} {q : Nat} {F : List Nat} {xs : List Int} {v : Value} {l : List Tm} (h : TuC w wr q F xs v l) (ht : Touch [] wr w') : TuC w w' q F xs v l := ⟨h.u.keep0 ht, h.r.keep0 ht, h.nu, h.to.trans' ht⟩
theorem RN.keep {F : List Nat} {w w' : World} {B : Nat} {v : Value} {l : List Tm} (h : RN w B v l) (ht : Touch F w w') (hn : ∀ b, v.ownBlock = some b → ¬ b ∈ F) : RN w' B v l := by
  obtain ⟨g, c, e, h⟩ := h
  exact ⟨g, c, e, h.keep ht hn⟩
theorem TuC.ustep {w wr w' : World} {q : Nat} {F F' : List Nat} {xs ys : List Int} {v : Value} {l : List Tm} (h : TuC w wr q F xs v l) (hu : Uq w' q F' ys) (ht : Touch F wr w') (hn : Nf wr F F') : TuC w w' q F' ys v l := by
  refine ⟨hu, h.r.keep ht (fun b hb => h.u.apart h.r.rl (by decide) b hb), fun k hk => ?_, h.to.trans ht (fun i hi => Or.inr (h.nu i hi))⟩
  rcases hn k hk with e | e
  · exact h.nu k e
  · exact Nat.le_trans h.to.size e
theorem TuC.lstep {w wr w' : World} {q : Nat} {F : List Nat} {xs : List Int} {v v' : Value} {l l' : List Tm} (h : TuC w wr q F xs v l) (hr : RN w' wr.heap.size v' l') (ht : Touch [] wr w') : TuC w w' q F xs v' l' := ⟨h.u.keep0 ht, hr.base h.to.size, h.nu, h.to.trans' ht⟩
/-- An act in a box of its own. -/
def Bx (w : World) (b : Nat) (a : Act) : Prop := w.heap[b]? = some (.cells #[.int .i64 a.kd, .int .i64 a.it, .int .i64 a.at_] 28 (0, 0))
theorem Bx.c0 {w : World} {b : Nat} {a : Act} (h : Bx w b a) : w.cell? ⟨b, 0, none⟩ = some (.int .i64 a.kd) := by unfold Bx at h; simp [World.cell?, h]
theorem Bx.c1 {w : World} {b : Nat} {a : Act} (h : Bx w b a) : w.cell? ⟨b, 1, none⟩ = some (.int .i64 a.it) := by unfold Bx at h; simp [World.cell?, h]
theorem Bx.c2 {w : World} {b : Nat} {a : Act} (h : Bx w b a) : w.cell? ⟨b, 2, none⟩ = some (.int .i64 a.at_) := by unfold Bx at h; simp [World.cell?, h]
theorem Bx.keep {G : List Nat} {w w' : World} {b : Nat} {a : Act} (h : Bx w b a) (ht : Touch G w w') (hn : ¬ b ∈ G) : Bx w' b a := ht.keep h hn
theorem Bx.keep0 {w w' : World} {b : Nat} {a : Act} (h : Bx w b a) (ht : Touch [] w w') : Bx w' b a := ht.keep h (by simp)
theorem Bx.new (w : World) (a : Act) : Bx (w.alloc (.cells #[.int .i64 a.kd, .int .i64 a.it, .int .i64 a.at_] 28)) w.heap.size a := heap_alloc_new w _
/-- The loop's claim. -/
def TuR (w wr : World) (q : Nat) (F : List Nat) (v : Value) : Prop := ∃ xs l, TuC w wr q F xs v l ∧ l.map Tm.it = xs ∧ ∀ x ∈ l, x.at_ = 0
theorem posT_zero {l : List Tm} {i : Nat} (h : PosT l 0 i) (hz : ∀ x ∈ l, x.at_ = 0) : i = l.length := by
  obtain ⟨h1, h2, _⟩ := h
  rcases Nat.lt_or_ge i l.length with e | e
  · have := h2 i e (Nat.le_refl _)
    rw [gtT_eq e, hz _ (List.getElem_mem e)] at this
    omega
  · omega
theorem insT_end (l : List Tm) (x : Tm) : insT l l.length x = l ++ [x] := by simp [insT]
theorem map_eraseIdx (l : List Tm) (p : Nat) : (l.eraseIdx p).map Tm.it = (l.map Tm.it).eraseIdx p := by
  induction l generalizing p with
  | nil => simp
  | cons x l ih => cases p with | zero => simp | succ p => simp [ih]
theorem getElem_map_it {l : List Tm} {xs : List Int} (hm : l.map Tm.it = xs) {p : Nat} (hp : p < l.length) : ∃ h : p < xs.length, xs[p] = (gtT l p).it := by
  subst hm
  exact ⟨by simpa using hp, by rw [gtT_eq hp]; simp⟩
def P0 (q : Nat) : Value := .pointer (some ⟨q, 0, none⟩)


theorem touch_cell {w w' : World} (h : Touch [] w w') {p : Addr} {v : Value} (hc : w.cell? p = some v) : w'.cell? p = some v := (World.cell?_of_block (h.block p.block (World.block_lt_of_cell? w p hc) (by simp))).trans hc
theorem wr_nf {w : World} {q : Nat} {F : List Nat} {xs : List Int} (h : Uq w q F xs) : ¬ w.heap.size ∈ F := fun e => by have := h.lt _ e; omega

set_option maxHeartbeats 8000000 in
set_option maxRecDepth 100000 in
theorem law3 (w : World) (acts : List Act) (v : Value) (hv : SlA w v acts) (wf : ∀ x ∈ acts, WfA x) (hlen : acts.length ≤ 5864062014635) :
    Calls Try.prog 3 #[v] w fun e w' => e = .returned (.bool true) ∧ Touch [] w w' := by
  obtain ⟨a, c, rfl, HA⟩ : ∃ a c, v = .slice a acts.length c ∧ Hid (acts = [] ∨ ∃ b off, a = some ⟨b, off, none⟩ ∧ RowA w b off acts) := by
    rcases hv with ⟨rfl, a, c, rfl⟩ | ⟨b, off, cap, rfl, hr⟩
    · exact ⟨a, c, rfl, Or.inl rfl⟩
    · exact ⟨_, cap, rfl, Or.inr ⟨b, off, rfl, hr⟩⟩
  have zA : (acts.length : Int) ≤ 5864062014635 := by omega
  have HWf := hid wf
  clear hv wf
  obtain ⟨A, hA⟩ : ∃ A, A = acts.length := ⟨_, rfl⟩
  have HAl := hid hA
  rw [← hA] at zA hlen ⊢
  clear hA
  go_enter Try.func3, Try.ntmps3
  go_wp2_with fail
  refine (newTurns8 w).mono ?_
  rintro e w1 ⟨rfl, u1, t1⟩
  have U1 := hid u1
  have T1 := hid t1
  clear u1 t1
  unfold PT
  go_wp2_with (go_at_call 9; refine (awake9 _).mono ?_; rintro e w2 ⟨rfl, t2⟩; have T2 := hid (T1.out.trans' t2); have U2 := hid (U1.out.keep0 t2); clear t2)
  have HS : Hid (TuR w (w2.alloc (.cells #[] 34)) w.heap.size [w.heap.size] (.slice (some ⟨w2.heap.size, 0, none⟩) 0 0)) := by
    refine ⟨[], [], ⟨U2.out.keep0 ((Touch.refl _ _).alloc _), ⟨w2.heap.size, 0, rfl, World.ownsRow_made w2 #[] 0 T2.out.size (by unfold maxLen; omega) rfl⟩, fun k hk => by simp at hk; omega, T2.out.alloc _⟩, rfl, fun x hx => by simp at hx⟩
  clear T1 T2 U1 U2
  generalize w.heap.size = q at *
  generalize w2.heap.size = g0 at *
  go_loopw [4, 18] (fun s4 i wr => ∃ (n g c N : Nat) (F : List Nat), s4 = .slice (some ⟨g, 0, none⟩) N c ∧ i = .int .i64 n ∧ n ≤ A ∧ Hid (TuR w wr q F (.slice (some ⟨g, 0, none⟩) N c))) (fun _ i _ => A - (intOf i).toNat)
  case atStart => exact ⟨0, g0, 0, 0, _, rfl, rfl, Nat.zero_le _, HS⟩
  case round =>
    clear HS
    obtain ⟨n, g, cc, N, F, rfl, rfl, hn, HR⟩ := hrel
    by_cases hlt : n < A
    · have zn : (n : Int) < (A : Int) := by omega
      obtain ⟨xs, l, hC, hm, hz⟩ := HR.out
      obtain ⟨b, off, rfl, hrow⟩ : ∃ b off, a = some ⟨b, off, none⟩ ∧ RowA w b off acts := by
        rcases HA.out with e | ⟨b, off, e, h⟩
        · have := HAl.out; rw [e] at this; simp at this; omega
        · exact ⟨b, off, e, h⟩
      have hna : n < acts.length := by have := HAl.out; omega
      have hrow' := hrow.keep hC.to
      have r0 := hrow'.c0 n hna
      have r1 := hrow'.c1 n hna
      have r2 := hrow'.c2 n hna
      have HWa := hid (HWf.out _ (List.getElem_mem hna))
      obtain ⟨ac, hac⟩ : ∃ ac, ac = acts[n] := ⟨_, rfl⟩
      rw [← hac] at r0 r1 r2 HWa
      clear hac hrow hrow' HA HR
      have hN : N = l.length := by
        obtain ⟨g', c', e, _⟩ := hC.r
        injection e with _ e2 _
      have hlle : l.length ≤ 65536 := by
        have h1 := hC.u.len
        have h2 : l.length = xs.length := by rw [← hm]; simp
        omega
      have X0 := hid (Bx.new wr ac)
      have C0 := hid (hC.quiet ((Touch.refl _ wr).alloc (.cells #[.int .i64 ac.kd, .int .i64 ac.it, .int .i64 ac.at_] 28)))
      have HBq : Hid (¬ wr.heap.size ∈ F) := wr_nf hC.u
      have HKd : Hid (∀ w1, Calls Try.prog 11 #[.int .i64 ac.kd, .int .i64 6] w1 fun e w' => e = .returned (.int .i64 (ac.kd % 6)) ∧ w' = w1) := fun w1 => kind11 ac.kd HWa.out.1 w1
      have hk0 := Int.emod_nonneg ac.kd (show (6 : Int) ≠ 0 by decide)
      have hk6 := Int.emod_lt_of_pos ac.kd (show (0 : Int) < 6 by decide)
      have HF : Hid (∀ w1, TuC w w1 q F xs (.slice (some ⟨g, 0, none⟩) N cc) l → Calls Try.prog 10 #[.slice (some ⟨g, 0, none⟩) N cc, .int .i64 ac.it] w1 fun e w' => e = .returned (.int .i64 (fnd l ac.it)) ∧ Touch [] w1 w') := fun w1 h => find10 w1 _ _ l ac.it h.r.rl hlle
      have HZ := hid hz
      have HM := hid hm
      have HN := hid hN
      have Hle := hid hlle
      clear hC hz hN hlle
      generalize hkk : ac.kd % 6 = κ at *
      clear hkk
      by_cases k3 : κ = 3
      · subst k3
        clear hk0 hk6
        generalize fnd l ac.it = f at *
        cases l with
        | nil =>
          have hx : xs = [] := hm.symm
          subst hx
          have e0 : N = 0 := HN.out
          subst e0
          clear hm
          go_wp2_with (first
            | (go_at_call 10; refine (HF.out _ C0.out).mono ?_; rintro e w1 ⟨rfl, t1⟩; have C1 := hid (C0.out.quiet t1); have X1 := hid (X0.out.keep0 t1); have x10 := X1.out.c0; have x11 := X1.out.c1; clear t1)
            | (go_at_call 11; refine (HKd.out _).mono ?_; rintro e wk ⟨rfl, rfl⟩)
            | (go_at_call 12; refine (utake_nil _ q F C1.out.u).mono ?_; rintro e w2 ⟨rfl, rfl⟩)
            | (go_at_call 18; refine (turns18 _ q _ [] ac.it _ _ [] C1.out.u C1.out.r rfl HWa.out.2.1).mono ?_; rintro e w9 ⟨rfl, t9⟩; have HR9 := hid (show TuR w w9 q _ _ from ⟨[], [], C1.out.quiet t9, rfl, HZ.out⟩); clear t9))
          go_roundw
          case rel => exact ⟨n + 1, _, _, _, _, rfl, by go_num, by omega, HR9⟩
          case measure => simp [intOf]; omega
        | cons y l =>
          have hx : xs = y.it :: l.map Tm.it := hm.symm
          subst hx
          have zN : (0 : Int) < (N : Int) := by have := HN.out; simp at this; omega
          have HW : Hid (∀ w1, TuC w w1 q F (l.map Tm.it) (.slice (some ⟨g, 0, none⟩) N cc) (y :: l) → Calls Try.prog 13 #[.slice (some ⟨g, 0, none⟩) N cc, .int .i64 0] w1 fun e w' => ∃ v', e = .returned v' ∧ RN w' w1.heap.size v' l ∧ Touch [] w1 w') := fun w1 h => by
            have := without13 w1 _ _ (y :: l) 0 h.r.rl Hle.out (by simp) (by have := h.to.size; exact this)
            simpa using this
          have HZl : Hid (∀ x ∈ l, x.at_ = 0) := fun x hx => HZ.out x (by simp [hx])
          clear hm
          go_wp2_with (first
            | (go_at_call 10; refine (HF.out _ C0.out).mono ?_; rintro e w1 ⟨rfl, t1⟩; have C1 := hid (C0.out.quiet t1); have X1 := hid (X0.out.keep0 t1); have x10 := X1.out.c0; have x11 := X1.out.c1; clear t1)
            | (go_at_call 11; refine (HKd.out _).mono ?_; rintro e wk ⟨rfl, rfl⟩)
            | (go_at_call 12; refine (utake_cons _ q F y.it (l.map Tm.it) C1.out.u).mono ?_; rintro e w2 ⟨rfl, u2, t2⟩; have C2 := hid (C1.out.ustep u2 t2 (Nf.refl _ _)); have X2 := hid (X1.out.keep t2 HBq.out); have x21 := X2.out.c1; obtain ⟨g', eg, eN, y0, y1⟩ := C2.out.r.rl.cells (k := 0) (by simp); simp only [Option.some.injEq, Addr.mk.injEq, and_true] at eg; subst eg; simp only [gtT, List.getD_cons_zero, Nat.zero_mul, Nat.zero_add] at y1; clear u2 t2 eN y0)
            | (go_at_call 13; refine (HW.out _ C2.out).mono ?_; rintro e w3 ⟨v3, rfl, r3, t3⟩; obtain ⟨g3, c3, rfl, q3⟩ := r3; have C3 := hid (C2.out.lstep ⟨g3, c3, rfl, q3⟩ t3); have X3 := hid (X2.out.keep0 t3); have x31 := X3.out.c1; clear q3 t3)
            | (go_at_call 18; refine (turns18 _ q _ (l.map Tm.it) ac.it _ _ l C3.out.u C3.out.r rfl HWa.out.2.1).mono ?_; rintro e w9 ⟨rfl, t9⟩; have HR9 := hid (show TuR w w9 q _ _ from ⟨l.map Tm.it, l, C3.out.quiet t9, rfl, HZl.out⟩); clear t9))
          go_roundw
          case rel => exact ⟨n + 1, _, _, _, _, rfl, by go_num, by omega, HR9⟩
          case measure => simp [intOf]; omega
      · by_cases k4 : κ = 4
        · subst k4
          clear hk0 hk6 k3
          rcases fnd_cases l ac.it with e | ⟨p, e⟩
          · have hnx : Hid (¬ ac.it ∈ xs) := fun h => by have := fnd_mem.2 (hm ▸ h); rw [e] at this; omega
            rw [e] at HF
            clear e hm
            go_wp2_with (first
              | (go_at_call 10; refine (HF.out _ C0.out).mono ?_; rintro e w1 ⟨rfl, t1⟩; have C1 := hid (C0.out.quiet t1); have X1 := hid (X0.out.keep0 t1); have x10 := X1.out.c0; have x11 := X1.out.c1; clear t1)
              | (go_at_call 11; refine (HKd.out _).mono ?_; rintro e wk ⟨rfl, rfl⟩)
              | (go_at_call 14; refine (udrop_no _ q F xs ac.it HWa.out.2.1 C1.out.u hnx.out).mono ?_; rintro e w2 ⟨rfl, t2⟩; have C2 := hid (C1.out.quiet t2); have X2 := hid (X1.out.keep0 t2); have x21 := X2.out.c1; clear t2)
              | (go_at_call 18; refine (turns18 _ q _ xs ac.it _ _ l C2.out.u C2.out.r HM.out HWa.out.2.1).mono ?_; rintro e w9 ⟨rfl, t9⟩; have HR9 := hid (show TuR w w9 q _ _ from ⟨xs, l, C2.out.quiet t9, HM.out, HZ.out⟩); clear t9))
            go_roundw
            case rel => exact ⟨n + 1, _, _, _, _, rfl, by go_num, by omega, HR9⟩
            case measure => simp [intOf]; omega
          · obtain ⟨hp, hit⟩ := fnd_lt e
            obtain ⟨hpx, hxp⟩ := getElem_map_it hm hp
            rw [hit] at hxp
            have hm' : Hid ((l.eraseIdx p).map Tm.it = xs.eraseIdx p) := by show _ = _; rw [map_eraseIdx, hm]
            have hz' : Hid (∀ x ∈ l.eraseIdx p, x.at_ = 0) := fun x hx => HZ.out x (List.mem_of_mem_eraseIdx hx)
            rw [e] at HF
            have HW : Hid (∀ w1, TuC w w1 q F (xs.eraseIdx p) (.slice (some ⟨g, 0, none⟩) N cc) l → Calls Try.prog 13 #[.slice (some ⟨g, 0, none⟩) N cc, .int .i64 p] w1 fun e w' => ∃ v', e = .returned v' ∧ RN w' w1.heap.size v' (l.eraseIdx p) ∧ Touch [] w1 w') := fun w1 h => without13 w1 _ _ l p h.r.rl Hle.out hp (by have := h.to.size; exact this)
            have HDp : Hid (∀ w1, TuC w w1 q F xs (.slice (some ⟨g, 0, none⟩) N cc) l → Calls Try.prog 14 #[.pointer (some ⟨q, 0, none⟩), .int .i64 ac.it] w1 fun e w' => e = .returned (.bool true) ∧ Uq w' q F (xs.eraseIdx p) ∧ Touch F w1 w') := fun w1 h => udrop_yes w1 q F xs ac.it HWa.out.2.1 h.u p hpx hxp
            clear e hm hit hxp
            have zp : (0 : Int) ≤ (p : Int) := by omega
            go_wp2_with (first
              | (go_at_call 10; refine (HF.out _ C0.out).mono ?_; rintro e w1 ⟨rfl, t1⟩; have C1 := hid (C0.out.quiet t1); have X1 := hid (X0.out.keep0 t1); have x10 := X1.out.c0; have x11 := X1.out.c1; clear t1)
              | (go_at_call 11; refine (HKd.out _).mono ?_; rintro e wk ⟨rfl, rfl⟩)
              | (go_at_call 14; refine (HDp.out _ C1.out).mono ?_; rintro e w2 ⟨rfl, u2, t2⟩; have C2 := hid (C1.out.ustep u2 t2 (Nf.refl _ _)); have X2 := hid (X1.out.keep t2 HBq.out); have x21 := X2.out.c1; clear u2 t2)
              | (go_at_call 13; refine (HW.out _ C2.out).mono ?_; rintro e w3 ⟨v3, rfl, r3, t3⟩; obtain ⟨g3, c3, rfl, q3⟩ := r3; have C3 := hid (C2.out.lstep ⟨g3, c3, rfl, q3⟩ t3); have X3 := hid (X2.out.keep0 t3); have x31 := X3.out.c1; clear q3 t3)
              | (go_at_call 18; refine (turns18 _ q _ (xs.eraseIdx p) ac.it _ _ (l.eraseIdx p) C3.out.u C3.out.r hm'.out HWa.out.2.1).mono ?_; rintro e w9 ⟨rfl, t9⟩; have HR9 := hid (show TuR w w9 q _ _ from ⟨(xs.eraseIdx p), (l.eraseIdx p), C3.out.quiet t9, hm'.out, hz'.out⟩); clear t9))
            go_roundw
            case rel => exact ⟨n + 1, _, _, _, _, rfl, by go_num, by omega, HR9⟩
            case measure => simp [intOf]; omega
        · by_cases k5 : κ = 5
          · subst k5
            clear hk0 hk6 k3 k4
            rcases fnd_cases l ac.it with e | ⟨p, e⟩
            · have hnx : Hid (¬ ac.it ∈ xs) := fun h => by have := fnd_mem.2 (hm ▸ h); rw [e] at this; omega
              rw [e] at HF
              clear e hm
              go_wp2_with (first
                | (go_at_call 10; refine (HF.out _ C0.out).mono ?_; rintro e w1 ⟨rfl, t1⟩; have C1 := hid (C0.out.quiet t1); have X1 := hid (X0.out.keep0 t1); have x10 := X1.out.c0; have x11 := X1.out.c1; clear t1)
                | (go_at_call 11; refine (HKd.out _).mono ?_; rintro e wk ⟨rfl, rfl⟩)
                | (go_at_call 15; refine (uback_no _ q F xs ac.it HWa.out.2.1 C1.out.u hnx.out).mono ?_; rintro e w2 ⟨rfl, t2⟩; have C2 := hid (C1.out.quiet t2); have X2 := hid (X1.out.keep0 t2); have x21 := X2.out.c1; clear t2)
                | (go_at_call 18; refine (turns18 _ q _ xs ac.it _ _ l C2.out.u C2.out.r HM.out HWa.out.2.1).mono ?_; rintro e w9 ⟨rfl, t9⟩; have HR9 := hid (show TuR w w9 q _ _ from ⟨xs, l, C2.out.quiet t9, HM.out, HZ.out⟩); clear t9))
              go_roundw
              case rel => exact ⟨n + 1, _, _, _, _, rfl, by go_num, by omega, HR9⟩
              case measure => simp [intOf]; omega
            · obtain ⟨hp, hit⟩ := fnd_lt e
              obtain ⟨hpx, hxp⟩ := getElem_map_it hm hp
              rw [hit] at hxp
              have hlx : l.length = xs.length := by rw [← hm]; simp
              obtain ⟨le, hle⟩ : ∃ le, le = l.eraseIdx p := ⟨_, rfl⟩
              obtain ⟨l2, hl2⟩ : ∃ l2, l2 = le ++ [(⟨0, ac.it⟩ : Tm)] := ⟨_, rfl⟩
              have hm' : Hid (l2.map Tm.it = xs.eraseIdx p ++ [ac.it]) := by show _ = _; rw [hl2, hle, List.map_append, map_eraseIdx, hm]; rfl
              have hz' : Hid (∀ x ∈ l2, x.at_ = 0) := fun x hx => by
                rw [hl2, hle] at hx
                simp only [List.mem_append, List.mem_singleton] at hx
                rcases hx with h | h
                · exact HZ.out x (List.mem_of_mem_eraseIdx h)
                · rw [h]
              rw [e] at HF
              have HW : Hid (∀ w2 w1 F2 ys, TuC w w2 q F2 ys (.slice (some ⟨g, 0, none⟩) N cc) l → Touch [] w2 w1 → Calls Try.prog 13 #[.slice (some ⟨g, 0, none⟩) N cc, .int .i64 p] w1 fun e w' => ∃ v', e = .returned v' ∧ RN w' w2.heap.size v' le ∧ Touch [] w1 w') := fun w2 w1 F2 ys h t => by
                refine (without13 w1 _ _ l p (h.r.keep0 t).rl Hle.out hp (Nat.le_trans h.to.size t.size)).mono ?_
                rintro e w' ⟨v', he, hr, ht⟩
                exact ⟨v', he, by rw [hle]; exact hr.base t.size, ht⟩
              have HDp : Hid (∀ w1, TuC w w1 q F xs (.slice (some ⟨g, 0, none⟩) N cc) l → Calls Try.prog 15 #[.pointer (some ⟨q, 0, none⟩), .int .i64 ac.it] w1 fun e w' => e = .returned (.bool true) ∧ ∃ F', Uq w' q F' (xs.eraseIdx p ++ [ac.it]) ∧ Touch F w1 w' ∧ Nf w1 F F') := fun w1 h => uback_yes w1 q F xs ac.it HWa.out.2.1 h.u p hpx hxp
              have hleL : Hid (le.length < 65536) := by show _ < _; rw [hle, List.length_eraseIdx_of_lt hp]; have := Hle.out; omega
              have HL2 := hid hl2
              clear e hm hit hxp hlx hl2 hle
              have zp : (0 : Int) ≤ (p : Int) := by omega
              obtain ⟨i34, hi, hz0, hz1, hz2⟩ := info_parts info34
              go_wp2_with (first
                | (go_at_call 10; refine (HF.out _ C0.out).mono ?_; rintro e w1 ⟨rfl, t1⟩; have C1 := hid (C0.out.quiet t1); have X1 := hid (X0.out.keep0 t1); have x10 := X1.out.c0; have x11 := X1.out.c1; clear t1)
                | (go_at_call 11; refine (HKd.out _).mono ?_; rintro e wk ⟨rfl, rfl⟩)
                | (go_at_call 15; refine (HDp.out _ C1.out).mono ?_; rintro e w2 ⟨rfl, F2, u2, t2, n2⟩; have C2 := hid (C1.out.ustep u2 t2 n2); have X2 := hid (X1.out.keep t2 HBq.out); have x21 := X2.out.c1; clear u2 t2 n2))
              have f21 : ∀ w', Touch [] w2 w' → w'.cell? ⟨wr.heap.size, 1, none⟩ = some (.int .i64 ac.it) := fun w' t => (X2.out.keep0 t).c1
              clear x10 x11 x21 r0 r1 r2
              go_region_held3 (fun w' => Touch [] w2 w') (first | assumption | exact (Touch.refl _ _).drew | exact Touch.refl _ _ | exact Touch.drew (by assumption) | exact Touch.alloc (by assumption) _)
                (first
                  | (go_at_call 13; refine (HW.out w2 _ _ _ C2.out (by assumption)).mono ?_; rintro e w3 ⟨v3, rfl, r3, t3⟩; have R3 := hid r3; have K3 : Touch [] w2 w3 := Touch.trans' (by assumption) t3)
                  | (refine step_append_lies _ (by rfl) _ _ _ (by rfl) w2.heap.size 34 i34 (.agg #[.int .i64 0, .int .i64 0]) 2 16 Try.underlying26 hi hz0 hz1 hz2 (by rfl) (by decide) v3 le.length (flatT le) (by rfl) (own_touch R3.out.rl (F := []) (by first | exact Touch.refl _ _ | exact (Touch.refl _ _).alloc _ | exact ((Touch.refl _ _).alloc _).drew) (fun _ _ e => by cases e)) ⟨_, 0, none⟩ 1 1 [.int .i64 0, .int .i64 ac.it] (by rfl) (by rfl) (by first | exact cell_two_new _ _ _ _ | (intro j u hj; exact touch_cell t3 (cell_two_new _ _ _ _ j u hj)) | (intro j u hj; exact touch_cell t3 (touch_cell (Touch.refl _ _).drew (cell_two_new _ _ _ _ j u hj)))) (by simp [Value.oneCell']) (by decide) (by have := hleL.out; unfold maxLen; omega) (by have := hleL.out; omega) (by have := K3.size; first | exact this | (simp; omega)) _ rfl ?_; intro g4 c4 w4 hr4 hgrow hat hlt4; have K4 : Touch [] w2 w4 := Touch.grown (by first | exact K3 | exact K3.alloc _ | assumption) hgrow (fun k hk => Or.inr (R3.out.rl.lt k hk).1)))
              all_goals
                have C4 := hid (show TuC w w4 q F2 (xs.eraseIdx p ++ [ac.it]) (.slice (some ⟨g4, 0, none⟩) (le.length + 1) c4) l2 from C2.out.lstep ⟨g4, c4, by rw [HL2.out]; simp, by rw [HL2.out]; unfold RL; rw [flatT_app, List.length_append]; exact hr4⟩ K4)
                have X4 := hid (X2.out.keep0 K4)
                have x41 := X4.out.c1
                clear f21 hr4 hgrow hat
                go_wp2_with (first | (go_at_call 18; refine (turns18 _ q _ (xs.eraseIdx p ++ [ac.it]) ac.it _ _ l2 C4.out.u C4.out.r hm'.out HWa.out.2.1).mono ?_; rintro e w9 ⟨rfl, t9⟩; have HR9 := hid (show TuR w w9 q _ _ from ⟨(xs.eraseIdx p ++ [ac.it]), l2, C4.out.quiet t9, hm'.out, hz'.out⟩); clear t9))
                go_roundw
                case rel => exact ⟨n + 1, _, _, _, _, rfl, by go_num, by omega, HR9⟩
                case measure => simp [intOf]; omega
          · have b3 : (κ == 3) = false := by simpa using k3
            have b4 : (κ == 4) = false := by simpa using k4
            have b5 : (κ == 5) = false := by simpa using k5
            clear hk0 hk6 k3 k4 k5
            by_cases hin : ac.it ∈ xs
            · have hf0 : 0 ≤ fnd l ac.it := fnd_mem.2 (hm ▸ hin)
              have HRp : Hid (∀ w1, TuC w w1 q F xs (.slice (some ⟨g, 0, none⟩) N cc) l → Calls Try.prog 16 #[.slice (some ⟨g, 0, none⟩) N cc, .int .i64 0, .int .i64 ac.it] w1 fun e w' => e = .returned (.tuple #[.slice (some ⟨g, 0, none⟩) N cc, .int .i64 40]) ∧ Touch [] w1 w') := fun w1 h => rput_there w1 _ _ l 0 ac.it h.r.rl Hle.out (isT_yes (by omega)) hf0
              have Hin := hid hin
              generalize fnd l ac.it = f at *
              clear hm hin hf0
              go_wp2_with (first
                | (go_at_call 10; refine (HF.out _ C0.out).mono ?_; rintro e w1 ⟨rfl, t1⟩; have C1 := hid (C0.out.quiet t1); have X1 := hid (X0.out.keep0 t1); have x10 := X1.out.c0; have x11 := X1.out.c1; clear t1)
                | (go_at_call 11; refine (HKd.out _).mono ?_; rintro e wk ⟨rfl, rfl⟩)
                | (go_at_call 16; refine (HRp.out _ C1.out).mono ?_; rintro e w2 ⟨rfl, t2⟩; have C2 := hid (C1.out.quiet t2); have X2 := hid (X1.out.keep0 t2); have x21 := X2.out.c1; clear t2)
                | (go_at_call 17; refine (uput_there _ q F xs ac.it HWa.out.2.1 C2.out.u Hin.out).mono ?_; rintro e w3 ⟨rfl, t3⟩; have C3 := hid (C2.out.quiet t3); have X3 := hid (X2.out.keep0 t3); have x31 := X3.out.c1; clear t3)
                | (go_at_call 18; refine (turns18 _ q _ xs ac.it _ _ l C3.out.u C3.out.r HM.out HWa.out.2.1).mono ?_; rintro e w9 ⟨rfl, t9⟩; have HR9 := hid (show TuR w w9 q _ _ from ⟨xs, l, C3.out.quiet t9, HM.out, HZ.out⟩); clear t9))
              go_roundw
              case rel => exact ⟨n + 1, _, _, _, _, rfl, by go_num, by omega, HR9⟩
              case measure => simp [intOf]; omega
            · have hf0 : fnd l ac.it < 0 := by
                rcases fnd_cases l ac.it with h | ⟨p, h⟩
                · omega
                · exact absurd (hm ▸ fnd_mem.1 (by omega)) hin
              have hlx : l.length = xs.length := by rw [← hm]; simp
              by_cases hmany : 65536 ≤ l.length
              · have HRp : Hid (∀ w1, TuC w w1 q F xs (.slice (some ⟨g, 0, none⟩) N cc) l → Calls Try.prog 16 #[.slice (some ⟨g, 0, none⟩) N cc, .int .i64 0, .int .i64 ac.it] w1 fun e w' => e = .returned (.tuple #[.slice (some ⟨g, 0, none⟩) N cc, .int .i64 3]) ∧ Touch [] w1 w') := fun w1 h => rput_many w1 _ _ l 0 ac.it h.r.rl Hle.out (isT_yes (by omega)) hf0 hmany
                have HUp : Hid (∀ w1, Uq w1 q F xs → Calls Try.prog 17 #[.pointer (some ⟨q, 0, none⟩), .int .i64 ac.it] w1 fun e w' => e = .returned (.int .i64 3) ∧ Touch [] w1 w') := fun w1 h => uput_many w1 q F xs ac.it HWa.out.2.1 h hin (by omega)
                generalize fnd l ac.it = f at *
                clear hm hin hf0 hlx hmany
                go_wp2_with (first
                  | (go_at_call 10; refine (HF.out _ C0.out).mono ?_; rintro e w1 ⟨rfl, t1⟩; have C1 := hid (C0.out.quiet t1); have X1 := hid (X0.out.keep0 t1); have x10 := X1.out.c0; have x11 := X1.out.c1; clear t1)
                  | (go_at_call 11; refine (HKd.out _).mono ?_; rintro e wk ⟨rfl, rfl⟩)
                  | (go_at_call 16; refine (HRp.out _ C1.out).mono ?_; rintro e w2 ⟨rfl, t2⟩; have C2 := hid (C1.out.quiet t2); have X2 := hid (X1.out.keep0 t2); have x21 := X2.out.c1; clear t2)
                  | (go_at_call 17; refine (HUp.out _ C2.out.u).mono ?_; rintro e w3 ⟨rfl, t3⟩; have C3 := hid (C2.out.quiet t3); have X3 := hid (X2.out.keep0 t3); have x31 := X3.out.c1; clear t3)
                  | (go_at_call 18; refine (turns18 _ q _ xs ac.it _ _ l C3.out.u C3.out.r HM.out HWa.out.2.1).mono ?_; rintro e w9 ⟨rfl, t9⟩; have HR9 := hid (show TuR w w9 q _ _ from ⟨xs, l, C3.out.quiet t9, HM.out, HZ.out⟩); clear t9))
                go_roundw
                case rel => exact ⟨n + 1, _, _, _, _, rfl, by go_num, by omega, HR9⟩
                case measure => simp [intOf]; omega
              · have HRp : Hid (∀ w1, TuC w w1 q F xs (.slice (some ⟨g, 0, none⟩) N cc) l → Calls Try.prog 16 #[.slice (some ⟨g, 0, none⟩) N cc, .int .i64 0, .int .i64 ac.it] w1 fun e w' => RpQ e w1 w' l 0 ac.it) := fun w1 h => rput_ok w1 _ _ l 0 ac.it h.r (by omega) (isT_yes (by omega)) hf0 (by have := h.to.size; exact this)
                have HUp : Hid (∀ w1, Uq w1 q F xs → Calls Try.prog 17 #[.pointer (some ⟨q, 0, none⟩), .int .i64 ac.it] w1 fun e w' => e = .returned (.int .i64 0) ∧ ∃ F', Uq w' q F' (xs ++ [ac.it]) ∧ Touch F w1 w' ∧ Nf w1 F F') := fun w1 h => uput_ok w1 q F xs ac.it HWa.out.2.1 h hin (by omega)
                have hm' : Hid ((l ++ [(⟨0, ac.it⟩ : Tm)]).map Tm.it = xs ++ [ac.it]) := by show _ = _; rw [List.map_append, hm]; rfl
                have hz' : Hid (∀ x ∈ l ++ [(⟨0, ac.it⟩ : Tm)], x.at_ = 0) := fun x hx => by
                  simp only [List.mem_append, List.mem_singleton] at hx
                  rcases hx with h | h
                  · exact HZ.out x h
                  · rw [h]
                generalize fnd l ac.it = f at *
                obtain ⟨l2, hl2⟩ : ∃ l2, l2 = l ++ [(⟨0, ac.it⟩ : Tm)] := ⟨_, rfl⟩
                rw [← hl2] at hm' hz'
                have HL2 := hid hl2
                clear hm hin hf0 hlx hmany hl2
                go_wp2_with (first
                  | (go_at_call 10; refine (HF.out _ C0.out).mono ?_; rintro e w1 ⟨rfl, t1⟩; have C1 := hid (C0.out.quiet t1); have X1 := hid (X0.out.keep0 t1); have x10 := X1.out.c0; have x11 := X1.out.c1; clear t1)
                  | (go_at_call 11; refine (HKd.out _).mono ?_; rintro e wk ⟨rfl, rfl⟩)
                  | (go_at_call 16; refine (HRp.out _ C1.out).mono ?_; rintro e w2 ⟨v2, i2, rfl, p2, r2', t2⟩; rw [posT_zero p2 HZ.out, insT_end, ← HL2.out] at r2'; obtain ⟨g2, c2, rfl, q2⟩ := r2'; have C2 := hid (C1.out.lstep ⟨g2, c2, rfl, q2⟩ t2); have X2 := hid (X1.out.keep0 t2); have x21 := X2.out.c1; clear t2 q2 p2)
                  | (go_at_call 17; refine (HUp.out _ C2.out.u).mono ?_; rintro e w3 ⟨rfl, F3, u3, t3, n3⟩; have C3 := hid (C2.out.ustep u3 t3 n3); have X3 := hid (X2.out.keep t3 (fun h => HBq.out h)); have x31 := X3.out.c1; clear t3 u3 n3)
                  | (go_at_call 18; refine (turns18 _ q _ (xs ++ [ac.it]) ac.it _ _ l2 C3.out.u C3.out.r hm'.out HWa.out.2.1).mono ?_; rintro e w9 ⟨rfl, t9⟩; have HR9 := hid (show TuR w w9 q _ _ from ⟨(xs ++ [ac.it]), l2, C3.out.quiet t9, hm'.out, hz'.out⟩); clear t9))
                go_roundw
                case rel => exact ⟨n + 1, _, _, _, _, rfl, by go_num, by omega, HR9⟩
                case measure => simp [intOf]; omega

    · have zn : ¬ (n : Int) < (A : Int) := by omega
      go_wp2
      go_ret
      exact ⟨rfl, HR.out.choose_spec.choose_spec.1.to⟩
end Go.Proofs.Ytonkclllofbklaa
