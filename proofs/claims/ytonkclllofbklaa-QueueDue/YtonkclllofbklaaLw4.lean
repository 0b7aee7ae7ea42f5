/- The walk of the law QueueTimes: whatever is done in whatever order; the list of acts is within the form's reach. -/
import Derived.Test.YtonkclllofbklaaTim
import Derived.Test.YtonkclllofbklaaLw3
namespace Go.Proofs.Ytonkclllofbklaa
open Go.RowKit Go.Maps Go.ChangeMaps
set_option linter.unusedVariables false
/-- A queue by time and a list of the document's, both made since w. -/
structure TiC (w wr : World) (q : Nat) (F : List Nat) (p : Int) (S : List Slot) (v : Value) (l : List Tm) : Prop where
  u : Tq wr q F p S
  r : RN wr w.heap.size v l
  nu : ∀ k, k ∈ F → w.heap.size ≤ k
  to : Touch [] w wr
theorem TiC.quiet {w wr w' : World} {q : Nat} {F : List Nat} {p : Int} {S : List Slot} {v : Value} {l : List Tm} (h : TiC w wr q F p S v l) (ht : Touch [] wr w') : TiC w w' q F p S v l := ⟨h.u.keep0 ht, h.r.keep0 ht, h.nu, h.to.trans' ht⟩
theorem TiC.ustep {w wr w' : World} {q : Nat} {F F' : List Nat} {p p' : Int} {S S' : List Slot} {v : Value} {l : List Tm} (h : TiC w wr q F p S v l) (hu : Tq w' q F' p' S') (ht : Touch F wr w') (hn : Nf wr F F') : TiC w w' q F' p' S' v l := by
  refine ⟨hu, h.r.keep ht (fun b hb => h.u.apart h.r.rl (by decide) (by decide) b hb), fun k hk => ?_, h.to.trans ht (fun i hi => Or.inr (h.nu i hi))⟩
  rcases hn k hk with e | e
  · exact h.nu k e
  · exact Nat.le_trans h.to.size e
theorem TiC.lstep {w wr w' : World} {q : Nat} {F : List Nat} {p : Int} {S : List Slot} {v v' : Value} {l l' : List Tm} (h : TiC w wr q F p S v l) (hr : RN w' wr.heap.size v' l') (ht : Touch [] wr w') : TiC w w' q F p S v' l' := ⟨h.u.keep0 ht, hr.base h.to.size, h.nu, h.to.trans' ht⟩
/-- The loop's claim: n acts are done. -/
def TiR (w wr : World) (q : Nat) (F : List Nat) (v : Value) (n : Nat) : Prop := ∃ S p, TiC w wr q F p S v (tms S) ∧ p ≤ (n : Int)
theorem tmsDue (S : List Slot) (now : Int) : dueT (tms S) now = due S now := by
  unfold dueT due tms
  induction S with
  | nil => rfl
  | cons x S ih =>
    rw [List.map_cons, List.takeWhile_cons, List.takeWhile_cons]
    by_cases h : x.at_ ≤ now
    · rw [if_pos (show decide ((tmOf x).at_ ≤ now) = true from decide_eq_true h), if_pos (show decide (x.at_ ≤ now) = true from decide_eq_true h)]
      simp only [List.length_cons]
      rw [ih]
    · rw [if_neg (show ¬ decide ((tmOf x).at_ ≤ now) = true from fun e => h (of_decide_eq_true e)), if_neg (show ¬ decide (x.at_ ≤ now) = true from fun e => h (of_decide_eq_true e))]
      rfl
theorem tms_eraseIdx (S : List Slot) (p : Nat) : tms (S.eraseIdx p) = (tms S).eraseIdx p := by
  unfold tms
  induction S generalizing p with
  | nil => simp
  | cons x S ih => cases p with | zero => simp | succ p => simp [ih]
theorem tms_ins (S : List Slot) (i : Nat) (t p k : Int) : tms (ins S i ⟨t, p, k⟩) = insT (tms S) i ⟨t, k⟩ := by
  unfold tms ins insT
  simp [tmOf, List.map_take, List.map_drop]
theorem pos_tms {S : List Slot} {t : Int} {i : Nat} (h : PosT (tms S) t i) : Pos S t i := by
  obtain ⟨h1, h2, h3⟩ := h
  rw [tms_len] at h1 h2
  refine ⟨h1, fun j hj hij => ?_, fun h0 => ?_⟩
  · have := h2 j hj hij
    rw [gtT_tms hj] at this
    exact this
  · have := h3 h0
    rw [gtT_tms (by omega)] at this
    exact this
theorem due_pos {S : List Slot} {now : Int} : (0 < due S now ↔ ∃ x R, S = x :: R ∧ x.at_ ≤ now) := by
  cases S with
  | nil => simp [due]
  | cons x S =>
    unfold due
    rw [List.takeWhile_cons]
    by_cases h : x.at_ ≤ now
    · rw [if_pos (by simpa using h)]
      simp [h]
    · rw [if_neg (by simpa using h)]
      simp
      omega
theorem wt_nf {w : World} {q : Nat} {F : List Nat} {p : Int} {S : List Slot} (h : Tq w q F p S) : ¬ w.heap.size ∈ F := fun e => by have := h.lt _ e; omega
theorem DuS.due {w w' : World} {q : Nat} {F : List Nat} {p : Int} {S : List Slot} {now : Int} {v : Value} {k : Nat} (h : DuS w w' q F p S now v k 0 false) : k = Ytonkclllofbklaa.due S now ∧ ∃ F', Tq w' q F' p (S.drop k) ∧ Nf w F F' := by
  obtain ⟨F', h1, h2, h3⟩ : ∃ F', (S.drop k = [] ∨ now < (gt (S.drop k) 0).at_) ∧ Tq w' q F' p (S.drop k) ∧ Nf w F F' := by
    rcases h.st with ⟨e, _⟩ | ⟨_, r⟩
    · cases e
    · exact r
  refine ⟨?_, F', h2, h3⟩
  have ha := h.all
  have hk := h.hk
  clear h h2 h3
  unfold Ytonkclllofbklaa.due
  induction S generalizing k with
  | nil => simp at hk; subst hk; rfl
  | cons x S ih =>
    cases k with
    | zero =>
      have : now < x.at_ := by
        rcases h1 with e | e
        · simp at e
        · exact e
      rw [List.takeWhile_cons, if_neg (by simp; omega)]
      rfl
    | succ k =>
      have h0 : x.at_ ≤ now := ha 0 (by omega)
      rw [List.takeWhile_cons, if_pos (by simpa using h0)]
      rw [List.length_cons]
      congr 1
      exact ih (by simpa using h1) (fun j hj => ha (j + 1) (by omega)) (by simpa using hk)
def DuE (e : Ending) (w w' : World) (q : Nat) (F : List Nat) (p : Int) (S : List Slot) (D : Nat) : Prop := ∃ a c F', e = .returned (.slice a D c) ∧ w'.ownsRow w.heap.size 3 1 (.slice a D c) D (items (S.take D)) ∧ Tq w' q F' p (S.drop D) ∧ Touch F w w' ∧ Nf w F F'

set_option maxHeartbeats 8000000 in
set_option maxRecDepth 100000 in
theorem law4 (w : World) (acts : List Act) (v : Value) (hv : SlA w v acts) (wf : ∀ x ∈ acts, WfA x) (hlen : acts.length ≤ 5864062014635) :
    Calls Try.prog 4 #[v] w fun e w' => e = .returned (.bool true) ∧ Touch [] w w' := by
  obtain ⟨a, c, rfl, HA⟩ : ∃ a c, v = .slice a acts.length c ∧ Hid (acts = [] ∨ ∃ b off, a = some ⟨b, off, none⟩ ∧ RowA w b off acts) := by
    rcases hv with ⟨rfl, a, c, rfl⟩ | ⟨b, off, cap, rfl, hr⟩
    · exact ⟨a, c, rfl, Or.inl rfl⟩
    · exact ⟨_, cap, rfl, Or.inr ⟨b, off, rfl, hr⟩⟩
  have zA : (acts.length : Int) ≤ 5864062014635 := by omega
  have HWf := hid wf
  clear hv wf
  obtain ⟨A, hA⟩ : ∃ A, A = acts.length := ⟨_, rfl⟩
  have HAl := hid hA
  rw [← hA] at zA hlen ⊢
  clear hA
  go_enter Try.func4, Try.ntmps4
  go_wp2_with fail
  refine (newTimes19 w).mono ?_
  rintro e w1 ⟨rfl, u1, t1⟩
  have U1 := hid u1
  have T1 := hid t1
  clear u1 t1
  unfold PT
  go_wp2_with (go_at_call 9; refine (awake9 _).mono ?_; rintro e w2 ⟨rfl, t2⟩; have T2 := hid (T1.out.trans' t2); have U2 := hid (U1.out.keep0 t2); clear t2)
  have HS : Hid (TiR w (w2.alloc (.cells #[] 34)) w.heap.size [w.heap.size] (.slice (some ⟨w2.heap.size, 0, none⟩) 0 0) 0) := by
    refine ⟨[], 0, ⟨U2.out.keep0 ((Touch.refl _ _).alloc _), ⟨w2.heap.size, 0, rfl, World.ownsRow_made w2 #[] 0 T2.out.size (by unfold maxLen; omega) rfl⟩, fun k hk => by simp at hk; omega, T2.out.alloc _⟩, by simp⟩
  clear T1 T2 U1 U2
  generalize w.heap.size = q at *
  generalize w2.heap.size = g0 at *
  go_loopw [4, 22] (fun s4 i wr => ∃ (n g c N : Nat) (F : List Nat), s4 = .slice (some ⟨g, 0, none⟩) N c ∧ i = .int .i64 n ∧ n ≤ A ∧ Hid (TiR w wr q F (.slice (some ⟨g, 0, none⟩) N c) n)) (fun _ i _ => A - (intOf i).toNat)
  case atStart => exact ⟨0, g0, 0, 0, _, rfl, rfl, Nat.zero_le _, HS⟩
  case round =>
    clear HS
    obtain ⟨n, g, cc, N, F, rfl, rfl, hn, HR⟩ := hrel
    by_cases hlt : n < A
    · have zn : (n : Int) < (A : Int) := by omega
      obtain ⟨S, p, hC, hp⟩ := HR.out
      obtain ⟨b, off, rfl, hrow⟩ : ∃ b off, a = some ⟨b, off, none⟩ ∧ RowA w b off acts := by
        rcases HA.out with e | ⟨b, off, e, h⟩
        · have := HAl.out; rw [e] at this; simp at this; omega
        · exact ⟨b, off, e, h⟩
      have hna : n < acts.length := by have := HAl.out; omega
      have hrow' := hrow.keep hC.to
      have r0 := hrow'.c0 n hna
      have r1 := hrow'.c1 n hna
      have r2 := hrow'.c2 n hna
      have HWa := hid (HWf.out _ (List.getElem_mem hna))
      obtain ⟨ac, hac⟩ : ∃ ac, ac = acts[n] := ⟨_, rfl⟩
      rw [← hac] at r0 r1 r2 HWa
      clear hac hrow hrow' HA HR
      have hN : N = S.length := by
        obtain ⟨g', c', e, _⟩ := hC.r
        injection e with _ e2 _
        rw [e2, tms_len]
      have hlle : (tms S).length ≤ 65536 := by
        have h1 := hC.u.len
        rw [tms_len]
        omega
      obtain ⟨W0, hW0⟩ : ∃ W0, W0 = wr.alloc (.cells #[.int .i64 ac.kd, .int .i64 ac.it, .int .i64 ac.at_] 28) := ⟨_, rfl⟩
      have X0 := hid (show Bx W0 wr.heap.size ac from by rw [hW0]; exact Bx.new wr ac)
      have C0 := hid (show TiC w W0 q F p S (.slice (some ⟨g, 0, none⟩) N cc) (tms S) from by rw [hW0]; exact hC.quiet ((Touch.refl _ wr).alloc _))
      have HW0 := hid hW0
      have x00 := X0.out.c0
      have x01 := X0.out.c1
      have x02 := X0.out.c2
      have HBq : Hid (¬ wr.heap.size ∈ F) := wt_nf hC.u
      have HKd : Hid (∀ w1, Calls Try.prog 11 #[.int .i64 ac.kd, .int .i64 6] w1 fun e w' => e = .returned (.int .i64 (ac.kd % 6)) ∧ w' = w1) := fun w1 => kind11 ac.kd HWa.out.1 w1
      have hk0 := Int.emod_nonneg ac.kd (show (6 : Int) ≠ 0 by decide)
      have hk6 := Int.emod_lt_of_pos ac.kd (show (0 : Int) < 6 by decide)
      have HD : Hid (∀ w1, TiC w w1 q F p S (.slice (some ⟨g, 0, none⟩) N cc) (tms S) → Calls Try.prog 20 #[.slice (some ⟨g, 0, none⟩) N cc, .int .i64 ac.at_] w1 fun e w' => e = .returned (.int .i64 (due S ac.at_)) ∧ w' = w1) := fun w1 h => by
        have := rdue20 w1 _ _ (tms S) ac.at_ h.r.rl hlle
        rw [tmsDue] at this
        exact this
      have HF : Hid (∀ w1, TiC w w1 q F p S (.slice (some ⟨g, 0, none⟩) N cc) (tms S) → Calls Try.prog 10 #[.slice (some ⟨g, 0, none⟩) N cc, .int .i64 ac.it] w1 fun e w' => e = .returned (.int .i64 (fnd (tms S) ac.it)) ∧ Touch [] w1 w') := fun w1 h => find10 w1 _ _ (tms S) ac.it h.r.rl hlle
      have HP := hid hp
      have HN := hid hN
      have Hle := hid hlle
      have hdle : Hid (due S ac.at_ ≤ S.length) := by unfold due; exact (List.takeWhile_prefix _).length_le
      clear hC hN hlle hp hW0
      generalize hkk : ac.kd % 6 = κ at *
      clear hkk
      by_cases k3 : κ = 3
      · subst k3
        clear hk0 hk6 HF
        by_cases hd0 : 0 < due S ac.at_
        · obtain ⟨x, R, rfl, hxa⟩ := due_pos.1 hd0
          have zd : (0 : Int) < (due (x :: R) ac.at_ : Int) := by omega
          have HTk : Hid (∀ w1, TiC w w1 q F p (x :: R) (.slice (some ⟨g, 0, none⟩) N cc) (tms (x :: R)) → Calls Try.prog 21 #[.pointer (some ⟨q, 0, none⟩), .int .i64 ac.at_] w1 fun e w' => e = .returned (.tuple #[.int .i64 x.item, .bool true]) ∧ ∃ F', Tq w' q F' p R ∧ Touch F w1 w' ∧ Nf w1 F F') := fun w1 h => take21_yes w1 q F p x R ac.at_ h.u hxa
          have HW : Hid (∀ w1 F2, TiC w w1 q F2 p R (.slice (some ⟨g, 0, none⟩) N cc) (tms (x :: R)) → Calls Try.prog 13 #[.slice (some ⟨g, 0, none⟩) N cc, .int .i64 0] w1 fun e w' => ∃ v', e = .returned v' ∧ RN w' w1.heap.size v' (tms R) ∧ Touch [] w1 w') := fun w1 F2 h => by
            have := without13 w1 _ _ (tms (x :: R)) 0 h.r.rl Hle.out (by simp [tms]) (by have := h.to.size; exact this)
            simpa [tms] using this
          have zN : (0 : Int) < (N : Int) := by have := HN.out; simp at this; omega
          clear hd0
          generalize due (x :: R) ac.at_ = D at *
          go_wp2_with fail
          rw [← HW0.out]
          go_wp2_with (first
            | (go_at_call 20; refine (HD.out _ C0.out).mono ?_; rintro e wd ⟨rfl, rfl⟩)
            | (go_at_call 11; refine (HKd.out _).mono ?_; rintro e wk ⟨rfl, rfl⟩)
            | (go_at_call 21; refine (HTk.out _ C0.out).mono ?_; rintro e w2 ⟨rfl, F2, u2, t2, n2⟩; have C2 := hid (C0.out.ustep u2 t2 n2); have X2 := hid (X0.out.keep t2 HBq.out); have x21 := X2.out.c1; obtain ⟨g', eg, eN, y0, y1⟩ := C2.out.r.rl.cells (k := 0) (by simp [tms]); simp only [Option.some.injEq, Addr.mk.injEq, and_true] at eg; subst eg; simp only [gtT, tms, List.map_cons, List.getD_cons_zero, Nat.zero_mul, Nat.zero_add, tmOf] at y1; clear u2 t2 n2 eN y0)
            | (go_at_call 13; refine (HW.out _ _ C2.out).mono ?_; rintro e w3 ⟨v3, rfl, r3, t3⟩; obtain ⟨g3, c3, rfl, q3⟩ := r3; have C3 := hid (C2.out.lstep ⟨g3, c3, rfl, q3⟩ t3); have X3 := hid (X2.out.keep0 t3); have x31 := X3.out.c1; clear q3 t3)
            | (go_at_call 25; refine (times25 _ q _ p R ac.it _ _ C3.out.u C3.out.r HWa.out.2.1).mono ?_; rintro e w9 ⟨rfl, t9⟩; have HR9 := hid (show TiR w w9 q _ _ (n + 1) from ⟨R, p, C3.out.quiet t9, (by have := HP.out; omega)⟩); clear t9))
          go_roundw
          case rel => exact ⟨n + 1, _, _, _, _, rfl, by go_num, by omega, HR9⟩
          case measure => simp [intOf]; omega
        · have hno : S = [] ∨ ac.at_ < (gt S 0).at_ := by
            cases S with
            | nil => exact Or.inl rfl
            | cons x R =>
              right
              have : ¬ x.at_ ≤ ac.at_ := fun e => hd0 (due_pos.2 ⟨x, R, rfl, e⟩)
              rw [gt_zero_cons]; omega
          have HTk : Hid (∀ w1, TiC w w1 q F p S (.slice (some ⟨g, 0, none⟩) N cc) (tms S) → Calls Try.prog 21 #[.pointer (some ⟨q, 0, none⟩), .int .i64 ac.at_] w1 fun e w' => e = .returned (.tuple #[.int .i64 0, .bool false]) ∧ Touch [] w1 w') := fun w1 h => take21_no w1 q F p S ac.at_ h.u hno
          have zd : ¬ (0 : Int) < (due S ac.at_ : Int) := by omega
          clear hd0 hno
          generalize due S ac.at_ = D at *
          go_wp2_with fail
          rw [← HW0.out]
          go_wp2_with (first
            | (go_at_call 20; refine (HD.out _ C0.out).mono ?_; rintro e wd ⟨rfl, rfl⟩)
            | (go_at_call 11; refine (HKd.out _).mono ?_; rintro e wk ⟨rfl, rfl⟩)
            | (go_at_call 21; refine (HTk.out _ C0.out).mono ?_; rintro e w2 ⟨rfl, t2⟩; have C2 := hid (C0.out.quiet t2); have X2 := hid (X0.out.keep0 t2); have x21 := X2.out.c1; clear t2)
            | (go_at_call 25; refine (times25 _ q _ p S ac.it _ _ C2.out.u C2.out.r HWa.out.2.1).mono ?_; rintro e w9 ⟨rfl, t9⟩; have HR9 := hid (show TiR w w9 q _ _ (n + 1) from ⟨S, p, C2.out.quiet t9, (by have := HP.out; omega)⟩); clear t9))
          go_roundw
          case rel => exact ⟨n + 1, _, _, _, _, rfl, by go_num, by omega, HR9⟩
          case measure => simp [intOf]; omega
      · by_cases k4 : κ = 4
        · subst k4
          clear hk0 hk6 k3
          generalize due S ac.at_ = D at *
          cases hix : idx S ac.it with
          | none =>
            have e : fnd (tms S) ac.it = -1 := by rw [fnd_idx, hix]
            rw [e] at HF
            have HDr : Hid (∀ w1, TiC w w1 q F p S (.slice (some ⟨g, 0, none⟩) N cc) (tms S) → Calls Try.prog 22 #[.pointer (some ⟨q, 0, none⟩), .int .i64 ac.it] w1 fun e w' => e = .returned (.bool false) ∧ w' = w1) := fun w1 h => drop22_no w1 q F p S ac.it HWa.out.2.1 h.u hix
            clear e hix
            go_wp2_with fail
            rw [← HW0.out]
            go_wp2_with (first
              | (go_at_call 20; refine (HD.out _ C0.out).mono ?_; rintro e wd ⟨rfl, rfl⟩)
              | (go_at_call 11; refine (HKd.out _).mono ?_; rintro e wk ⟨rfl, rfl⟩)
              | (go_at_call 10; refine (HF.out _ C0.out).mono ?_; rintro e w1 ⟨rfl, t1⟩; have C1 := hid (C0.out.quiet t1); have X1 := hid (X0.out.keep0 t1); have x10 := X1.out.c0; have x11 := X1.out.c1; clear t1)
              | (go_at_call 22; refine (HDr.out _ C1.out).mono ?_; rintro e w2 ⟨rfl, rfl⟩)
              | (go_at_call 25; refine (times25 _ q _ p S ac.it _ _ C1.out.u C1.out.r HWa.out.2.1).mono ?_; rintro e w9 ⟨rfl, t9⟩; have HR9 := hid (show TiR w w9 q _ _ (n + 1) from ⟨S, p, C1.out.quiet t9, (by have := HP.out; omega)⟩); clear t9))
            go_roundw
            case rel => exact ⟨n + 1, _, _, _, _, rfl, by go_num, by omega, HR9⟩
            case measure => simp [intOf]; omega
          | some p0 =>
            have e : fnd (tms S) ac.it = (p0 : Int) := by rw [fnd_idx, hix]
            rw [e] at HF
            obtain ⟨hp0, _⟩ := idx_some hix
            have HDr : Hid (∀ w1, TiC w w1 q F p S (.slice (some ⟨g, 0, none⟩) N cc) (tms S) → Calls Try.prog 22 #[.pointer (some ⟨q, 0, none⟩), .int .i64 ac.it] w1 fun e w' => e = .returned (.bool true) ∧ ∃ F', Tq w' q F' p (S.eraseIdx p0) ∧ Touch F w1 w' ∧ Nf w1 F F') := fun w1 h => drop22_yes w1 q F p S ac.it p0 HWa.out.2.1 h.u hix
            obtain ⟨Se, hSe⟩ : ∃ Se, Se = S.eraseIdx p0 := ⟨_, rfl⟩
            rw [← hSe] at HDr
            have HW : Hid (∀ w1 F2, TiC w w1 q F2 p Se (.slice (some ⟨g, 0, none⟩) N cc) (tms S) → Calls Try.prog 13 #[.slice (some ⟨g, 0, none⟩) N cc, .int .i64 p0] w1 fun e w' => ∃ v', e = .returned v' ∧ RN w' w1.heap.size v' (tms Se) ∧ Touch [] w1 w') := fun w1 F2 h => by
              have := without13 w1 _ _ (tms S) p0 h.r.rl Hle.out (by rw [tms_len]; exact hp0) (by have := h.to.size; exact this)
              rw [hSe, tms_eraseIdx]
              exact this
            clear e hix hSe
            have zp : (0 : Int) ≤ (p0 : Int) := by omega
            go_wp2_with fail
            rw [← HW0.out]
            go_wp2_with (first
              | (go_at_call 20; refine (HD.out _ C0.out).mono ?_; rintro e wd ⟨rfl, rfl⟩)
              | (go_at_call 11; refine (HKd.out _).mono ?_; rintro e wk ⟨rfl, rfl⟩)
              | (go_at_call 10; refine (HF.out _ C0.out).mono ?_; rintro e w1 ⟨rfl, t1⟩; have C1 := hid (C0.out.quiet t1); have X1 := hid (X0.out.keep0 t1); have x10 := X1.out.c0; have x11 := X1.out.c1; clear t1)
              | (go_at_call 22; refine (HDr.out _ C1.out).mono ?_; rintro e w2 ⟨rfl, F2, u2, t2, n2⟩; have C2 := hid (C1.out.ustep u2 t2 n2); have X2 := hid (X1.out.keep t2 HBq.out); have x21 := X2.out.c1; clear u2 t2 n2)
              | (go_at_call 13; refine (HW.out _ _ C2.out).mono ?_; rintro e w3 ⟨v3, rfl, r3, t3⟩; obtain ⟨g3, c3, rfl, q3⟩ := r3; have C3 := hid (C2.out.lstep ⟨g3, c3, rfl, q3⟩ t3); have X3 := hid (X2.out.keep0 t3); have x31 := X3.out.c1; clear q3 t3)
              | (go_at_call 25; refine (times25 _ q _ p Se ac.it _ _ C3.out.u C3.out.r HWa.out.2.1).mono ?_; rintro e w9 ⟨rfl, t9⟩; have HR9 := hid (show TiR w w9 q _ _ (n + 1) from ⟨Se, p, C3.out.quiet t9, (by have := HP.out; omega)⟩); clear t9))
            go_roundw
            case rel => exact ⟨n + 1, _, _, _, _, rfl, by go_num, by omega, HR9⟩
            case measure => simp [intOf]; omega
        · by_cases k5 : κ = 5
          · subst k5
            clear hk0 hk6 k3 k4 HF
            obtain ⟨i34, hi, hz0, hz1, hz2⟩ := info_parts info34
            have HDue : Hid (∀ w1, TiC w w1 q F p S (.slice (some ⟨g, 0, none⟩) N cc) (tms S) → Calls Try.prog 23 #[.pointer (some ⟨q, 0, none⟩), .int .i64 ac.at_] w1 fun e w' => DuE e w1 w' q F p S (due S ac.at_)) := fun w1 h => by
              refine (due23 w1 q F p S ac.at_ h.u).mono ?_
              rintro e w' ⟨v, k, he, hd⟩
              obtain ⟨hk, F', h1, h2⟩ := hd.due
              subst hk
              obtain ⟨a', c', rfl⟩ := own_form hd.row
              exact ⟨a', c', F', he, hd.row, h1, hd.to, h2⟩
            generalize hDD : due S ac.at_ = D at *
            clear hDD
            go_wp2_with fail
            rw [← HW0.out]
            go_wp2_with (first
              | (go_at_call 20; refine (HD.out _ C0.out).mono ?_; rintro e wd ⟨rfl, rfl⟩)
              | (go_at_call 11; refine (HKd.out _).mono ?_; rintro e wk ⟨rfl, rfl⟩)
              | (go_at_call 23; refine (HDue.out _ C0.out).mono ?_; rintro e w2 ⟨ad, cd, F2, rfl, od, u2, t2, n2⟩; have C2 := hid (C0.out.ustep u2 t2 n2); have X2 := hid (X0.out.keep t2 HBq.out); have x21 := X2.out.c1; have OD := hid od; clear u2 t2 n2 od))
            have hDN : D ≤ N := by have := hdle.out; have := HN.out; omega
            have zDN : (D : Int) ≤ (N : Int) := by omega
            have zN65 : (N : Int) ≤ 65536 := by have := Hle.out; rw [tms_len] at this; have := HN.out; omega
            go_loop [116] (fun i => ∃ j : Nat, i = .int .i64 j ∧ j ≤ D) (fun i => D - (intOf i).toNat)
            case atStart => exact ⟨0, rfl, Nat.zero_le _⟩
            case round =>
              obtain ⟨j, rfl, hj⟩ := hrel
              by_cases hjl : j < D
              · have zj : (j : Int) < (D : Int) := by omega
                have zjN : (j : Int) < (N : Int) := by omega
                obtain ⟨gd, cd', ed, _⟩ := OD.out.form (by omega)
                injection ed with ed1 ed2 ed3
                subst ed1 ed3
                clear ed2
                have hjS : j < S.length := by have := HN.out; omega
                have d1 : w2.cell? ⟨gd, j, none⟩ = some (.int .i64 (gt S j).item) := by
                  refine own_cell OD.out ?_
                  unfold items
                  rw [List.getElem?_map, List.getElem?_take, if_pos hjl, List.getElem?_eq_getElem hjS, gt_eq hjS]
                  rfl
                obtain ⟨g', eg, eN, y0, y1⟩ := C2.out.r.rl.cells (k := j) (by rw [tms_len]; exact hjS)
                simp only [Option.some.injEq, Addr.mk.injEq, and_true] at eg
                subst eg
                rw [gtT_tms hjS] at y1
                simp only [tmOf] at y1
                clear eN y0
                generalize (gt S j).item = yi at *
                go_wp2
                go_round
                case rel => exact ⟨j + 1, by go_num, by omega⟩
                case measure => simp [intOf]; omega
              · have zj : ¬ (j : Int) < (D : Int) := by omega
                have HB := hid (show (w2.alloc (.cells #[] 34)).ownsRow w2.heap.size 34 2 (.slice (some ⟨w2.heap.size, 0, none⟩) 0 0) 0 [] from World.ownsRow_made w2 #[] 0 (Nat.le_refl _) (by unfold maxLen; omega) rfl)
                have HLd : Hid ((flatT ((tms S).drop D)).length = (N - D) * 2) := by show _ = _; rw [flatT_len, List.length_drop, tms_len, HN.out]
                have HEnd : Hid (∀ (w5 : World) (v5 : Value) (m : Nat) (ns : List Value), m = N - D → ns = flatT ((tms S).drop D) → w5.ownsRow w2.heap.size 34 2 v5 (0 + m) ([] ++ ns) → v5 ≠ .slice none 0 0 → RN w5 w2.heap.size v5 (tms (S.drop D))) := fun w5 v5 m ns h1 h2 h3 h4 => by
                  refine RN.of ?_ h4
                  unfold RL
                  have e1 : tms (S.drop D) = (tms S).drop D := by unfold tms; rw [List.map_drop]
                  rw [e1, ← h2, List.length_drop, tms_len, ← HN.out, ← h1]
                  simpa using h3
                have HR2 := hid C2.out.r.rl
                obtain ⟨cur, hcur, hnc, hmx, _⟩ := own_block (show w2.ownsRow w.heap.size 34 2 (.slice (some ⟨g, 0, none⟩) (tms S).length cc) (tms S).length (flatT (tms S)) from by have := C2.out.r.rl; unfold RL at this; rw [HN.out, ← tms_len S] at this; exact this)
                rw [tms_len, ← HN.out] at hnc
                have zc : (N : Int) ≤ (cc : Int) := by omega
                have zm : (cc : Int) ≤ 9223372036854775807 := by unfold maxLen at hmx; omega
                clear hcur hmx x00 x01 x02 r0 r1 r2
                by_cases hcn : D = cc
                · have hNn : D = N := by omega
                  have HDr : Hid ((tms S).drop D = []) := List.drop_of_length_le (by rw [tms_len]; have := HN.out; omega)
                  subst hcn
                  subst hNn
                  go_wp2_with (first
                    | (at_builtin; refine wpList_append_own _ rfl _ _ 26 rfl w2.heap.size 34 i34 (.agg #[.int .i64 0, .int .i64 0]) 2 16 Try.underlying26 hi hz0 hz1 hz2 rfl (by decide) (.slice (some ⟨w2.heap.size, 0, none⟩) 0 0) 0 [] rfl HB.out _ 0 _ [] rfl rfl (fun j u hj => by simp at hj) (fun u hu => by simp at hu) (by unfold maxLen; omega) (by omega) (by simp) ?_; intro v5 w5 hown5 hgrow5 hnil5; have R5 := HEnd.out w5 v5 0 [] (by omega) (by rw [HDr.out]; rfl) hown5 (fun e => absurd (hnil5.1 e).1 (by simp)); have T5 : Touch [] w2 w5 := ((Touch.refl _ _).alloc _).grown hgrow5 (fun k hk => Or.inr (by have e : some w2.heap.size = some k := hk; cases e; exact Nat.le_refl _)); obtain ⟨g5, c5, rfl, q5⟩ := R5; have C5 := hid (C2.out.lstep ⟨g5, c5, rfl, q5⟩ T5); have X5 := hid (X2.out.keep0 T5); have x51 := X5.out.c1; clear T5 q5 hown5 hgrow5 hnil5)
                    | (go_at_call 25; refine (times25 _ q _ p (S.drop D) ac.it _ _ C5.out.u C5.out.r HWa.out.2.1).mono ?_; rintro e w9 ⟨rfl, t9⟩; have HR9 := hid (show TiR w w9 q _ _ (n + 1) from ⟨(S.drop D), p, C5.out.quiet t9, (by have := HP.out; omega)⟩); clear t9))
                  go_roundw
                  case rel => exact ⟨n + 1, _, _, _, _, rfl, by go_num, by omega, HR9⟩
                  case measure => simp [intOf]; omega
                · have hcn' : ¬ cc = D := fun e => hcn e.symm
                  go_wp2_with (first
                    | (at_builtin; refine wpList_append_own _ rfl _ _ 26 rfl w2.heap.size 34 i34 (.agg #[.int .i64 0, .int .i64 0]) 2 16 Try.underlying26 hi hz0 hz1 hz2 rfl (by decide) (.slice (some ⟨w2.heap.size, 0, none⟩) 0 0) 0 [] rfl HB.out ⟨g, D * 2, none⟩ (N - D) (cc - D) (flatT ((tms S).drop D)) rfl HLd.out (HR2.out.news (by rw [tms_len]; exact HN.out) D _ ((Touch.refl _ _).alloc _)) (one_flatT _) (by unfold maxLen; omega) (by omega) (by simp) ?_; intro v5 w5 hown5 hgrow5 hnil5; have R5 := HEnd.out w5 v5 _ _ rfl rfl hown5 (fun e => absurd (hnil5.1 e).1 (by simp)); have T5 : Touch [] w2 w5 := ((Touch.refl _ _).alloc _).grown hgrow5 (fun k hk => Or.inr (by have e : some w2.heap.size = some k := hk; cases e; exact Nat.le_refl _)); obtain ⟨g5, c5, rfl, q5⟩ := R5; have C5 := hid (C2.out.lstep ⟨g5, c5, rfl, q5⟩ T5); have X5 := hid (X2.out.keep0 T5); have x51 := X5.out.c1; clear T5 q5 hown5 hgrow5 hnil5)
                    | (go_at_call 25; refine (times25 _ q _ p (S.drop D) ac.it _ _ C5.out.u C5.out.r HWa.out.2.1).mono ?_; rintro e w9 ⟨rfl, t9⟩; have HR9 := hid (show TiR w w9 q _ _ (n + 1) from ⟨(S.drop D), p, C5.out.quiet t9, (by have := HP.out; omega)⟩); clear t9))
                  go_roundw
                  case rel => exact ⟨n + 1, _, _, _, _, rfl, by go_num, by omega, HR9⟩
                  case measure => simp [intOf]; omega
          · have b3 : (κ == 3) = false := by simpa using k3
            have b4 : (κ == 4) = false := by simpa using k4
            have b5 : (κ == 5) = false := by simpa using k5
            clear hk0 hk6 k3 k4 k5
            generalize due S ac.at_ = D at *
            cases hT : isT ac.at_ with
            | false =>
              have HRp : Hid (∀ w1, Calls Try.prog 16 #[.slice (some ⟨g, 0, none⟩) N cc, .int .i64 ac.at_, .int .i64 ac.it] w1 fun e w' => e = .returned (.tuple #[.slice (some ⟨g, 0, none⟩) N cc, .int .i64 1]) ∧ w' = w1) := fun w1 => rput_arg w1 _ ac.at_ ac.it hT
              have HUp : Hid (∀ w1, Calls Try.prog 24 #[.pointer (some ⟨q, 0, none⟩), .int .i64 ac.at_, .int .i64 ac.it] w1 fun e w' => e = .returned (.int .i64 1) ∧ w' = w1) := fun w1 => put24_arg w1 q ac.at_ ac.it hT
              clear hT HF
              go_wp2_with fail
              rw [← HW0.out]
              go_wp2_with (first
                | (go_at_call 20; refine (HD.out _ C0.out).mono ?_; rintro e wd ⟨rfl, rfl⟩)
                | (go_at_call 11; refine (HKd.out _).mono ?_; rintro e wk ⟨rfl, rfl⟩)
                | (go_at_call 16; refine (HRp.out _).mono ?_; rintro e w2 ⟨rfl, rfl⟩)
                | (go_at_call 24; refine (HUp.out _).mono ?_; rintro e w2 ⟨rfl, rfl⟩)
                | (go_at_call 25; refine (times25 _ q _ p S ac.it _ _ C0.out.u C0.out.r HWa.out.2.1).mono ?_; rintro e w9 ⟨rfl, t9⟩; have HR9 := hid (show TiR w w9 q _ _ (n + 1) from ⟨S, p, C0.out.quiet t9, (by have := HP.out; omega)⟩); clear t9))
              go_roundw
              case rel => exact ⟨n + 1, _, _, _, _, rfl, by go_num, by omega, HR9⟩
              case measure => simp [intOf]; omega
            | true =>
              cases hix : idx S ac.it with
              | some p0 =>
                have hf0 : 0 ≤ fnd (tms S) ac.it := by rw [fnd_idx, hix]; show (0 : Int) ≤ (p0 : Int); omega
                have HRp : Hid (∀ w1, TiC w w1 q F p S (.slice (some ⟨g, 0, none⟩) N cc) (tms S) → Calls Try.prog 16 #[.slice (some ⟨g, 0, none⟩) N cc, .int .i64 ac.at_, .int .i64 ac.it] w1 fun e w' => e = .returned (.tuple #[.slice (some ⟨g, 0, none⟩) N cc, .int .i64 40]) ∧ Touch [] w1 w') := fun w1 h => rput_there w1 _ _ (tms S) ac.at_ ac.it h.r.rl Hle.out hT hf0
                have HUp : Hid (∀ w1, Tq w1 q F p S → Calls Try.prog 24 #[.pointer (some ⟨q, 0, none⟩), .int .i64 ac.at_, .int .i64 ac.it] w1 fun e w' => e = .returned (.int .i64 40) ∧ w' = w1) := fun w1 h => put24_there w1 q F p S ac.at_ ac.it p0 HWa.out.2.1 h hT hix
                clear hT hix hf0 HF
                go_wp2_with fail
                rw [← HW0.out]
                go_wp2_with (first
                  | (go_at_call 20; refine (HD.out _ C0.out).mono ?_; rintro e wd ⟨rfl, rfl⟩)
                  | (go_at_call 11; refine (HKd.out _).mono ?_; rintro e wk ⟨rfl, rfl⟩)
                  | (go_at_call 16; refine (HRp.out _ C0.out).mono ?_; rintro e w2 ⟨rfl, t2⟩; have C2 := hid (C0.out.quiet t2); have X2 := hid (X0.out.keep0 t2); have x21 := X2.out.c1; have x22 := X2.out.c2; clear t2)
                  | (go_at_call 24; refine (HUp.out _ C2.out.u).mono ?_; rintro e w3 ⟨rfl, rfl⟩)
                  | (go_at_call 25; refine (times25 _ q _ p S ac.it _ _ C2.out.u C2.out.r HWa.out.2.1).mono ?_; rintro e w9 ⟨rfl, t9⟩; have HR9 := hid (show TiR w w9 q _ _ (n + 1) from ⟨S, p, C2.out.quiet t9, (by have := HP.out; omega)⟩); clear t9))
                go_roundw
                case rel => exact ⟨n + 1, _, _, _, _, rfl, by go_num, by omega, HR9⟩
                case measure => simp [intOf]; omega
              | none =>
                have hf0 : fnd (tms S) ac.it < 0 := by rw [fnd_idx, hix]; show (-1 : Int) < 0; omega
                by_cases hmany : 65536 ≤ S.length
                · have HRp : Hid (∀ w1, TiC w w1 q F p S (.slice (some ⟨g, 0, none⟩) N cc) (tms S) → Calls Try.prog 16 #[.slice (some ⟨g, 0, none⟩) N cc, .int .i64 ac.at_, .int .i64 ac.it] w1 fun e w' => e = .returned (.tuple #[.slice (some ⟨g, 0, none⟩) N cc, .int .i64 3]) ∧ Touch [] w1 w') := fun w1 h => rput_many w1 _ _ (tms S) ac.at_ ac.it h.r.rl Hle.out hT hf0 (by rw [tms_len]; exact hmany)
                  have HUp : Hid (∀ w1, Tq w1 q F p S → Calls Try.prog 24 #[.pointer (some ⟨q, 0, none⟩), .int .i64 ac.at_, .int .i64 ac.it] w1 fun e w' => e = .returned (.int .i64 3) ∧ w' = w1) := fun w1 h => put24_many w1 q F p S ac.at_ ac.it HWa.out.2.1 h hT hix hmany
                  clear hT hix hf0 HF hmany
                  go_wp2_with fail
                  rw [← HW0.out]
                  go_wp2_with (first
                    | (go_at_call 20; refine (HD.out _ C0.out).mono ?_; rintro e wd ⟨rfl, rfl⟩)
                    | (go_at_call 11; refine (HKd.out _).mono ?_; rintro e wk ⟨rfl, rfl⟩)
                    | (go_at_call 16; refine (HRp.out _ C0.out).mono ?_; rintro e w2 ⟨rfl, t2⟩; have C2 := hid (C0.out.quiet t2); have X2 := hid (X0.out.keep0 t2); have x21 := X2.out.c1; have x22 := X2.out.c2; clear t2)
                    | (go_at_call 24; refine (HUp.out _ C2.out.u).mono ?_; rintro e w3 ⟨rfl, rfl⟩)
                    | (go_at_call 25; refine (times25 _ q _ p S ac.it _ _ C2.out.u C2.out.r HWa.out.2.1).mono ?_; rintro e w9 ⟨rfl, t9⟩; have HR9 := hid (show TiR w w9 q _ _ (n + 1) from ⟨S, p, C2.out.quiet t9, (by have := HP.out; omega)⟩); clear t9))
                  go_roundw
                  case rel => exact ⟨n + 1, _, _, _, _, rfl, by go_num, by omega, HR9⟩
                  case measure => simp [intOf]; omega
                · have HRp : Hid (∀ w1, TiC w w1 q F p S (.slice (some ⟨g, 0, none⟩) N cc) (tms S) → Calls Try.prog 16 #[.slice (some ⟨g, 0, none⟩) N cc, .int .i64 ac.at_, .int .i64 ac.it] w1 fun e w' => RpQ e w1 w' (tms S) ac.at_ ac.it) := fun w1 h => rput_ok w1 _ _ (tms S) ac.at_ ac.it h.r (by rw [tms_len]; omega) hT hf0 (by have := h.to.size; exact this)
                  have HUp : Hid (∀ w1 i, PosT (tms S) ac.at_ i → Tq w1 q F p S → Calls Try.prog 24 #[.pointer (some ⟨q, 0, none⟩), .int .i64 ac.at_, .int .i64 ac.it] w1 fun e w' => e = .returned (.int .i64 0) ∧ ∃ F', Tq w' q F' (p + 1) (ins S i ⟨ac.at_, p, ac.it⟩) ∧ Touch F w1 w' ∧ Nf w1 F F') := fun w1 i hi h => put24_ok w1 q F p S ac.at_ ac.it i HWa.out.2.1 h hT hix (by omega) (pos_tms hi) (by have := HP.out; omega)
                  clear hT hix hf0 HF hmany
                  go_wp2_with fail
                  rw [← HW0.out]
                  go_wp2_with (first
                    | (go_at_call 20; refine (HD.out _ C0.out).mono ?_; rintro e wd ⟨rfl, rfl⟩)
                    | (go_at_call 11; refine (HKd.out _).mono ?_; rintro e wk ⟨rfl, rfl⟩)
                    | (go_at_call 16; refine (HRp.out _ C0.out).mono ?_; rintro e w2 ⟨v2, i2, rfl, p2, r2', t2⟩; rw [← tms_ins S i2 ac.at_ p ac.it] at r2'; obtain ⟨g2, c2, rfl, q2⟩ := r2'; have C2 := hid (C0.out.lstep ⟨g2, c2, rfl, q2⟩ t2); have X2 := hid (X0.out.keep0 t2); have x21 := X2.out.c1; have x22 := X2.out.c2; have HPos := hid p2; obtain ⟨S2, hS2⟩ : ∃ S2, S2 = ins S i2 ⟨ac.at_, p, ac.it⟩ := ⟨_, rfl⟩; have HS2 := hid hS2; rw [← hS2] at C2 ⊢; clear t2 q2 p2 hS2)
                    | (go_at_call 24; refine (HUp.out _ i2 HPos.out C2.out.u).mono ?_; rw [← HS2.out]; rintro e w3 ⟨rfl, F3, u3, t3, n3⟩; have C3 := hid (C2.out.ustep u3 t3 n3); have X3 := hid (X2.out.keep t3 HBq.out); have x31 := X3.out.c1; clear t3 u3 n3)
                    | (go_at_call 25; refine (times25 _ q _ (p + 1) S2 ac.it _ _ C3.out.u C3.out.r HWa.out.2.1).mono ?_; rintro e w9 ⟨rfl, t9⟩; have HR9 := hid (show TiR w w9 q _ _ (n + 1) from ⟨S2, (p + 1), C3.out.quiet t9, (by have := HP.out; omega)⟩); clear t9))
                  go_roundw
                  case rel => exact ⟨n + 1, _, _, _, _, rfl, by go_num, by omega, HR9⟩
                  case measure => simp [intOf]; omega
    · have zn : ¬ (n : Int) < (A : Int) := by omega
      go_wp2
      go_ret
      exact ⟨rfl, HR.out.choose_spec.choose_spec.1.to⟩
end Go.Proofs.Ytonkclllofbklaa
