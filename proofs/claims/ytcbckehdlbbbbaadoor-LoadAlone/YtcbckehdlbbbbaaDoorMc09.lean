/- The contract of Put of a queue by time. -/
import Derived.Test.YtcbckehdlbbbbaaDoorMc08
namespace Go.Proofs.YtcbckehdlbbbbaaDoor.Cl
open Go.RowKit Go.Maps Go.ChangeMaps
set_option linter.unusedVariables false
theorem put24_arg (w : World) (q : Nat) (t k : Int) (ht : isT t = false) :
    Calls Tryd.prog 78 #[PT q, .int .i64 t, .int .i64 k] w fun e w' => e = .returned (.int .i64 1) ∧ w' = w := by
  have HI := hid (is37 t w)
  rw [ht] at HI
  clear ht
  unfold PT at *
  go_enter Tryd.func78, Tryd.ntmps78
  go_wp2_with (go_at_call 77; refine HI.out.mono ?_; rintro e w2 ⟨rfl, rfl⟩)
  go_ret
  exact ⟨rfl, rfl⟩
theorem put24_there (w : World) (q : Nat) (F : List Nat) (p : Int) (S : List Slot) (t k : Int) (a : Nat) (hk : W64 k) (h : Tq w q F p S) (ht : isT t = true) (hi : idx S k = some a) :
    Calls Tryd.prog 78 #[PT q, .int .i64 t, .int .i64 k] w fun e w' => e = .returned (.int .i64 40) ∧ w' = w := by
  have HI := hid (is37 t w)
  rw [ht] at HI
  have HA := hid (at29_some w q F p S k a hk h hi)
  clear ht h hi
  generalize (gt S a).at_ = u at *
  unfold PT at *
  go_enter Tryd.func78, Tryd.ntmps78
  go_wp2_with (first | (go_at_call 77; refine HI.out.mono ?_; rintro e w2 ⟨rfl, rfl⟩) | (go_at_call 84; refine HA.out.mono ?_; rintro e w2 ⟨rfl, rfl⟩))
  go_ret
  exact ⟨rfl, rfl⟩
theorem put24_many (w : World) (q : Nat) (F : List Nat) (p : Int) (S : List Slot) (t k : Int) (hk : W64 k) (h : Tq w q F p S) (ht : isT t = true) (hi : idx S k = none) (hl : 65536 ≤ S.length) :
    Calls Tryd.prog 78 #[PT q, .int .i64 t, .int .i64 k] w fun e w' => e = .returned (.int .i64 3) ∧ w' = w := by
  have HI := hid (is37 t w)
  rw [ht] at HI
  have HA := hid (at29_none w q F p S k hk h hi)
  have HL := hid (len26 w q F p S h)
  have zl : (65536 : Int) ≤ (S.length : Int) := by omega
  have zl2 := h.len
  clear ht h hi
  generalize S.length = n at *
  unfold PT at *
  go_enter Tryd.func78, Tryd.ntmps78
  go_wp2_with (first | (go_at_call 77; refine HI.out.mono ?_; rintro e w2 ⟨rfl, rfl⟩) | (go_at_call 84; refine HA.out.mono ?_; rintro e w2 ⟨rfl, rfl⟩) | (go_at_call 72; refine HL.out.mono ?_; rintro e w2 ⟨rfl, rfl⟩))
  go_ret
  exact ⟨rfl, rfl⟩
theorem Tq.put {w w1 : World} {q : Nat} {sl : Value} {m : Option Nat} {p : Int} {S s : List Slot} {t k : Int} {i : Nat} (h : TM w q sl m p S) (hp : s.Perm S) (ht : 0 ≤ t ∧ t ≤ 4611686018427387904) (hi : Pos S t i)
    {sl' : Value} {b' : Nat} {s' : List Slot} (r1 : s'.Perm (s ++ [⟨t, p, k⟩])) (r2 : Heap s'.length s') (r3 : HQ w1 q sl' (some b') p s') (r4 : Touch (fq q sl m) w w1) (r5 : Nq w q sl m sl' (some b')) :
    ∃ F', Tq (w1.setCell ⟨q, 2, none⟩ (.int .i64 (p + 1))) q F' (p + 1) (ins S i ⟨t, p, k⟩) ∧ Touch (fq q sl m) w (w1.setCell ⟨q, 2, none⟩ (.int .i64 (p + 1))) ∧ Nf w (fq q sl m) F' := by
  have hP : s'.Perm (ins S i ⟨t, p, k⟩) := (r1.trans (hp.append_right _)).trans (ins_perm S i _).symm
  have M : ∀ y ∈ ins S i ⟨t, p, k⟩, y ∈ S ∨ y = ⟨t, p, k⟩ := fun y hy => by
    have := (ins_perm S i _).mem_iff.1 hy
    simpa using this
  refine ⟨_, ⟨sl', some b', rfl, ⟨s', ?_, r2, hP⟩, ins_srt h.srt hi h.lo, fun y hy => ?_, by have := h.p0; omega, fun y hy => ?_⟩, r4.setCell (by simp [fq]) _, r5⟩
  · have hbq := r3.hc.map_ne r3.map
    refine ⟨r3.hc.set2 _, ?_, Or.inr ⟨b', rfl, r3.map.kept (Below.heap_setCell _ _ _ _ hbq)⟩, r3.nd, r3.wf, r3.le⟩
    exact own_keep r3.row (fun g hg => Below.heap_setCell _ _ _ _ (row_ne r3.hc r3.row (by decide) g hg))
  · rcases M y hy with e | e
    · have := h.lo y e; omega
    · rw [e]; show p < p + 1; omega
  · rcases M y hy with e | e
    · exact h.tk y e
    · rw [e]; exact ht
set_option maxHeartbeats 2000000 in
set_option maxRecDepth 100000 in
theorem put24_ok (w : World) (q : Nat) (F : List Nat) (p : Int) (S : List Slot) (t k : Int) (i : Nat) (hk : W64 k) (h : Tq w q F p S) (ht : isT t = true) (hi : idx S k = none) (hl : S.length < 65536) (hp : Pos S t i) (hpb : p < 4611686018427387904) :
    Calls Tryd.prog 78 #[PT q, .int .i64 t, .int .i64 k] w fun e w' => e = .returned (.int .i64 0) ∧ ∃ F', Tq w' q F' (p + 1) (ins S i ⟨t, p, k⟩) ∧ Touch F w w' ∧ Nf w F F' := by
  have HI := hid (is37 t w)
  rw [ht] at HI
  have HA := hid (at29_none w q F p S k hk h hi)
  have HL := hid (len26 w q F p S h)
  have zl : (S.length : Int) < 65536 := by omega
  have ht' : 0 ≤ t ∧ t ≤ 4611686018427387904 := of_decide_eq_true ht
  obtain ⟨sl, m, rfl, tm⟩ := h
  obtain ⟨s, h1, h2, h3⟩ := tm.ex
  have p0 := tm.p0
  have pb2 : p + 1 ≤ 4611686018427387904 := by omega
  have c2 := h1.hc.c2
  have hx : ∀ y ∈ s, y.item ≠ k := fun y hy => idx_none.1 hi y (h3.mem_iff.1 hy)
  have HP : Hid (∀ w1, Touch [] w w1 → Calls Tryd.prog 85 #[.iface 170 (.pointer (some ⟨q, 0, none⟩)), .iface 152 (.agg #[.int .i64 t, .int .i64 p, .int .i64 k])] w1 fun e w' => e = .returned (.tuple #[]) ∧ (w'.cell? ⟨q, 2, none⟩ = some (.int .i64 p) ∧ w'.frozen? ⟨q, 2, none⟩ = false) ∧ ∃ F', Tq (w'.setCell ⟨q, 2, none⟩ (.int .i64 (p + 1))) q F' (p + 1) (ins S i ⟨t, p, k⟩) ∧ Touch (fq q sl m) w (w'.setCell ⟨q, 2, none⟩ (.int .i64 (p + 1))) ∧ Nf w (fq q sl m) F') := fun w1 t1 => by
    refine (hpush38 w1 q sl m p s ⟨t, p, k⟩ (h1.keep t1 (fun _ _ e => by cases e)) h2 (by rw [h3.length_eq]; exact hl) hx ⟨W64.mk (by show _ ≤ t; omega) (by show t ≤ _; omega), W64.mk (by show _ ≤ p; omega) (by show p ≤ _; omega), hk⟩).mono ?_
    rintro e w2 ⟨he, sl', b', s', r1, r2, r3, r4, r5⟩
    refine ⟨he, ⟨r3.hc.c2, r3.hc.fr 2⟩, ?_⟩
    have t0 : Touch (fq q sl m) w w2 := (t1.mono (fun _ e => by cases e)).trans' r4
    exact Tq.put tm h3 ht' hp r1 r2 r3 t0 (fun k hk => by
      rcases r5 k hk with e | e
      · exact Or.inl e
      · exact Or.inr (Nat.le_trans t1.size e))
  clear ht hi tm h1 h2 h3 hx ht' hp hl
  generalize ins S i ⟨t, p, k⟩ = S' at *
  generalize (S.length : Int) = n at *
  unfold PT at HA HL ⊢
  have HPB := hid (And.intro hpb pb2)
  clear hpb pb2
  go_enter Tryd.func78, Tryd.ntmps78
  go_wp2_with (first | (go_at_call 77; refine HI.out.mono ?_; rintro e w2 ⟨rfl, rfl⟩) | (go_at_call 84; refine HA.out.mono ?_; rintro e w2 ⟨rfl, rfl⟩) | (go_at_call 72; refine HL.out.mono ?_; rintro e w2 ⟨rfl, rfl⟩))
  go_region_held3 (fun w' => w'.cell? ⟨q, 2, none⟩ = some (.int .i64 p)) (first | assumption | go_keep)
    (first | (go_at_call 85; refine (HP.out _ (Touch.refl _ _).drew).mono ?_; rintro e w1 ⟨rfl, ⟨y2, yf⟩, r⟩; have R := hid r; clear r))
  have pb1 : p < 9223372036854775807 := by have := HPB.out; omega
  go_wp2
  go_ret
  exact ⟨rfl, R.out⟩
end Go.Proofs.YtcbckehdlbbbbaaDoor.Cl
/- Timers as a plain list, rows of rings in memory, and the clock's answers as plain functions; no conditions. -/
namespace Go.Proofs.YtcbckehdlbbbbaaDoor.Cl
open Go.RowKit Go.Maps Go.ChangeMaps
set_option linter.unusedVariables false
/-- A timer: its tick and its number. -/
structure Tm where
  at_ : Int
  it : Int
def tmC (x : Tm) : List Value := [.int .i64 x.it, .int .i64 x.at_]
def flatT (s : List Tm) : List Value := s.flatMap tmC
def gtT (s : List Tm) (i : Nat) : Tm := s.getD i ⟨0, 0⟩
theorem gtT_eq {s : List Tm} {i : Nat} (h : i < s.length) : gtT s i = s[i] := by simp [gtT, List.getD_eq_getElem?_getD, List.getElem?_eq_getElem h]
theorem gtT_cons_succ (x : Tm) (s : List Tm) (i : Nat) : gtT (x :: s) (i + 1) = gtT s i := by simp [gtT]
theorem gtT_cons_zero (x : Tm) (s : List Tm) : gtT (x :: s) 0 = x := by simp [gtT]
theorem gtT_mem {s : List Tm} {i : Nat} (h : i < s.length) : gtT s i ∈ s := by rw [gtT_eq h]; exact List.getElem_mem h
theorem flatT_cons (x : Tm) (s : List Tm) : flatT (x :: s) = .int .i64 x.it :: .int .i64 x.at_ :: flatT s := by simp [flatT, tmC]
theorem flatT_len (s : List Tm) : (flatT s).length = s.length * 2 := by
  induction s with
  | nil => rfl
  | cons x s ih => rw [flatT_cons]; simp [ih]; omega
theorem flatT_app (s t : List Tm) : flatT (s ++ t) = flatT s ++ flatT t := by simp [flatT]
theorem flatT_at : ∀ (s : List Tm) (i : Nat), i < s.length → (flatT s)[i * 2]? = some (.int .i64 (gtT s i).it) ∧ (flatT s)[i * 2 + 1]? = some (.int .i64 (gtT s i).at_)
  | x :: s, 0, _ => by rw [flatT_cons]; simp [gtT]
  | x :: s, i + 1, h => by
    have ih := flatT_at s i (by simpa using h)
    rw [flatT_cons, show (i + 1) * 2 = i * 2 + 1 + 1 by omega, show i * 2 + 1 + 1 + 1 = (i * 2 + 1) + 1 + 1 by omega]
    simpa [gtT] using ih
theorem flatT_take (s : List Tm) (i : Nat) : (flatT s).take (i * 2) = flatT (s.take i) := by
  induction s generalizing i with
  | nil => simp [flatT]
  | cons x s ih =>
    cases i with
    | zero => simp [flatT]
    | succ i => rw [flatT_cons, show (i + 1) * 2 = i * 2 + 1 + 1 by omega, List.take_succ_cons, List.take_succ_cons, ih, List.take_succ_cons, flatT_cons]
theorem flatT_drop (s : List Tm) (i : Nat) : (flatT s).drop (i * 2) = flatT (s.drop i) := by
  induction s generalizing i with
  | nil => simp [flatT]
  | cons x s ih =>
    cases i with
    | zero => simp [flatT]
    | succ i => rw [flatT_cons, show (i + 1) * 2 = i * 2 + 1 + 1 by omega, List.drop_succ_cons, List.drop_succ_cons, ih, List.drop_succ_cons]
theorem one_flatT (l : List Tm) : ∀ u ∈ flatT l, u.oneCell' = true := fun u hu => by
  unfold flatT at hu
  rw [List.mem_flatMap] at hu
  obtain ⟨x, _, hx⟩ := hu
  simp [tmC] at hx
  rcases hx with rfl | rfl <;> rfl
/-- A row of rings of type e in memory. -/
def RR (e : TypeId) (w : World) (B : Nat) (v : Value) (l : List Tm) : Prop := w.ownsRow B e 2 v l.length (flatT l)
theorem RR.slice {e : TypeId} {w : World} {B : Nat} {v : Value} {l : List Tm} (h : RR e w B v l) : ∃ a c, v = .slice a l.length c := own_form h
theorem RR.keep {e : TypeId} {F : List Nat} {w w' : World} {B : Nat} {v : Value} {l : List Tm} (h : RR e w B v l) (ht : Touch F w w') (hn : ∀ b, v.ownBlock = some b → ¬ b ∈ F) : RR e w' B v l := own_touch h ht hn
theorem RR.keep0 {e : TypeId} {w w' : World} {B : Nat} {v : Value} {l : List Tm} (h : RR e w B v l) (ht : Touch [] w w') : RR e w' B v l := own_touch h ht (fun _ _ e => by cases e)
theorem RR.base {e : TypeId} {w : World} {B B' : Nat} {v : Value} {l : List Tm} (h : RR e w B v l) (hb : B' ≤ B) : RR e w B' v l := by
  obtain ⟨h1, h2 | ⟨g', c', cur, e', hg, r⟩⟩ := h
  · exact ⟨h1, Or.inl h2⟩
  · exact ⟨h1, Or.inr ⟨g', c', cur, e', Nat.le_trans hb hg, r⟩⟩
theorem RR.cells {e : TypeId} {w : World} {B : Nat} {a : Option Addr} {n c : Nat} {l : List Tm} (h : RR e w B (.slice a n c) l) {k : Nat} (hk : k < l.length) : ∃ g, a = some ⟨g, 0, none⟩ ∧ n = l.length ∧ w.cell? ⟨g, k * 2, none⟩ = some (.int .i64 (gtT l k).it) ∧ w.cell? ⟨g, k * 2 + 1, none⟩ = some (.int .i64 (gtT l k).at_) := by
  obtain ⟨g, c', e', _⟩ := World.ownsRow.form h (by omega)
  injection e' with e1 e2 e3
  subst e1 e2 e3
  obtain ⟨x0, x1⟩ := flatT_at l k hk
  exact ⟨g, rfl, rfl, own_cell h x0, own_cell h x1⟩
theorem RR.nil (e : TypeId) (w : World) (B : Nat) : RR e w B (.slice none 0 0) [] := World.ownsRow_nil _ _ _ _
theorem ret_int {a b : Int} (h : a = b) : Ending.returned (.int .i64 a) = .returned (.int .i64 b) := by rw [h]

/-- The place behind all that are not later. -/
def pos : List Tm → Int → Nat
  | [], _ => 0
  | x :: l, t => if pos l t = 0 ∧ t < x.at_ then 0 else pos l t + 1
def PosT (l : List Tm) (t : Int) (i : Nat) : Prop := i ≤ l.length ∧ (∀ j, j < l.length → i ≤ j → t < (gtT l j).at_) ∧ (0 < i → (gtT l (i - 1)).at_ ≤ t)
theorem posT_pos (l : List Tm) (t : Int) : PosT l t (pos l t) := by
  induction l with
  | nil => exact ⟨Nat.le_refl _, fun j hj => by simp at hj, fun h => by simp [pos] at h⟩
  | cons x l ih =>
    obtain ⟨h1, h2, h3⟩ := ih
    unfold pos
    split
    · rename_i h
      refine ⟨Nat.zero_le _, fun j hj _ => ?_, fun h => by omega⟩
      cases j with
      | zero => rw [gtT_cons_zero]; exact h.2
      | succ j => rw [gtT_cons_succ]; exact h2 j (by simpa using hj) (by omega)
    · rename_i h
      refine ⟨by simpa using h1, fun j hj hij => ?_, fun _ => ?_⟩
      · cases j with
        | zero => omega
        | succ j => rw [gtT_cons_succ]; exact h2 j (by simpa using hj) (by omega)
      · rw [Nat.add_sub_cancel]
        by_cases h0 : pos l t = 0
        · rw [h0, gtT_cons_zero]
          have : ¬ t < x.at_ := fun e => h ⟨h0, e⟩
          omega
        · obtain ⟨m, hm⟩ : ∃ m, pos l t = m + 1 := ⟨pos l t - 1, by omega⟩
          rw [hm, gtT_cons_succ]
          have := h3 (by omega)
          rw [hm, Nat.add_sub_cancel] at this
          exact this
theorem posT_unique {l : List Tm} {t : Int} {i j : Nat} (h : PosT l t i) (k : PosT l t j) : i = j := by
  obtain ⟨h1, h2, h3⟩ := h
  obtain ⟨k1, k2, k3⟩ := k
  rcases Nat.lt_trichotomy i j with e | e | e
  · have a := h2 (j - 1) (by omega) (by omega)
    have b := k3 (by omega)
    omega
  · exact e
  · have a := k2 (i - 1) (by omega) (by omega)
    have b := h3 (by omega)
    omega
theorem pos_eq {l : List Tm} {t : Int} {i : Nat} (h : PosT l t i) : i = pos l t := posT_unique h (posT_pos l t)
def insT (l : List Tm) (i : Nat) (x : Tm) : List Tm := l.take i ++ x :: l.drop i
theorem flatT_ins (l : List Tm) (i : Nat) (x : Tm) : flatT (insT l i x) = flatT (l.take i) ++ [.int .i64 x.it, .int .i64 x.at_] ++ flatT (l.drop i) := by
  unfold insT
  rw [flatT_app, flatT_cons]
  simp
theorem insT_len {l : List Tm} {i : Nat} (x : Tm) (h : i ≤ l.length) : (insT l i x).length = l.length + 1 := by
  unfold insT
  simp
  omega
theorem insT_mem {l : List Tm} {i : Nat} {x y : Tm} (h : y ∈ insT l i x) : y ∈ l ∨ y = x := by
  unfold insT at h
  rw [List.mem_append, List.mem_cons] at h
  rcases h with h | h | h
  · exact Or.inl (List.mem_of_mem_take h)
  · exact Or.inr h
  · exact Or.inl (List.mem_of_mem_drop h)
/-- How many are due. -/
def dueT (l : List Tm) (now : Int) : Nat := (l.takeWhile (fun x => decide (x.at_ ≤ now))).length
theorem dueT_of {l : List Tm} {now : Int} {n : Nat} (hn : n ≤ l.length) (h : ∀ j, j < n → (gtT l j).at_ ≤ now) (he : n = l.length ∨ now < (gtT l n).at_) : dueT l now = n := by
  induction l generalizing n with
  | nil => simp at hn; subst hn; rfl
  | cons x l ih =>
    cases n with
    | zero =>
      have : now < x.at_ := by
        rcases he with e | e
        · simp at e
        · exact e
      simp [dueT, show ¬ x.at_ ≤ now by omega]
    | succ n =>
      have h0 : x.at_ ≤ now := h 0 (by omega)
      have := ih (n := n) (by simpa using hn) (fun j hj => h (j + 1) (by omega)) (by
        rcases he with e | e
        · left; simpa using e
        · right; exact e)
      unfold dueT at this ⊢
      rw [List.takeWhile_cons, if_pos (by simpa using h0)]
      simp [this]
theorem dueT_le (l : List Tm) (now : Int) : dueT l now ≤ l.length := (List.takeWhile_sublist _).length_le
theorem dueT_all {l : List Tm} {now : Int} {j : Nat} (h : j < dueT l now) : (gtT l j).at_ ≤ now := by
  induction l generalizing j with
  | nil => simp [dueT] at h
  | cons x l ih =>
    unfold dueT at h
    rw [List.takeWhile_cons] at h
    split at h
    · rename_i hx
      cases j with
      | zero => rw [gtT_cons_zero]; simpa using hx
      | succ j => rw [gtT_cons_succ]; exact ih (by unfold dueT; simpa using h)
    · simp at h
theorem dueT_stop {l : List Tm} {now : Int} (h : dueT l now < l.length) : now < (gtT l (dueT l now)).at_ := by
  induction l with
  | nil => simp at h
  | cons x l ih =>
    unfold dueT at h ⊢
    rw [List.takeWhile_cons] at h ⊢
    split
    · rename_i hx
      rw [if_pos hx] at h
      simp only [List.length_cons] at h ⊢
      rw [gtT_cons_succ]
      exact ih (by unfold dueT; omega)
    · rename_i hx
      simp only [List.length_nil]
      rw [gtT_cons_zero]
      have : ¬ x.at_ ≤ now := fun e => hx (by simpa using e)
      omega

/-- How a clock stands. -/
structure Cs where
  now : Int
  last : Int
  T : List Tm
def MaxT : Int := 4611686018427387904
def armE (s : Cs) (t : Int) : Int := if isT t = false then 10 else if t < s.now then 50 else if 65536 ≤ s.T.length then 3 else 0
def armS (s : Cs) (t : Int) : Cs := if armE s t = 0 then ⟨s.now, s.last + 1, insT s.T (pos s.T t) ⟨t, s.last + 1⟩⟩ else s
def armN (s : Cs) (t : Int) : Int := if armE s t = 0 then s.last + 1 else 0
def inT (s : Cs) (d : Int) : Int := if 4611686018427387904 - s.now < d then 4611686018427387904 else s.now + d
def inE (s : Cs) (d : Int) : Int := if d < 0 then 11 else armE s (inT s d)
def inS (s : Cs) (d : Int) : Cs := if d < 0 then s else armS s (inT s d)
def inN (s : Cs) (d : Int) : Int := if d < 0 then 0 else armN s (inT s d)
def hasT (l : List Tm) (k : Int) : Bool := l.any (fun x => x.it == k)
def outT (l : List Tm) (k : Int) : List Tm := l.filter (fun x => x.it != k)
def stopS (s : Cs) (k : Int) : Cs := ⟨s.now, s.last, outT s.T k⟩
def goS (s : Cs) (tgt : Int) : Cs := ⟨tgt, s.last, s.T.drop (dueT s.T tgt)⟩
def goR (s : Cs) (tgt : Int) : List Tm := s.T.take (dueT s.T tgt)
def advE (s : Cs) (d : Int) : Int := if d < 0 then 11 else if 4611686018427387904 - s.now < d then 10 else 0
def advS (s : Cs) (d : Int) : Cs := if advE s d = 0 then goS s (s.now + d) else s
def advR (s : Cs) (d : Int) : List Tm := if advE s d = 0 then goR s (s.now + d) else []
def leapS (s : Cs) : Cs := match s.T with
  | [] => s
  | x :: _ => goS s x.at_
def leapR (s : Cs) : List Tm := match s.T with
  | [] => []
  | x :: _ => goR s x.at_
def fndT (l : List Tm) (k : Int) : Option Tm := l.find? (fun x => x.it == k)
def leftN (s : Cs) (k : Int) : Int := match fndT s.T k with
  | some x => x.at_ - s.now
  | none => 0
def leftB (s : Cs) (k : Int) : Bool := (fndT s.T k).isSome
/-- What holds of a clock at every point. -/
structure Ok (s : Cs) : Prop where
  n0 : 0 ≤ s.now
  n1 : s.now ≤ 4611686018427387904
  l0 : 0 ≤ s.last
  len : s.T.length ≤ 65536
  ll : (s.T.length : Int) ≤ s.last
  at0 : ∀ x ∈ s.T, s.now ≤ x.at_
  at1 : ∀ x ∈ s.T, x.at_ ≤ 4611686018427387904
  it0 : ∀ x ∈ s.T, 1 ≤ x.it
  it1 : ∀ x ∈ s.T, x.it ≤ s.last
  ord : s.T.Pairwise (fun x y => x.at_ < y.at_ ∨ x.at_ = y.at_ ∧ x.it < y.it)
theorem gtT_take {l : List Tm} {i j : Nat} (h : j < i) : gtT (l.take i) j = gtT l j := by simp [gtT, h]
theorem gtT_drop (l : List Tm) (i j : Nat) : gtT (l.drop i) j = gtT l (i + j) := by simp [gtT, List.getD_eq_getElem?_getD, List.getElem?_drop]
theorem ord_le {l : List Tm} (h : l.Pairwise (fun x y => x.at_ < y.at_ ∨ x.at_ = y.at_ ∧ x.it < y.it)) {i j : Nat} (hij : i ≤ j) (hj : j < l.length) : (gtT l i).at_ ≤ (gtT l j).at_ := by
  rcases Nat.lt_or_ge i j with e | e
  · have := List.pairwise_iff_getElem.1 h i j (by omega) hj e
    rw [gtT_eq hj, gtT_eq (by omega)]
    omega
  · have : i = j := by omega
    subst this
    exact Int.le_refl _
theorem ins_ord {l : List Tm} {t k : Int} (h : l.Pairwise (fun x y => x.at_ < y.at_ ∨ x.at_ = y.at_ ∧ x.it < y.it)) (hk : ∀ x ∈ l, x.it < k) {i : Nat} (hp : PosT l t i) : (insT l i ⟨t, k⟩).Pairwise (fun x y => x.at_ < y.at_ ∨ x.at_ = y.at_ ∧ x.it < y.it) := by
  obtain ⟨h1, h2, h3⟩ := hp
  unfold insT
  rw [List.pairwise_append]
  have ht : ∀ x ∈ l.take i, x.at_ ≤ t := fun x hx => by
    obtain ⟨j, hj, rfl⟩ := List.getElem_of_mem hx
    have hj' : j < i ∧ j < l.length := by rw [List.length_take] at hj; omega
    have e1 : (l.take i)[j] = gtT l j := by rw [← gtT_eq hj, gtT_take hj'.1]
    rw [e1]
    have := ord_le h (i := j) (j := i - 1) (by omega) (by omega)
    have := h3 (by omega)
    omega
  have hd : ∀ x ∈ l.drop i, t < x.at_ := fun x hx => by
    obtain ⟨j, hj, rfl⟩ := List.getElem_of_mem hx
    have hj' : j < l.length - i := by simpa using hj
    have e1 : (l.drop i)[j] = gtT l (i + j) := by rw [← gtT_eq hj, gtT_drop]
    rw [e1]
    exact h2 (i + j) (by omega) (by omega)
  refine ⟨h.sublist (List.take_sublist _ _), ?_, fun x hx y hy => ?_⟩
  · rw [List.pairwise_cons]
    exact ⟨fun y hy => Or.inl (hd y hy), h.sublist (List.drop_sublist _ _)⟩
  · rcases List.mem_cons.1 hy with rfl | hy
    · have a := ht x hx
      have b := hk x (List.mem_of_mem_take hx)
      show x.at_ < t ∨ x.at_ = t ∧ x.it < k
      omega
    · have a := ht x hx
      have b := hd y hy
      exact Or.inl (by omega)
theorem armE_ok {s : Cs} {t : Int} (h : armE s t = 0) : (0 ≤ t ∧ t ≤ 4611686018427387904) ∧ s.now ≤ t ∧ s.T.length < 65536 := by
  unfold armE at h
  split at h
  · omega
  · rename_i h1
    have h1' : isT t = true := by simpa using h1
    split at h
    · omega
    · split at h
      · omega
      · exact ⟨of_decide_eq_true h1', by omega, by omega⟩
theorem Ok.arm {s : Cs} (h : Ok s) (t : Int) : Ok (armS s t) := by
  unfold armS
  split
  · rename_i e
    obtain ⟨h1, h2, h3⟩ := armE_ok e
    have hp := posT_pos s.T t
    refine ⟨h.n0, h.n1, by have := h.l0; show 0 ≤ s.last + 1; omega, ?_, by show ((insT _ _ _).length : Int) ≤ s.last + 1; rw [insT_len _ hp.1]; have := h.ll; omega, fun x hx => ?_, fun x hx => ?_, fun x hx => ?_, fun x hx => ?_, ?_⟩
    · show (insT _ _ _).length ≤ _
      rw [insT_len _ hp.1]; omega
    · rcases insT_mem hx with e | rfl
      · exact h.at0 x e
      · exact h2
    · rcases insT_mem hx with e | rfl
      · exact h.at1 x e
      · exact h1.2
    · rcases insT_mem hx with e | rfl
      · exact h.it0 x e
      · have := h.l0; show 1 ≤ s.last + 1; omega
    · rcases insT_mem hx with e | rfl
      · have := h.it1 x e; show _ ≤ s.last + 1; omega
      · exact Int.le_refl _
    · exact ins_ord h.ord (fun x hx => by have := h.it1 x hx; omega) hp
  · exact h
theorem Ok.stop {s : Cs} (h : Ok s) (k : Int) : Ok (stopS s k) := by
  have hm : ∀ x ∈ outT s.T k, x ∈ s.T := fun x hx => (List.mem_filter.1 hx).1
  exact ⟨h.n0, h.n1, h.l0, Nat.le_trans (List.length_filter_le _ _) h.len, by have := h.ll; have := List.length_filter_le (fun x : Tm => x.it != k) s.T; show ((outT s.T k).length : Int) ≤ s.last; unfold outT; omega, fun x hx => h.at0 x (hm x hx), fun x hx => h.at1 x (hm x hx), fun x hx => h.it0 x (hm x hx), fun x hx => h.it1 x (hm x hx), h.ord.sublist List.filter_sublist⟩
theorem Ok.go {s : Cs} (h : Ok s) {tgt : Int} (h0 : s.now ≤ tgt) (h1 : tgt ≤ 4611686018427387904) : Ok (goS s tgt) := by
  have hm : ∀ x ∈ s.T.drop (dueT s.T tgt), x ∈ s.T := fun x hx => List.mem_of_mem_drop hx
  refine ⟨by have := h.n0; show 0 ≤ tgt; omega, h1, h.l0, ?_, by show ((s.T.drop _).length : Int) ≤ s.last; rw [List.length_drop]; have := h.ll; omega, fun x hx => ?_, fun x hx => h.at1 x (hm x hx), fun x hx => h.it0 x (hm x hx), fun x hx => h.it1 x (hm x hx), h.ord.sublist (List.drop_sublist _ _)⟩
  · show (s.T.drop _).length ≤ _
    rw [List.length_drop]; have := h.len; omega
  · obtain ⟨j, hj, rfl⟩ := List.getElem_of_mem hx
    have hj' : j < s.T.length - dueT s.T tgt := by simpa [goS] using hj
    have e1 : (s.T.drop (dueT s.T tgt))[j]'(by simpa using hj') = gtT s.T (dueT s.T tgt + j) := by rw [← gtT_eq, gtT_drop]
    show tgt ≤ ((s.T.drop (dueT s.T tgt))[j]'(by simpa using hj')).at_
    rw [e1]
    have a := dueT_stop (l := s.T) (now := tgt) (by omega)
    have b := ord_le h.ord (i := dueT s.T tgt) (j := dueT s.T tgt + j) (by omega) (by omega)
    omega
theorem Ok.adv {s : Cs} (h : Ok s) (d : Int) : Ok (advS s d) := by
  unfold advS
  split
  · rename_i e
    unfold advE at e
    split at e
    · omega
    · split at e
      · omega
      · have := h.n0
        exact h.go (by omega) (by omega)
  · exact h
theorem Ok.leap {s : Cs} (h : Ok s) : Ok (leapS s) := by
  unfold leapS
  split
  · exact h
  · rename_i x l e
    have hx : x ∈ s.T := by rw [e]; exact List.mem_cons_self
    exact h.go (h.at0 x hx) (h.at1 x hx)
theorem Ok.in_ {s : Cs} (h : Ok s) (d : Int) : Ok (inS s d) := by
  unfold inS
  split
  · exact h
  · exact h.arm _
theorem Ok.start : Ok ⟨0, 0, []⟩ := ⟨Int.le_refl _, by decide, Int.le_refl _, by simp, by simp, fun x hx => by simp at hx, fun x hx => by simp at hx, fun x hx => by simp at hx, fun x hx => by simp at hx, List.Pairwise.nil⟩
theorem armS_last {s : Cs} (t : Int) : s.last ≤ (armS s t).last ∧ (armS s t).last ≤ s.last + 1 := by
  unfold armS
  split
  · exact ⟨by show s.last ≤ s.last + 1; omega, by show s.last + 1 ≤ _; omega⟩
  · exact ⟨Int.le_refl _, by omega⟩
end Go.Proofs.YtcbckehdlbbbbaaDoor.Cl
/- A clock in memory; the contracts of New, Now, Arm, In, Stop, Left, Next. -/
namespace Go.Proofs.YtcbckehdlbbbbaaDoor.Cl
open Go.RowKit Go.Maps Go.ChangeMaps
set_option linter.unusedVariables false
def tmOf (x : Slot) : Tm := ⟨x.at_, x.item⟩
def tms (S : List Slot) : List Tm := S.map tmOf
theorem tms_len (S : List Slot) : (tms S).length = S.length := by simp [tms]
theorem gtT_tms {S : List Slot} {n : Nat} (h : n < S.length) : gtT (tms S) n = tmOf (gt S n) := by
  rw [gtT_eq (by rw [tms_len]; exact h), gt_eq h]
  simp [tms]
theorem tms_ins (S : List Slot) (i : Nat) (t p k : Int) : tms (ins S i ⟨t, p, k⟩) = insT (tms S) i ⟨t, k⟩ := by
  unfold tms ins insT
  simp [tmOf, List.map_take, List.map_drop]
theorem pos_tms {S : List Slot} {t : Int} {i : Nat} (h : PosT (tms S) t i) : Pos S t i := by
  obtain ⟨h1, h2, h3⟩ := h
  rw [tms_len] at h1 h2
  refine ⟨h1, fun j hj hij => ?_, fun h0 => ?_⟩
  · have := h2 j hj hij
    rw [gtT_tms hj] at this
    exact this
  · have := h3 h0
    rw [gtT_tms (by omega)] at this
    exact this
theorem mem_tms {S : List Slot} {x : Slot} (h : x ∈ S) : tmOf x ∈ tms S := List.mem_map_of_mem h
theorem tms_find (S : List Slot) (k : Int) : fndT (tms S) k = match idx S k with
    | some a => some (tmOf (gt S a))
    | none => none := by
  unfold fndT tms
  cases e : idx S k with
  | none =>
    rw [List.find?_eq_none]
    intro x hx
    obtain ⟨y, hy, rfl⟩ := List.mem_map.1 hx
    have := idx_none.1 e y hy
    simpa [tmOf] using this
  | some a =>
    obtain ⟨h1, h2⟩ := idx_some e
    unfold idx at e
    rw [List.findIdx?_eq_some_iff_getElem] at e
    obtain ⟨h3, h4, h5⟩ := e
    rw [List.find?_eq_some_iff_getElem]
    refine ⟨by simpa [tmOf] using h2, a, by simpa using h1, by simp [gt_eq h1], fun j hj => ?_⟩
    have := h5 j hj
    simpa [tmOf] using this
theorem tms_out {S : List Slot} (hd : Nd S) {k : Int} {a : Nat} (h : idx S k = some a) : outT (tms S) k = tms (S.eraseIdx a) := by
  obtain ⟨h1, h2⟩ := idx_some h
  have e1 : tms S = tms (S.take a) ++ tmOf S[a] :: tms (S.drop (a + 1)) := by
    unfold tms
    rw [← List.map_cons, ← List.map_append, ← List.drop_eq_getElem_cons h1, List.take_append_drop]
  have ne : ∀ j, j < S.length → j ≠ a → (gt S j).item ≠ k := fun j hj hn e => hn (nd_at hd hj h1 (by rw [e, h2]))
  have f1 : outT (tms (S.take a)) k = tms (S.take a) := by
    unfold outT
    rw [List.filter_eq_self]
    intro x hx
    obtain ⟨y, hy, rfl⟩ := List.mem_map.1 hx
    obtain ⟨j, hj, rfl⟩ := List.getElem_of_mem hy
    have hj' : j < a ∧ j < S.length := by rw [List.length_take] at hj; omega
    have := ne j hj'.2 (by omega)
    rw [gt_eq hj'.2] at this
    simpa [tmOf] using this
  have f2 : outT (tms (S.drop (a + 1))) k = tms (S.drop (a + 1)) := by
    unfold outT
    rw [List.filter_eq_self]
    intro x hx
    obtain ⟨y, hy, rfl⟩ := List.mem_map.1 hx
    obtain ⟨j, hj, rfl⟩ := List.getElem_of_mem hy
    have hj' : j < S.length - (a + 1) := by simpa using hj
    have := ne (a + 1 + j) (by omega) (by omega)
    rw [gt_eq (by omega)] at this
    simpa [tmOf] using this
  have f3 : (tmOf S[a]).it = k := by rw [gt_eq h1] at h2; exact h2
  have f4 : outT (tms S) k = outT (tms (S.take a)) k ++ outT (tms (S.drop (a + 1))) k := by
    rw [e1]
    unfold outT
    rw [List.filter_append, List.filter_cons, if_neg (by simp [f3])]
  rw [f4, f1, f2, List.eraseIdx_eq_take_drop_succ]
  unfold tms
  rw [List.map_append]
theorem tms_out_none {S : List Slot} {k : Int} (h : idx S k = none) : outT (tms S) k = tms S := by
  unfold outT
  rw [List.filter_eq_self]
  intro x hx
  obtain ⟨y, hy, rfl⟩ := List.mem_map.1 hx
  have := idx_none.1 h y hy
  simpa [tmOf] using this
theorem tms_has (S : List Slot) (k : Int) : hasT (tms S) k = (idx S k).isSome := by
  cases e : idx S k with
  | none =>
    unfold hasT
    rw [List.any_eq_false.2]
    · rfl
    · intro x hx
      obtain ⟨y, hy, rfl⟩ := List.mem_map.1 hx
      have := idx_none.1 e y hy
      simpa [tmOf] using this
  | some a =>
    obtain ⟨h1, h2⟩ := idx_some e
    unfold hasT
    rw [List.any_eq_true.2]
    · rfl
    · exact ⟨tmOf (gt S a), mem_tms (gt_mem h1), by simpa [tmOf] using h2⟩

def PC (c : Nat) : Value := .pointer (some ⟨c, 0, none⟩)
def CC (w : World) (c q : Nat) (now last : Int) : Prop := w.heap[c]? = some (.cells #[.int .i64 now, .int .i64 last, .pointer (some ⟨q, 0, none⟩)] 89 (0, 0))
section
variable {w w' : World} {c q : Nat} {now last : Int}
theorem CC.c0 (h : CC w c q now last) : w.cell? ⟨c, 0, none⟩ = some (.int .i64 now) := by unfold CC at h; simp [World.cell?, h]
theorem CC.c1 (h : CC w c q now last) : w.cell? ⟨c, 1, none⟩ = some (.int .i64 last) := by unfold CC at h; simp [World.cell?, h]
theorem CC.c2 (h : CC w c q now last) : w.cell? ⟨c, 2, none⟩ = some (.pointer (some ⟨q, 0, none⟩)) := by unfold CC at h; simp [World.cell?, h]
theorem CC.fr (h : CC w c q now last) (i : Nat) : w.frozen? ⟨c, i, none⟩ = false := by unfold CC at h; simp [World.frozen?, h]
theorem CC.set0 (h : CC w c q now last) (x : Int) : CC (w.setCell ⟨c, 0, none⟩ (.int .i64 x)) c q x last := Joins.block_setCell h _
theorem CC.set1 (h : CC w c q now last) (x : Int) : CC (w.setCell ⟨c, 1, none⟩ (.int .i64 x)) c q now x := Joins.block_setCell h _
theorem CC.keep {F : List Nat} (h : CC w c q now last) (ht : Touch F w w') (hn : ¬ c ∈ F) : CC w' c q now last := ht.keep h hn
end
structure CkS (w : World) (c q : Nat) (G : List Nat) (p : Int) (S : List Slot) (s : Cs) : Prop where
  cc : CC w c q s.now s.last
  tq : Tq w q G p S
  ap : ¬ c ∈ G
  pl : p ≤ s.last
  eq : s.T = tms S
  ok : Ok s
/-- A clock at block c, its blocks F, that stands as s. -/
def Ck (w : World) (c : Nat) (F : List Nat) (s : Cs) : Prop := ∃ q G p S, F = c :: G ∧ CkS w c q G p S s
theorem Ck.ok {w : World} {c : Nat} {F : List Nat} {s : Cs} (h : Ck w c F s) : Ok s := by
  obtain ⟨q, G, p, S, rfl, k⟩ := h
  exact k.ok
theorem Ck.keep {H : List Nat} {w w' : World} {c : Nat} {F : List Nat} {s : Cs} (h : Ck w c F s) (ht : Touch H w w') (hn : ∀ k, k ∈ F → ¬ k ∈ H) : Ck w' c F s := by
  obtain ⟨q, G, p, S, rfl, k⟩ := h
  exact ⟨q, G, p, S, rfl, k.cc.keep ht (hn c List.mem_cons_self), k.tq.keep ht (fun i hi => hn i (List.mem_cons_of_mem _ hi)), k.ap, k.pl, k.eq, k.ok⟩
theorem Ck.keep0 {w w' : World} {c : Nat} {F : List Nat} {s : Cs} (h : Ck w c F s) (ht : Touch [] w w') : Ck w' c F s := h.keep ht (fun _ _ e => by cases e)
theorem Ck.lt {w : World} {c : Nat} {F : List Nat} {s : Cs} (h : Ck w c F s) : ∀ k, k ∈ F → k < w.heap.size := by
  obtain ⟨q, G, p, S, rfl, k⟩ := h
  intro i hi
  rcases List.mem_cons.1 hi with rfl | hi
  · exact block_lt k.cc
  · exact k.tq.lt i hi
theorem CkS.nd {w : World} {c q : Nat} {G : List Nat} {p : Int} {S : List Slot} {s : Cs} (k : CkS w c q G p S s) : idx S (s.last + 1) = none := by
  rw [idx_none]
  intro x hx
  have := k.ok.it1 (tmOf x) (by rw [k.eq]; exact mem_tms hx)
  simp only [tmOf] at this
  omega
theorem Tq.p0 {w : World} {q : Nat} {F : List Nat} {p : Int} {S : List Slot} (h : Tq w q F p S) : 0 ≤ p := by
  obtain ⟨sl, m, _, t⟩ := h
  exact t.p0
theorem CkS.w64 {w : World} {c q : Nat} {G : List Nat} {p : Int} {S : List Slot} {s : Cs} (k : CkS w c q G p S s) : S.length = s.T.length := by rw [k.eq, tms_len]
/-- What a call leaves behind. -/
def Nx (w w' : World) (c : Nat) (F : List Nat) (s : Cs) : Prop := ∃ F', Ck w' c F' s ∧ Touch F w w' ∧ Nf w F F'
theorem now14 (w : World) (c : Nat) (F : List Nat) (s : Cs) (h : Ck w c F s) : Calls Tryd.prog 24 #[PC c] w fun e w' => e = .returned (.int .i64 s.now) ∧ w' = w := by
  obtain ⟨q, G, p, S, rfl, k⟩ := h
  have c0 := k.cc.c0
  clear k
  generalize s.now = n at *
  unfold PC
  go_enter Tryd.func24, Tryd.ntmps24
  go_wp2
  go_ret
  exact ⟨rfl, rfl⟩
theorem after26 (t d : Int) (w : World) (h0 : 0 ≤ t) (h1 : t ≤ 4611686018427387904) (hd : 0 ≤ d) (hw : d ≤ 9223372036854775807) :
    Calls Tryd.prog 66 #[.int .i64 t, .int .i64 d] w fun e w' => e = .returned (.tuple #[.int .i64 (if 4611686018427387904 - t < d then 4611686018427387904 else t + d), .bool (decide (d ≤ 4611686018427387904 - t))]) ∧ w' = w := by
  have HI := hid (is37 t w)
  rw [isT_yes ⟨h0, h1⟩] at HI
  by_cases hb : 4611686018427387904 - t < d
  · have hn : ¬ d ≤ 4611686018427387904 - t := by omega
    rw [if_pos hb, decide_eq_false hn]
    go_enter Tryd.func66, Tryd.ntmps66
    go_wp2_with (go_at_call 77; refine HI.out.mono ?_; rintro e w2 ⟨rfl, rfl⟩)
    exact bodyPost_ret (v := .tuple #[.int .i64 4611686018427387904, .bool false]) (by simp [results, Tryd.results66, go_sem]) rfl ⟨rfl, rfl⟩
  · have hn : d ≤ 4611686018427387904 - t := by omega
    rw [if_neg hb, decide_eq_true hn]
    go_enter Tryd.func66, Tryd.ntmps66
    go_wp2_with (go_at_call 77; refine HI.out.mono ?_; rintro e w2 ⟨rfl, rfl⟩)
    exact bodyPost_ret (v := .tuple #[.int .i64 (t + d), .bool true]) (by simp [results, Tryd.results66, go_sem]) rfl ⟨rfl, rfl⟩
end Go.Proofs.YtcbckehdlbbbbaaDoor.Cl
/- The contracts of New, Arm, In, Stop, Left and Next of a clock. -/
namespace Go.Proofs.YtcbckehdlbbbbaaDoor.Cl
open Go.RowKit Go.Maps Go.ChangeMaps
set_option linter.unusedVariables false
theorem CkS.keep0 {w w' : World} {c q : Nat} {G : List Nat} {p : Int} {S : List Slot} {s : Cs} (k : CkS w c q G p S s) (ht : Touch [] w w') : CkS w' c q G p S s := ⟨k.cc.keep ht (fun e => by cases e), k.tq.keep0 ht, k.ap, k.pl, k.eq, k.ok⟩
theorem Nx.pre {w w1 w' : World} {c : Nat} {F : List Nat} {s : Cs} (ht : Touch [] w w1) (h : Nx w1 w' c F s) : Nx w w' c F s := by
  obtain ⟨F', h1, h2, h3⟩ := h
  refine ⟨F', h1, (ht.mono (fun _ e => by cases e)).trans' h2, fun i hi => ?_⟩
  rcases h3 i hi with e | e
  · exact Or.inl e
  · exact Or.inr (Nat.le_trans ht.size e)
theorem Nx.post {w w1 w' : World} {c : Nat} {F : List Nat} {s : Cs} (h : Nx w w1 c F s) (ht : Touch [] w1 w') : Nx w w' c F s := by
  obtain ⟨F', h1, h2, h3⟩ := h
  exact ⟨F', h1.keep0 ht, h2.trans' (ht.mono (fun _ e => by cases e)), h3⟩
theorem Nx.same {w w' : World} {c : Nat} {F : List Nat} {s : Cs} (h : Ck w c F s) (ht : Touch [] w w') : Nx w w' c F s := ⟨F, h.keep0 ht, ht.mono (fun _ e => by cases e), Nf.refl _ _⟩
theorem newTimes21 (w : World) : Calls Tryd.prog 28 #[] w fun e w' => e = .returned (.pointer (some ⟨w.heap.size, 0, none⟩)) ∧ Tq w' w.heap.size [w.heap.size] 0 [] ∧ Touch [] w w' := by
  go_enter Tryd.func28, Tryd.ntmps28
  go_wp2
  go_ret
  refine ⟨rfl, ⟨.slice none 0 0, none, rfl, ⟨[], ⟨heap_alloc_new w _, World.ownsRow_nil _ _ _ _, Or.inl ⟨rfl, rfl⟩, List.nodup_nil, fun x hx => by simp at hx, by simp⟩, fun k _ h => by simp at h, List.Perm.refl _⟩, List.Pairwise.nil, fun x hx => by simp at hx, by decide, fun x hx => by simp at hx⟩, (Touch.refl _ _).alloc _⟩
def NwQ (e : Ending) (w w' : World) (s : Cs) : Prop := ∃ c F, e = .returned (.pointer (some ⟨c, 0, none⟩)) ∧ Ck w' c F s ∧ Touch [] w w' ∧ ∀ k, k ∈ F → w.heap.size ≤ k
theorem new7 (w : World) : Calls Tryd.prog 9 #[] w fun e w' => NwQ e w w' ⟨0, 0, []⟩ := by
  have HN := hid (newTimes21 w)
  go_enter Tryd.func9, Tryd.ntmps9
  go_wp2_with (go_at_call 28; refine HN.out.mono ?_; rintro e w1 ⟨rfl, hq, ht⟩; have Q := hid (And.intro hq ht); clear hq ht)
  go_ret
  have hlt := Q.out.1.lt w.heap.size (by simp)
  refine ⟨w1.heap.size, [w1.heap.size, w.heap.size], rfl, ⟨_, [w.heap.size], 0, [], rfl, heap_alloc_new _ _, Q.out.1.keep0 ((Touch.refl _ _).alloc _), by simp; omega, Int.le_refl _, rfl, Ok.start⟩, Q.out.2.alloc _, fun k hk => ?_⟩
  simp at hk
  omega
section
variable (w : World) (c : Nat) (F : List Nat) (s : Cs) (t : Int)
theorem arm10_tick (h : Ck w c F s) (ht : isT t = false) : Calls Tryd.prog 67 #[PC c, .int .i64 t] w fun e w' => e = .returned (.tuple #[.int .i64 0, .int .i64 10]) ∧ w' = w := by
  have HI := hid (is37 t w)
  rw [ht] at HI
  clear ht h
  unfold PC
  go_enter Tryd.func67, Tryd.ntmps67
  go_wp2_with (go_at_call 77; refine HI.out.mono ?_; rintro e w2 ⟨rfl, rfl⟩)
  exact bodyPost_ret (v := .tuple #[.int .i64 0, .int .i64 10]) (by simp [results, Tryd.results67, go_sem]) rfl ⟨rfl, rfl⟩
theorem arm10_past (h : Ck w c F s) (ht : isT t = true) (hn : t < s.now) : Calls Tryd.prog 67 #[PC c, .int .i64 t] w fun e w' => e = .returned (.tuple #[.int .i64 0, .int .i64 50]) ∧ w' = w := by
  have HI := hid (is37 t w)
  rw [ht] at HI
  obtain ⟨q, G, p, S, rfl, k⟩ := h
  have c0 := k.cc.c0
  clear ht k
  generalize s.now = n at *
  unfold PC
  go_enter Tryd.func67, Tryd.ntmps67
  go_wp2_with (go_at_call 77; refine HI.out.mono ?_; rintro e w2 ⟨rfl, rfl⟩)
  exact bodyPost_ret (v := .tuple #[.int .i64 0, .int .i64 50]) (by simp [results, Tryd.results67, go_sem]) rfl ⟨rfl, rfl⟩
theorem arm10_many (h : Ck w c F s) (ht : isT t = true) (hn : s.now ≤ t) (hm : 65536 ≤ s.T.length) : Calls Tryd.prog 67 #[PC c, .int .i64 t] w fun e w' => e = .returned (.tuple #[.int .i64 0, .int .i64 3]) ∧ w' = w := by
  have HI := hid (is37 t w)
  rw [ht] at HI
  obtain ⟨q, G, p, S, rfl, k⟩ := h
  have c0 := k.cc.c0
  have c2 := k.cc.c2
  have HL := hid (len26 w q G p S k.tq)
  have zl : (65536 : Int) ≤ (S.length : Int) := by rw [k.w64]; omega
  clear ht k hm
  generalize s.now = n at *
  generalize (S.length : Int) = N at *
  unfold PC
  unfold PT at HL
  go_enter Tryd.func67, Tryd.ntmps67
  go_wp2_with (first | (go_at_call 77; refine HI.out.mono ?_; rintro e w2 ⟨rfl, rfl⟩) | (go_at_call 72; refine HL.out.mono ?_; rintro e w2 ⟨rfl, rfl⟩))
  exact bodyPost_ret (v := .tuple #[.int .i64 0, .int .i64 3]) (by simp [results, Tryd.results67, go_sem]) rfl ⟨rfl, rfl⟩
theorem arm_end {w w1 : World} {c q : Nat} {G F' : List Nat} {p : Int} {S : List Slot} {s : Cs} {t : Int} (k : CkS w c q G p S s) (he : armE s t = 0)
    (h1 : Tq w1 q F' (p + 1) (ins S (pos s.T t) ⟨t, p, s.last + 1⟩)) (h2 : Touch G w w1) (h3 : Nf w G F') : CC w1 c q s.now s.last ∧ Nx w (w1.setCell ⟨c, 1, none⟩ (.int .i64 (s.last + 1))) c (c :: G) (armS s t) := by
  have hc := k.cc.keep h2 k.ap
  have hcF : ¬ c ∈ F' := fun e => by
    rcases h3 c e with e' | e'
    · exact k.ap e'
    · have := block_lt k.cc; omega
  have T1 : Touch [c] w1 (w1.setCell ⟨c, 1, none⟩ (.int .i64 (s.last + 1))) := (Touch.refl _ _).setCell (Or.inl (by simp)) _
  refine ⟨hc, c :: F', ⟨q, F', p + 1, ins S (pos s.T t) ⟨t, p, s.last + 1⟩, rfl, ?_, h1.keep T1 (fun i hi e => hcF (by rw [List.mem_singleton] at e; rw [← e]; exact hi)), hcF, ?_, ?_, k.ok.arm t⟩, ?_, fun i hi => ?_⟩
  · unfold armS
    rw [if_pos he]
    exact hc.set1 _
  · unfold armS
    rw [if_pos he]
    have := k.pl
    show p + 1 ≤ s.last + 1
    omega
  · unfold armS
    rw [if_pos he, tms_ins, ← k.eq]
  · exact (h2.mono (G := c :: G) (fun i hi => List.mem_cons_of_mem _ hi)).setCell (p := ⟨c, 1, none⟩) (Or.inl List.mem_cons_self) _
  · rcases List.mem_cons.1 hi with rfl | hi
    · exact Or.inl List.mem_cons_self
    · rcases h3 i hi with e | e
      · exact Or.inl (List.mem_cons_of_mem _ e)
      · exact Or.inr e
set_option maxHeartbeats 2000000 in
theorem arm10_ok (h : Ck w c F s) (he : armE s t = 0) (hl : s.last < 4611686018427387904) : Calls Tryd.prog 67 #[PC c, .int .i64 t] w fun e w' => e = .returned (.tuple #[.int .i64 (s.last + 1), .int .i64 0]) ∧ Nx w w' c F (armS s t) := by
  obtain ⟨q, G, p, S, rfl, k⟩ := h
  obtain ⟨h1, h2, h3⟩ := armE_ok he
  have HI := hid (is37 t w)
  rw [isT_yes h1] at HI
  have c0 := k.cc.c0
  have c1 := k.cc.c1
  have c2 := k.cc.c2
  have HL := hid (len26 w q G p S k.tq)
  have zl : (S.length : Int) < 65536 := by rw [k.w64]; omega
  have l0 := k.ok.l0
  have HP : Hid (∀ w1, Touch [] w w1 → Calls Tryd.prog 78 #[.pointer (some ⟨q, 0, none⟩), .int .i64 t, .int .i64 (s.last + 1)] w1 fun e w' => e = .returned (.int .i64 0) ∧ (w'.cell? ⟨c, 1, none⟩ = some (.int .i64 s.last) ∧ w'.cell? ⟨c, 2, none⟩ = some (.pointer (some ⟨q, 0, none⟩)) ∧ w'.frozen? ⟨c, 1, none⟩ = false) ∧ Nx w (w'.setCell ⟨c, 1, none⟩ (.int .i64 (s.last + 1))) c (c :: G) (armS s t)) := fun w1 t1 => by
    refine (put24_ok w1 q G p S t (s.last + 1) (pos s.T t) (W64.mk (by omega) (by omega)) (k.tq.keep0 t1) (isT_yes h1) k.nd (by rw [k.w64]; exact h3) (pos_tms (by rw [← k.eq]; exact posT_pos _ _)) (by have := k.pl; omega)).mono ?_
    rintro e w2 ⟨he1, F', r1, r2, r3⟩
    obtain ⟨r4, r5⟩ := arm_end (k.keep0 t1) he r1 r2 r3
    exact ⟨he1, ⟨r4.c1, r4.c2, r4.fr 1⟩, r5.pre t1⟩
  clear k he h3
  generalize armS s t = s' at *
  generalize s.now = n at *
  generalize s.last = l at *
  generalize (S.length : Int) = N at *
  have hw : IntKind.i64.wrap (l + 1) = l + 1 := by simp [IntKind.wrap, IntKind.bits, IntKind.signed]; omega
  have HB := hid (And.intro hl l0)
  clear h1 hl l0
  unfold PC
  unfold PT at HL
  go_enter Tryd.func67, Tryd.ntmps67
  go_wp2_with (first | (go_at_call 77; refine HI.out.mono ?_; rintro e w2 ⟨rfl, rfl⟩) | (go_at_call 72; refine HL.out.mono ?_; rintro e w2 ⟨rfl, rfl⟩))
  go_region_held3 (fun w' => w'.cell? ⟨c, 2, none⟩ = some (.pointer (some ⟨q, 0, none⟩)) ∧ w'.cell? ⟨c, 1, none⟩ = some (.int .i64 l)) (first | assumption | go_keep)
    (first | (go_at_call 78; refine (HP.out _ (Touch.refl _ _).drew).mono ?_; rintro e w1 ⟨rfl, ⟨y1, y2, yf⟩, r⟩; have R := hid r; clear r))
  go_wp2
  exact bodyPost_ret (v := .tuple #[.int .i64 (l + 1), .int .i64 0]) (by simp [results, Tryd.results67, go_sem]) rfl ⟨rfl, R.out⟩
end
end Go.Proofs.YtcbckehdlbbbbaaDoor.Cl
/- The contracts of Arm as one, and of In, Stop, Left and Next of a clock. -/
namespace Go.Proofs.YtcbckehdlbbbbaaDoor.Cl
open Go.RowKit Go.Maps Go.ChangeMaps
set_option linter.unusedVariables false
section
variable (w : World) (c : Nat) (F : List Nat) (s : Cs) (t : Int)
theorem arm10 (h : Ck w c F s) (hl : s.last < 4611686018427387904) : Calls Tryd.prog 67 #[PC c, .int .i64 t] w fun e w' => e = .returned (.tuple #[.int .i64 (armN s t), .int .i64 (armE s t)]) ∧ Nx w w' c F (armS s t) := by
  by_cases he : armE s t = 0
  · have hn : armN s t = s.last + 1 := by unfold armN; rw [if_pos he]
    rw [he, hn]
    exact arm10_ok w c F s t h he hl
  · have hn : armN s t = 0 := by unfold armN; rw [if_neg he]
    have hs : armS s t = s := by unfold armS; rw [if_neg he]
    rw [hn, hs]
    have R : ∀ {P : Int}, armE s t = P → (Calls Tryd.prog 67 #[PC c, .int .i64 t] w fun e w' => e = .returned (.tuple #[.int .i64 0, .int .i64 P]) ∧ w' = w) → Calls Tryd.prog 67 #[PC c, .int .i64 t] w fun e w' => e = .returned (.tuple #[.int .i64 0, .int .i64 (armE s t)]) ∧ Nx w w' c F s := fun {P} e k => by
      refine k.mono ?_
      rintro e1 w' ⟨rfl, rfl⟩
      exact ⟨by rw [e], Nx.same h (Touch.refl _ _)⟩
    by_cases h1 : isT t = false
    · exact R (by unfold armE; rw [if_pos h1]) (arm10_tick w c F s t h h1)
    · have h1' : isT t = true := by simpa using h1
      by_cases h2 : t < s.now
      · exact R (by unfold armE; rw [if_neg h1, if_pos h2]) (arm10_past w c F s t h h1' h2)
      · by_cases h3 : 65536 ≤ s.T.length
        · exact R (by unfold armE; rw [if_neg h1, if_neg h2, if_pos h3]) (arm10_many w c F s t h h1' (by omega) h3)
        · exact absurd (by unfold armE; rw [if_neg h1, if_neg h2, if_neg h3]) he
variable (d : Int)
theorem in16 (h : Ck w c F s) (hl : s.last < 4611686018427387904) (hd : W64 d) : Calls Tryd.prog 50 #[PC c, .int .i64 d] w fun e w' => e = .returned (.tuple #[.int .i64 (inN s d), .int .i64 (inE s d)]) ∧ Nx w w' c F (inS s d) := by
  have ok := h.ok
  by_cases h0 : d < 0
  · have e1 : inN s d = 0 := by unfold inN; rw [if_pos h0]
    have e2 : inE s d = 11 := by unfold inE; rw [if_pos h0]
    have e3 : inS s d = s := by unfold inS; rw [if_pos h0]
    rw [e1, e2, e3]
    have HN : Hid (Nx w w c F s) := Nx.same h (Touch.refl _ _)
    clear h e1 e2 e3 ok
    unfold PC
    go_enter Tryd.func50, Tryd.ntmps50
    go_wp2
    exact bodyPost_ret (v := .tuple #[.int .i64 0, .int .i64 11]) (by simp [results, Tryd.results50, go_sem]) rfl ⟨rfl, HN.out⟩
  · have e1 : inN s d = armN s (inT s d) := by unfold inN; rw [if_neg h0]
    have e2 : inE s d = armE s (inT s d) := by unfold inE; rw [if_neg h0]
    have e3 : inS s d = armS s (inT s d) := by unfold inS; rw [if_neg h0]
    rw [e1, e2, e3]
    have HA := hid (arm10 w c F s (inT s d) h hl)
    have HF := hid (after26 s.now d w ok.n0 ok.n1 (by omega) hd.hi)
    rw [show (if 4611686018427387904 - s.now < d then 4611686018427387904 else s.now + d) = inT s d from rfl] at HF
    obtain ⟨q, G, p, S, rfl, k⟩ := h
    have c0 := k.cc.c0
    clear k e1 e2 e3 ok hd hl
    generalize armS s (inT s d) = s1 at *
    generalize armN s (inT s d) = n1 at *
    generalize armE s (inT s d) = m1 at *
    generalize inT s d = t at *
    generalize decide (d ≤ 4611686018427387904 - s.now) = b at *
    generalize s.now = n at *
    unfold PC at *
    go_enter Tryd.func50, Tryd.ntmps50
    go_wp2_with (first | (go_at_call 66; refine HF.out.mono ?_; rintro e w2 ⟨rfl, rfl⟩) | (go_at_call 67; refine HA.out.mono ?_; rintro e w3 ⟨rfl, r⟩; have R := hid r; clear r))
    exact bodyPost_ret (v := .tuple #[.int .i64 n1, .int .i64 m1]) (by simp [results, Tryd.results50, go_sem]) rfl ⟨rfl, R.out⟩
variable (m : Int)
theorem tms_nil {S : List Slot} (h : tms S = []) : S = [] := by
  cases S with
  | nil => rfl
  | cons x S => simp [tms] at h
theorem tms_cons {S : List Slot} {x : Tm} {l : List Tm} (h : tms S = x :: l) : ∃ y R, S = y :: R ∧ x = tmOf y ∧ l = tms R := by
  cases S with
  | nil => simp [tms] at h
  | cons y S =>
    simp only [tms, List.map_cons, List.cons.injEq] at h
    exact ⟨y, S, rfl, h.1.symm, h.2.symm⟩
theorem next17_nil0 {q : Nat} {G : List Nat} {p now last : Int} (hc : CC w c q now last) (hq : Tq w q G p []) : Calls Tryd.prog 38 #[PC c] w fun e w' => e = .returned (.tuple #[.agg #[.int .i64 0, .int .i64 0], .bool false]) ∧ Touch [] w w' := by
  have c2 := hc.c2
  have HD : Hid (∀ w1, Touch [] w w1 → Calls Tryd.prog 54 #[.pointer (some ⟨q, 0, none⟩)] w1 fun e w' => e = .returned (.tuple #[.int .i64 0, .int .i64 0, .bool false]) ∧ w' = w1) := fun w1 t1 => next27_nil w1 q G p (hq.keep0 t1)
  have hb : c < w.heap.size := block_lt hc
  clear hc hq
  unfold PC
  go_enter Tryd.func38, Tryd.ntmps38
  go_wp2_with (go_at_call 54; refine (HD.out _ ((Touch.refl _ _).alloc _)).mono ?_; rintro e w3 ⟨rfl, rfl⟩)
  exact bodyPost_ret (v := .tuple #[.agg #[.int .i64 0, .int .i64 0], .bool false]) (by simp [results, Tryd.results38, go_sem]) rfl ⟨rfl, (Touch.refl _ _).alloc _⟩
theorem next17_cons0 {q : Nat} {G : List Nat} {p now last : Int} {y : Slot} {R : List Slot} (hc : CC w c q now last) (hq : Tq w q G p (y :: R)) : Calls Tryd.prog 38 #[PC c] w fun e w' => e = .returned (.tuple #[.agg #[.int .i64 y.item, .int .i64 y.at_], .bool true]) ∧ Touch [] w w' := by
  have c2 := hc.c2
  have HD : Hid (∀ w1, Touch [] w w1 → Calls Tryd.prog 54 #[.pointer (some ⟨q, 0, none⟩)] w1 fun e w' => e = .returned (.tuple #[.int .i64 y.at_, .int .i64 y.item, .bool true]) ∧ Touch [] w1 w') := fun w1 t1 => next27_cons w1 q G p y R (hq.keep0 t1)
  have hb : c < w.heap.size := block_lt hc
  clear hc hq
  generalize y.at_ = u at *
  generalize y.item = v at *
  unfold PC
  go_enter Tryd.func38, Tryd.ntmps38
  go_wp2_with (go_at_call 54; refine (HD.out _ ((Touch.refl _ _).alloc _)).mono ?_; rintro e w3 ⟨rfl, t3⟩; have B3 := hid (t3.keep (heap_alloc_new w _) (by simp)); have T3 := hid t3; clear t3; have b0 : w3.cell? ⟨w.heap.size, 0, none⟩ = some (.int .i64 0) := (by simp [World.cell?, B3.out]); have b1 : w3.cell? ⟨w.heap.size, 1, none⟩ = some (.int .i64 0) := (by simp [World.cell?, B3.out]); have bf0 : w3.frozen? ⟨w.heap.size, 0, none⟩ = false := (by simp [World.frozen?, B3.out]); have bf1 : w3.frozen? ⟨w.heap.size, 1, none⟩ = false := (by simp [World.frozen?, B3.out]))
  exact bodyPost_ret (v := .tuple #[.agg #[.int .i64 v, .int .i64 u], .bool true]) (by simp [results, Tryd.results38, go_sem, b0, b1]) rfl ⟨rfl, ((((Touch.refl _ _).alloc _).trans' T3.out).setCell (Or.inr (Nat.le_refl _)) _).setCell (Or.inr (Nat.le_refl _)) _⟩
theorem next17_nil (h : Ck w c F s) (hT : s.T = []) : Calls Tryd.prog 38 #[PC c] w fun e w' => e = .returned (.tuple #[.agg #[.int .i64 0, .int .i64 0], .bool false]) ∧ Touch [] w w' := by
  obtain ⟨q, G, p, S, rfl, k⟩ := h
  have hS : S = [] := tms_nil (by rw [← k.eq]; exact hT)
  subst hS
  exact next17_nil0 w c k.cc k.tq
theorem next17_cons (h : Ck w c F s) {x : Tm} {l : List Tm} (hT : s.T = x :: l) : Calls Tryd.prog 38 #[PC c] w fun e w' => e = .returned (.tuple #[.agg #[.int .i64 x.it, .int .i64 x.at_], .bool true]) ∧ Touch [] w w' := by
  obtain ⟨q, G, p, S, rfl, k⟩ := h
  obtain ⟨y, R, rfl, rfl, rfl⟩ := tms_cons (by rw [← k.eq]; exact hT)
  exact next17_cons0 w c k.cc k.tq
end
end Go.Proofs.YtcbckehdlbbbbaaDoor.Cl
/- The contract of goTo: the clock stands at a tick, and what is due rings. -/
namespace Go.Proofs.YtcbckehdlbbbbaaDoor.Cl
open Go.RowKit Go.Maps Go.ChangeMaps
set_option linter.unusedVariables false
theorem info45 : (Tryd.prog.info? 105).map (fun i => (i.zero, i.size, i.bytes)) = some (some (.agg #[.int .i64 0, .int .i64 0]), 2, 16) := by kernel_rfl
theorem cell_two_newR (w : World) (x y : Value) (t : TypeId) : ∀ j u, [x, y][j]? = some u → (w.alloc (.cells #[x, y] t)).cell? ((⟨w.heap.size, 0, none⟩ : Addr).add j) = some u := by
  intro j u hj
  match j, hj with
  | 0, hj => simp at hj; subst hj; simp [Addr.add]
  | 1, hj => simp at hj; subst hj; simp [Addr.add]
/-- A ring that lies in a block of its own. -/
def FB (w : World) (b : Nat) (i t : Int) : Prop := w.heap[b]? = some (.cells #[.int .i64 i, .int .i64 t] 105 (0, 0))
section
variable {w w' : World} {b : Nat} {i t : Int}
theorem FB.c0 (h : FB w b i t) : w.cell? ⟨b, 0, none⟩ = some (.int .i64 i) := by unfold FB at h; simp [World.cell?, h]
theorem FB.c1 (h : FB w b i t) : w.cell? ⟨b, 1, none⟩ = some (.int .i64 t) := by unfold FB at h; simp [World.cell?, h]
theorem FB.fr (h : FB w b i t) (j : Nat) : w.frozen? ⟨b, j, none⟩ = false := by unfold FB at h; simp [World.frozen?, h]
theorem FB.set (h : FB w b i t) (i' t' : Int) : FB ((w.setCell ⟨b, 0, none⟩ (.int .i64 i')).setCell ⟨b, 1, none⟩ (.int .i64 t')) b i' t' := by
  have h1 : FB (w.setCell ⟨b, 0, none⟩ (.int .i64 i')) b i' t := Joins.block_setCell h _
  exact Joins.block_setCell h1 _
theorem FB.keep {F : List Nat} (h : FB w b i t) (ht : Touch F w w') (hn : ¬ b ∈ F) : FB w' b i t := ht.keep h hn
theorem FB.new (w : World) (i t : Int) : FB (w.alloc (.cells #[.int .i64 i, .int .i64 t] 105)) w.heap.size i t := heap_alloc_new _ _
end
theorem Tq.notin {w : World} {q : Nat} {F : List Nat} {p : Int} {S : List Slot} (h : Tq w q F p S) {b e : Nat} {cs : Array Value} {z : Nat × Nat} (hb : w.heap[b]? = some (.cells cs e z)) (e1 : e ≠ 120) (e2 : e ≠ 152) : ¬ b ∈ F := by
  obtain ⟨sl, m, rfl, ⟨s, h1, _⟩, _⟩ := h
  intro hF
  simp [fq] at hF
  rcases hF with rfl | hF | hF
  · have := h1.hc
    unfold HC at this
    rw [hb] at this
    simp at this
    exact e1 this.2.1
  · obtain ⟨_, h3 | ⟨g', cap', cur', rfl, hg', hcc', r'⟩⟩ := h1.row
    · rw [h3.1] at hF; cases hF
    · simp [Value.ownBlock] at hF
      subst hF
      rw [hb] at hcc'
      simp at hcc'
      exact e2 hcc'.2.1
  · rcases h1.mp with ⟨rfl, _⟩ | ⟨b', rfl, hm⟩
    · cases hF
    · cases hF
      obtain ⟨D, ⟨es, cl, hb', _⟩, _⟩ := hm
      rw [hb'] at hb
      simp at hb
theorem own_ne {w : World} {base e k n : Nat} {v : Value} {xs : List Value} (h : w.ownsRow base e k v n xs) {b e' : Nat} {cs : Array Value} {z : Nat × Nat} (hb : w.heap[b]? = some (.cells cs e' z)) (he : e ≠ e') : ∀ g, v.ownBlock = some g → g ≠ b := by
  intro g hg eg
  obtain ⟨_, h2 | ⟨g', cap, cur, rfl, hg', hcc, r⟩⟩ := h
  · rw [h2.1] at hg; cases hg
  · simp [Value.ownBlock] at hg
    subst hg eg
    rw [hb] at hcc
    simp at hcc
    exact he hcc.2.1.symm
/-- What Next tells of a queue that stands as R. -/
def NxP (i t : Int) (b : Bool) (R : List Slot) : Prop := (b = true ∧ ∃ x R', R = x :: R' ∧ i = x.item ∧ t = x.at_) ∨ (b = false ∧ R = [])
def NxE (e : Ending) (w w' : World) (R : List Slot) : Prop := ∃ i t b, e = .returned (.tuple #[.agg #[.int .i64 i, .int .i64 t], .bool b]) ∧ Touch [] w w' ∧ NxP i t b R
theorem next17 {w : World} {c q : Nat} {G : List Nat} {p now last : Int} {R : List Slot} (hc : CC w c q now last) (hq : Tq w q G p R) : Calls Tryd.prog 38 #[.pointer (some ⟨c, 0, none⟩)] w fun e w' => NxE e w w' R := by
  cases R with
  | nil =>
    refine (next17_nil0 w c hc hq).mono ?_
    rintro e w' ⟨rfl, ht⟩
    exact ⟨0, 0, false, rfl, ht, Or.inr ⟨rfl, rfl⟩⟩
  | cons y R =>
    refine (next17_cons0 w c hc hq).mono ?_
    rintro e w' ⟨rfl, ht⟩
    exact ⟨y.item, y.at_, true, rfl, ht, Or.inl ⟨rfl, y, R, rfl, rfl, rfl⟩⟩
/-- How goTo stands ahead of a round: k have rung. -/
structure GoS (w wr : World) (c q : Nat) (G : List Nat) (p last tgt : Int) (S : List Slot) (v : Value) (k fb : Nat) (i t : Int) (b : Bool) : Prop where
  hk : k ≤ S.length
  row : wr.ownsRow w.heap.size 105 2 v k (flatT (tms (S.take k)))
  all : ∀ j, j < k → (gt S j).at_ ≤ tgt
  tc : Touch (c :: G) w wr
  cc : CC wr c q tgt last
  tq : ∃ G', Tq wr q G' p (S.drop k) ∧ Nf w G G'
  fc : FB wr fb i t
  fn : w.heap.size ≤ fb
  fa : ∀ b, v.ownBlock = some b → b ≠ fb
  nx : NxP i t b (S.drop k)
theorem GoS.start {w w2 : World} {c q : Nat} {G : List Nat} {p last tgt now : Int} {S : List Slot} {i t : Int} {b : Bool} (hc : CC w c q now last) (hq : Tq w q G p S) (ha : ¬ c ∈ G) (ht : Touch [] (w.setCell ⟨c, 0, none⟩ (.int .i64 tgt)) w2) (hn : NxP i t b S) :
    GoS w (w2.alloc (.cells #[.int .i64 i, .int .i64 t] 105)) c q G p last tgt S (.slice none 0 0) 0 w2.heap.size i t b := by
  have T1 : Touch [c] w (w.setCell ⟨c, 0, none⟩ (.int .i64 tgt)) := (Touch.refl _ _).setCell (p := ⟨c, 0, none⟩) (Or.inl (by simp)) _
  have T2 : Touch [c] w (w2.alloc (.cells #[.int .i64 i, .int .i64 t] 105)) := (T1.trans' (ht.mono (fun _ e => by cases e))).alloc _
  have T3 : Touch [] (w.setCell ⟨c, 0, none⟩ (.int .i64 tgt)) (w2.alloc (.cells #[.int .i64 i, .int .i64 t] 105)) := ht.alloc _
  refine ⟨Nat.zero_le _, World.ownsRow_nil _ _ _ _, fun j hj => by omega, T2.mono (fun k hk => by simp at hk; simp [hk]), (hc.set0 tgt).keep T3 (by simp), ⟨G, ?_, Nf.refl _ _⟩, FB.new _ _ _, ?_, fun b hb => (by cases hb), by simpa using hn⟩
  · exact hq.keep T2 (fun k hk e => ha (by simp at e; rw [← e]; exact hk))
  · exact Nat.le_trans T1.size ht.size
theorem tms_snoc {S : List Slot} {k : Nat} {x : Slot} {R : List Slot} (h : S.drop k = x :: R) : k < S.length ∧ flatT (tms (S.take (k + 1))) = flatT (tms (S.take k)) ++ [.int .i64 x.item, .int .i64 x.at_] ∧ S.drop (k + 1) = R ∧ gt S k = x := by
  have hk : k < S.length := by
    rcases Nat.lt_or_ge k S.length with h' | h'
    · exact h'
    · rw [List.drop_of_length_le h'] at h; cases h
  have e := List.drop_eq_getElem_cons hk
  rw [h] at e
  simp only [List.cons.injEq] at e
  refine ⟨hk, ?_, e.2.symm, by rw [gt_eq hk]; exact e.1.symm⟩
  unfold tms
  rw [List.take_succ_eq_append_getElem hk, List.map_append, ← e.1, flatT_app]
  rfl
/-- Behind Take and the append, ahead of the next Next. -/
theorem GoS.mid {w wr w2 w3 : World} {c q : Nat} {G G2 : List Nat} {p last tgt : Int} {S : List Slot} {v v2 : Value} {k fb : Nat} {i t : Int} {x : Slot} {R : List Slot} {G1 : List Nat} (h : GoS w wr c q G p last tgt S v k fb i t true) (hd : S.drop k = x :: R) (hx : x.at_ ≤ tgt)
    (h1 : Tq wr q G1 p (S.drop k)) (n1 : Nf w G G1) (h2 : Tq w2 q G2 p R) (t2 : Touch G1 wr w2) (n2 : Nf wr G1 G2)
    (hr : w3.ownsRow w.heap.size 105 2 v2 (k + 1) (flatT (tms (S.take k)) ++ [.int .i64 x.item, .int .i64 x.at_])) (t3 : Touch v.ownBlock.toList w2 w3) (hlt : ∀ b, v2.ownBlock = some b → b < w3.heap.size) (i' t' : Int) :
    (CC (w3.alloc (.cells #[.int .i64 i', .int .i64 t'] 105)) c q tgt last ∧ Tq (w3.alloc (.cells #[.int .i64 i', .int .i64 t'] 105)) q G2 p R) ∧ ∀ w5 i5 t5 b5, Touch [] (w3.alloc (.cells #[.int .i64 i', .int .i64 t'] 105)) w5 → NxP i5 t5 b5 R →
      FB w5 w3.heap.size i' t' ∧ GoS w ((w5.setCell ⟨w3.heap.size, 0, none⟩ (.int .i64 i5)).setCell ⟨w3.heap.size, 1, none⟩ (.int .i64 t5)) c q G p last tgt S v2 (k + 1) w3.heap.size i5 t5 b5 := by
  obtain ⟨hk, e1, e2, e3⟩ := tms_snoc hd
  have c1 : ¬ c ∈ G1 := h1.notin h.cc (by decide) (by decide)
  have cc2 := h.cc.keep t2 c1
  have r2 : w2.ownsRow w.heap.size 105 2 v k (flatT (tms (S.take k))) := own_touch h.row t2 (fun b hb => h1.apart h.row (by decide) (by decide) b hb)
  have cc3 : CC w3 c q tgt last := cc2.keep t3 (fun e => own_ne r2 cc2 (by decide) c (by simpa using e) rfl)
  have q3 : Tq w3 q G2 p R := h2.keep t3 (fun i hi e => h2.apart r2 (by decide) (by decide) i (by simpa using e) hi)
  have T4 : Touch [] w3 (w3.alloc (.cells #[.int .i64 i', .int .i64 t'] 105)) := (Touch.refl _ _).alloc _
  have W3 : Touch (c :: G) w w3 := (h.tc.trans t2 (fun i hi => by
    rcases n1 i hi with e | e
    · exact Or.inl (List.mem_cons_of_mem _ e)
    · exact Or.inr e)).trans t3 (fun i hi => Or.inr (h.row.lt i (by simpa using hi)).1)
  refine ⟨⟨cc3.keep T4 (by simp), q3.keep0 T4⟩, fun w5 i5 t5 b5 t5' hn => ?_⟩
  have F5 : FB w5 w3.heap.size i' t' := (FB.new w3 i' t').keep t5' (by simp)
  have T5 : Touch [] w3 w5 := T4.trans' t5'
  have T6 : Touch [w3.heap.size] w5 ((w5.setCell ⟨w3.heap.size, 0, none⟩ (.int .i64 i5)).setCell ⟨w3.heap.size, 1, none⟩ (.int .i64 t5)) := ((Touch.refl _ _).setCell (p := ⟨w3.heap.size, 0, none⟩) (Or.inl (by simp)) _).setCell (p := ⟨w3.heap.size, 1, none⟩) (Or.inl (by simp)) _
  have cl := block_lt cc3
  refine ⟨F5, ⟨hk, ?_, fun a ha => ?_, (W3.trans' (T5.mono (fun _ e => by cases e))).trans T6 (fun i hi => Or.inr (by simp at hi; have := W3.size; omega)), (cc3.keep T5 (by simp)).keep T6 (by simp; omega), ⟨G2, ?_, n1.trans n2 h.tc.size⟩, F5.set _ _, W3.size, fun b hb e => by have := hlt b hb; omega, by rw [e2]; exact hn⟩⟩
  · rw [e1]
    exact own_touch (own_touch hr T5 (fun _ _ e => by cases e)) T6 (fun b hb e => by have := hlt b hb; simp at e; omega)
  · by_cases ea : a = k
    · rw [ea, e3]; exact hx
    · exact h.all a (by omega)
  · rw [e2]
    exact (q3.keep0 T5).keep T6 (fun i hi e => by have := q3.lt i hi; simp at e; omega)
theorem tmsDue {S : List Slot} {tgt : Int} {k : Nat} (hk : k ≤ S.length) (ha : ∀ j, j < k → (gt S j).at_ ≤ tgt) (he : S.drop k = [] ∨ ∃ x R, S.drop k = x :: R ∧ tgt < x.at_) : dueT (tms S) tgt = k := by
  refine dueT_of (by rw [tms_len]; exact hk) (fun j hj => by rw [gtT_tms (by omega)]; exact ha j hj) ?_
  rcases he with e | ⟨x, R, e, hx⟩
  · left
    have := List.drop_eq_nil_iff.1 e
    rw [tms_len]
    omega
  · right
    obtain ⟨h1, _, _, h4⟩ := tms_snoc e
    rw [gtT_tms h1, h4]
    exact hx
def GoE (e : Ending) (w w' : World) (c : Nat) (F : List Nat) (s : Cs) (tgt : Int) : Prop := ∃ a n x, e = .returned (.slice a n x) ∧ RR 105 w' w.heap.size (.slice a n x) (goR s tgt) ∧ Nx w w' c F (goS s tgt)
theorem GoS.done {w wr : World} {c q : Nat} {G : List Nat} {p tgt : Int} {S : List Slot} {a : Option Addr} {n x : Nat} {k fb : Nat} {i t : Int} {b : Bool} {s : Cs} (h0 : CkS w c q G p S s) (hto : s.now ≤ tgt) (h1 : tgt ≤ 4611686018427387904) (h : GoS w wr c q G p s.last tgt S (.slice a n x) k fb i t b) (hb : b = false ∨ tgt < t) :
    GoE (.returned (.slice a n x)) w wr c (c :: G) s tgt := by
  have hd : dueT s.T tgt = k := by
    rw [h0.eq]
    refine tmsDue h.hk h.all ?_
    rcases h.nx with ⟨r1, y, R, r2, r3, r4⟩ | ⟨r1, r2⟩
    · right
      refine ⟨y, R, r2, ?_⟩
      rcases hb with e | e
      · rw [r1] at e; cases e
      · omega
    · exact Or.inl r2
  obtain ⟨G', q1, n1⟩ := h.tq
  refine ⟨a, n, x, rfl, ?_, c :: G', ⟨q, G', p, S.drop k, rfl, h.cc, q1, q1.notin h.cc (by decide) (by decide), h0.pl, ?_, h0.ok.go hto h1⟩, h.tc, fun j hj => ?_⟩
  · unfold RR goR
    rw [hd, h0.eq]
    have e1 : (tms S).take k = tms (S.take k) := by unfold tms; rw [List.map_take]
    rw [e1, tms_len, List.length_take, Nat.min_eq_left h.hk]
    exact h.row
  · show s.T.drop (dueT s.T tgt) = _
    rw [hd, h0.eq]
    unfold tms
    rw [List.map_drop]
  · rcases List.mem_cons.1 hj with rfl | hj
    · exact Or.inl List.mem_cons_self
    · rcases n1 j hj with e | e
      · exact Or.inl (List.mem_cons_of_mem _ e)
      · exact Or.inr e
set_option maxHeartbeats 2000000 in
set_option maxRecDepth 100000 in
theorem goTo27 (w : World) (c : Nat) (F : List Nat) (s : Cs) (tgt : Int) (h : Ck w c F s) (hto : s.now ≤ tgt) (h1 : tgt ≤ 4611686018427387904) :
    Calls Tryd.prog 39 #[PC c, .int .i64 tgt] w fun e w' => GoE e w w' c F s tgt := by
  obtain ⟨i45, hi, hz0, hz1, hz2⟩ := info_parts info45
  obtain ⟨q, G, p, S, rfl, k⟩ := h
  have c0 := k.cc.c0
  have cf := k.cc.fr 0
  have hle := k.tq.len
  have HK := hid (And.intro k (And.intro hto h1))
  have HN1 : Hid (Calls Tryd.prog 38 #[.pointer (some ⟨c, 0, none⟩)] (w.setCell ⟨c, 0, none⟩ (.int .i64 tgt)) fun e w' => NxE e (w.setCell ⟨c, 0, none⟩ (.int .i64 tgt)) w' S) := next17 (k.cc.set0 tgt) (k.tq.keep (F := G) (G := [c]) ((Touch.refl _ _).setCell (p := ⟨c, 0, none⟩) (Or.inl (by simp)) _) (fun i hi e => k.ap (by simp at e; rw [← e]; exact hi)))
  have HN2 : Hid (∀ w2 G2 R, CC w2 c q tgt s.last ∧ Tq w2 q G2 p R → Calls Tryd.prog 38 #[.pointer (some ⟨c, 0, none⟩)] w2 fun e w' => NxE e w2 w' R) := fun w2 G2 R h => next17 h.1 h.2
  have HT : Hid (∀ w2 G1 x R, Tq w2 q G1 p (x :: R) → x.at_ ≤ tgt → Calls Tryd.prog 55 #[.pointer (some ⟨q, 0, none⟩), .int .i64 tgt] w2 fun e w' => e = .returned (.tuple #[.int .i64 x.item, .bool true]) ∧ ∃ F', Tq w' q F' p R ∧ Touch G1 w2 w' ∧ Nf w2 G1 F') := fun w2 G1 x R h hx => take21_yes w2 q G1 p x R tgt h hx
  have HE : Hid (∀ wr a n x k fb i t b, GoS w wr c q G p s.last tgt S (.slice a n x) k fb i t b → (b = false ∨ tgt < t) → GoE (.returned (.slice a n x)) w wr c (c :: G) s tgt) := fun wr a n x k' fb i t b h hb => h.done k hto h1 hb
  have HLe := hid hle
  clear k hto h1 hle
  unfold PC
  go_enter Tryd.func39, Tryd.ntmps39
  go_wp2_with fail
  refine HN1.out.mono ?_
  rintro e w2 ⟨i, t, b, rfl, t2, hn⟩
  have H1 := hid (And.intro t2 hn)
  clear t2 hn HN1
  go_wp2
  go_loopw [5, 6, 7] (fun s5 s6 s7 wr => ∃ a k x fb ii tt bb, s5 = .slice a k x ∧ s6 = .pointer (some ⟨fb, 0, none⟩) ∧ s7 = .bool bb ∧ Hid (GoS w wr c q G p s.last tgt S (.slice a k x) k fb ii tt bb)) (fun v _ _ _ => S.length - lenOf v)
  case atStart => exact ⟨_, 0, _, _, i, t, b, rfl, rfl, rfl, GoS.start HK.out.1.cc HK.out.1.tq HK.out.1.ap H1.out.1 H1.out.2⟩
  case round =>
    clear H1
    obtain ⟨a, k, x, fb, ii, tt, bb, rfl, rfl, rfl, HD⟩ := hrel
    have f0 := HD.out.fc.c0
    have f1 := HD.out.fc.c1
    by_cases hgo : bb = true ∧ tt ≤ tgt
    · obtain ⟨rfl, hle2⟩ := hgo
      obtain ⟨y, R, hd, rfl, rfl⟩ : ∃ y R, S.drop k = y :: R ∧ ii = y.item ∧ tt = y.at_ := by
        rcases HD.out.nx with ⟨_, r⟩ | ⟨e, _⟩
        · exact r
        · cases e
      obtain ⟨G1, q1, n1⟩ := HD.out.tq
      have cr2 := HD.out.cc.c2
      have hk := (tms_snoc hd).1
      have hb := HD.out.tc.size
      have HS := hid (And.intro hd (And.intro q1 n1))
      have fG : ¬ fb ∈ G1 := q1.notin HD.out.fc (by decide) (by decide)
      have HfG := hid fG
      rw [hd] at q1
      have Q1 := hid q1
      clear hd q1 n1 fG
      have HRow : Hid (∀ wt, Touch G1 wr wt → wt.ownsRow w.heap.size 105 2 (.slice a k x) k (flatT (tms (S.take k)))) := fun wt t2 => own_touch HD.out.row t2 (fun b hb => HS.out.2.1.apart HD.out.row (by decide) (by decide) b hb)
      go_wp2_with (first
        | (at_builtin; refine wpList_append_lies _ rfl _ _ 65 rfl w.heap.size 105 i45 (.agg #[.int .i64 0, .int .i64 0]) 2 16 Tryd.underlying65 hi hz0 hz1 hz2 rfl (by decide) (.slice a k x) k (flatT (tms (S.take k))) rfl ((HRow.out _ H2.out.2.1).alloc _) ⟨wt.heap.size, 0, none⟩ 1 1 [.int .i64 y.item, .int .i64 y.at_] rfl rfl (cell_two_newR _ _ _ _) (by simp [Value.oneCell']) (by decide) (by have := HLe.out; unfold maxLen; omega) (by have := HLe.out; omega) (by have := H2.out.2.1.size; simp; omega) _ rfl ?_; intro g1 c1 w3 hown3 hgrow hat hlt3; have F3 : FB w3 fb y.item y.at_ := F2.out.keep (((Touch.refl (Value.slice a k x).ownBlock.toList _).alloc _).grown hgrow (fun j hj => Or.inl (by simp [hj]))) (fun e => HD.out.fa fb (by simpa using e) rfl); have f30 := F3.c0; have f31 := F3.c1)
        | (go_at_call 55; refine (HT.out _ _ _ _ Q1.out hle2).mono ?_; rintro e wt ⟨rfl, G2, q2, t2, n2⟩; have H2 := hid (And.intro q2 (And.intro t2 n2)); have F2 := hid (HD.out.fc.keep t2 HfG.out); have f20 := F2.out.c0; have f21 := F2.out.c1; clear q2 t2 n2))
      have T3 : Touch (Value.slice a k x).ownBlock.toList wt w3 := ((Touch.refl _ _).alloc _).grown hgrow (fun j hj => Or.inl (by simp [hj]))
      obtain ⟨M1, M2⟩ := HD.out.mid HS.out.1 hle2 HS.out.2.1 HS.out.2.2 H2.out.1 H2.out.2.1 H2.out.2.2 hown3 T3 (fun b hb => by simp [Value.ownBlock] at hb; omega) y.item y.at_
      have HM := hid M2
      refine (HN2.out _ _ _ M1).mono ?_
      rintro e w5 ⟨i5, t5, b5, rfl, h5, p5⟩
      obtain ⟨F5, G5⟩ := HM.out w5 i5 t5 b5 h5 p5
      have H5 := hid G5
      have g0 := F5.c0
      have g1' := F5.c1
      have gf0 := F5.fr 0
      have gf1 := F5.fr 1
      clear h5 p5 G5 F5 M1 M2 HM T3 hgrow hat hown3 F3 hlt3 H2 F2 f20 f21 f30 f31 f0 f1
      go_wp2
      go_roundw
      case rel => exact ⟨_, k + 1, _, _, i5, t5, b5, rfl, rfl, rfl, H5⟩
      case measure => simp [lenOf]; omega
    · have HX := hid (HE.out wr a k x k fb ii tt bb HD.out (by
        cases bb with
        | false => exact Or.inl rfl
        | true => exact Or.inr (by have : ¬ tt ≤ tgt := fun e => hgo ⟨rfl, e⟩; omega)))
      cases bb with
      | false =>
        clear hgo HD
        go_wp2
        go_ret
        exact HX.out
      | true =>
        have hgo' : tgt < tt := by have : ¬ tt ≤ tgt := fun e => hgo ⟨rfl, e⟩; omega
        clear hgo HD
        go_wp2
        go_ret
        exact HX.out
end Go.Proofs.YtcbckehdlbbbbaaDoor.Cl
/- The contracts of Advance and Leap of a clock. -/
namespace Go.Proofs.YtcbckehdlbbbbaaDoor.Cl
open Go.RowKit Go.Maps Go.ChangeMaps
set_option linter.unusedVariables false
/-- A row of rings and a word beside it, and how the clock stands. -/
def AdE (e : Ending) (w w' : World) (c : Nat) (F : List Nat) (s : Cs) (R : List Tm) (x : Value) : Prop := ∃ a n m, e = .returned (.tuple #[.slice a n m, x]) ∧ RR 105 w' w.heap.size (.slice a n m) R ∧ Nx w w' c F s
section
variable (w : World) (c : Nat) (F : List Nat) (s : Cs) (d : Int)
theorem leap18 (h : Ck w c F s) : Calls Tryd.prog 22 #[PC c] w fun e w' => AdE e w w' c F (leapS s) (leapR s) (.bool (decide (s.T ≠ []))) := by
  have ok := h.ok
  cases hT : s.T with
  | nil =>
    have e2 : leapS s = s := by unfold leapS; rw [hT]
    have e3 : leapR s = [] := by unfold leapR; rw [hT]
    rw [e2, e3, decide_eq_false (fun e => e rfl)]
    have HX := hid (next17_nil w c F s h hT)
    have HN : Hid (∀ w', Touch [] w w' → AdE (.returned (.tuple #[.slice none 0 0, .bool false])) w w' c F s [] (.bool false)) := fun w' t => ⟨none, 0, 0, rfl, RR.nil _ _ _, Nx.same h t⟩
    clear h e2 e3 ok hT
    unfold PC at *
    go_enter Tryd.func22, Tryd.ntmps22
    go_wp2_with (go_at_call 38; refine HX.out.mono ?_; rintro e w2 ⟨rfl, t2⟩)
    exact bodyPost_ret (v := .tuple #[.slice none 0 0, .bool false]) (by simp [results, Tryd.results22, go_sem]) rfl (HN.out _ (t2.alloc _))
  | cons x l =>
    have e2 : leapS s = goS s x.at_ := by unfold leapS; rw [hT]
    have e3 : leapR s = goR s x.at_ := by unfold leapR; rw [hT]
    rw [e2, e3, decide_eq_true (show x :: l ≠ [] by simp)]
    have hx : x ∈ s.T := by rw [hT]; exact List.mem_cons_self
    have HX := hid (next17_cons w c F s h hT)
    have HG : Hid (∀ w1, Touch [] w w1 → Calls Tryd.prog 39 #[.pointer (some ⟨c, 0, none⟩), .int .i64 x.at_] w1 fun e w' => GoE e w w' c F s x.at_) := fun w1 t1 => by
      refine (goTo27 w1 c F s x.at_ (h.keep0 t1) (ok.at0 x hx) (ok.at1 x hx)).mono ?_
      rintro e w' ⟨a, n, m, r1, r2, r3⟩
      exact ⟨a, n, m, r1, r2.base t1.size, r3.pre t1⟩
    clear h e2 e3 ok hT hx
    unfold PC at *
    generalize x.at_ = u at *
    generalize x.it = v at *
    go_enter Tryd.func22, Tryd.ntmps22
    go_wp2_with (first | (go_at_call 38; refine HX.out.mono ?_; rintro e w2 ⟨rfl, t2⟩) | (go_at_call 39; refine (HG.out _ (t2.alloc _)).mono ?_; rintro e w3 ⟨a, n3, m, rfl, r1, r2⟩; have R := hid (And.intro r1 r2); clear r1 r2))
    exact bodyPost_ret (v := .tuple #[.slice a n3 m, .bool true]) (by simp [results, Tryd.results22, go_sem]) rfl ⟨a, n3, m, rfl, R.out.1, R.out.2⟩
end
end Go.Proofs.YtcbckehdlbbbbaaDoor.Cl
