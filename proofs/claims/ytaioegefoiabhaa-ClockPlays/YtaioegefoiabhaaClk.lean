/- A clock in memory; the contracts of New, Now, Arm, In, Stop, Left, Next. -/
import Derived.Test.YtaioegefoiabhaaRng
namespace Go.Proofs.Ytaioegefoiabhaa
open Go.RowKit Go.Maps Go.ChangeMaps
set_option linter.unusedVariables false
def tmOf (x : Slot) : Tm := ⟨x.at_, x.item⟩
def tms (S : List Slot) : List Tm := S.map tmOf
theorem tms_len (S : List Slot) : (tms S).length = S.length := by simp [tms]
theorem gtT_tms {S : List Slot} {n : Nat} (h : n < S.length) : gtT (tms S) n = tmOf (gt S n) := by
  rw [gtT_eq (by rw [tms_len]; exact h), gt_eq h]
  simp [tms]
theorem tms_ins (S : List Slot) (i : Nat) (t p k : Int) : tms (ins S i ⟨t, p, k⟩) = insT (tms S) i ⟨t, k⟩ := by
  unfold tms ins insT
  simp [tmOf, List.map_take, List.map_drop]
theorem pos_tms {S : List Slot} {t : Int} {i : Nat} (h : PosT (tms S) t i) : Pos S t i := by
  obtain ⟨h1, h2, h3⟩ := h
  rw [tms_len] at h1 h2
  refine ⟨h1, fun j hj hij => ?_, fun h0 => ?_⟩
  · have := h2 j hj hij
    rw [gtT_tms hj] at this
    exact this
  · have := h3 h0
    rw [gtT_tms (by omega)] at this
    exact this
theorem mem_tms {S : List Slot} {x : Slot} (h : x ∈ S) : tmOf x ∈ tms S := List.mem_map_of_mem h
theorem tms_find (S : List Slot) (k : Int) : fndT (tms S) k = match idx S k with
    | some a => some (tmOf (gt S a))
    | none => none := by
  unfold fndT tms
  cases e : idx S k with
  | none =>
    rw [List.find?_eq_none]
    intro x hx
    obtain ⟨y, hy, rfl⟩ := List.mem_map.1 hx
    have := idx_none.1 e y hy
    simpa [tmOf] using this
  | some a =>
    obtain ⟨h1, h2⟩ := idx_some e
    unfold idx at e
    rw [List.findIdx?_eq_some_iff_getElem] at e
    obtain ⟨h3, h4, h5⟩ := e
    rw [List.find?_eq_some_iff_getElem]
    refine ⟨by simpa [tmOf] using h2, a, by simpa using h1, by simp [gt_eq h1], fun j hj => ?_⟩
    have := h5 j hj
    simpa [tmOf] using this
theorem tms_out {S : List Slot} (hd : Nd S) {k : Int} {a : Nat} (h : idx S k = some a) : outT (tms S) k = tms (S.eraseIdx a) := by
  obtain ⟨h1, h2⟩ := idx_some h
  have e1 : tms S = tms (S.take a) ++ tmOf S[a] :: tms (S.drop (a + 1)) := by
    unfold tms
    rw [← List.map_cons, ← List.map_append, ← List.drop_eq_getElem_cons h1, List.take_append_drop]
  have ne : ∀ j, j < S.length → j ≠ a → (gt S j).item ≠ k := fun j hj hn e => hn (nd_at hd hj h1 (by rw [e, h2]))
  have f1 : outT (tms (S.take a)) k = tms (S.take a) := by
    unfold outT
    rw [List.filter_eq_self]
    intro x hx
    obtain ⟨y, hy, rfl⟩ := List.mem_map.1 hx
    obtain ⟨j, hj, rfl⟩ := List.getElem_of_mem hy
    have hj' : j < a ∧ j < S.length := by rw [List.length_take] at hj; omega
    have := ne j hj'.2 (by omega)
    rw [gt_eq hj'.2] at this
    simpa [tmOf] using this
  have f2 : outT (tms (S.drop (a + 1))) k = tms (S.drop (a + 1)) := by
    unfold outT
    rw [List.filter_eq_self]
    intro x hx
    obtain ⟨y, hy, rfl⟩ := List.mem_map.1 hx
    obtain ⟨j, hj, rfl⟩ := List.getElem_of_mem hy
    have hj' : j < S.length - (a + 1) := by simpa using hj
    have := ne (a + 1 + j) (by omega) (by omega)
    rw [gt_eq (by omega)] at this
    simpa [tmOf] using this
  have f3 : (tmOf S[a]).it = k := by rw [gt_eq h1] at h2; exact h2
  have f4 : outT (tms S) k = outT (tms (S.take a)) k ++ outT (tms (S.drop (a + 1))) k := by
    rw [e1]
    unfold outT
    rw [List.filter_append, List.filter_cons, if_neg (by simp [f3])]
  rw [f4, f1, f2, List.eraseIdx_eq_take_drop_succ]
  unfold tms
  rw [List.map_append]
theorem tms_out_none {S : List Slot} {k : Int} (h : idx S k = none) : outT (tms S) k = tms S := by
  unfold outT
  rw [List.filter_eq_self]
  intro x hx
  obtain ⟨y, hy, rfl⟩ := List.mem_map.1 hx
  have := idx_none.1 h y hy
  simpa [tmOf] using this
theorem tms_has (S : List Slot) (k : Int) : hasT (tms S) k = (idx S k).isSome := by
  cases e : idx S k with
  | none =>
    unfold hasT
    rw [List.any_eq_false.2]
    · rfl
    · intro x hx
      obtain ⟨y, hy, rfl⟩ := List.mem_map.1 hx
      have := idx_none.1 e y hy
      simpa [tmOf] using this
  | some a =>
    obtain ⟨h1, h2⟩ := idx_some e
    unfold hasT
    rw [List.any_eq_true.2]
    · rfl
    · exact ⟨tmOf (gt S a), mem_tms (gt_mem h1), by simpa [tmOf] using h2⟩

def PC (c : Nat) : Value := .pointer (some ⟨c, 0, none⟩)
def CC (w : World) (c q : Nat) (now last : Int) : Prop := w.heap[c]? = some (.cells #[.int .i64 now, .int .i64 last, .pointer (some ⟨q, 0, none⟩)] 58 (0, 0))
section
variable {w w' : World} {c q : Nat} {now last : Int}
theorem CC.c0 (h : CC w c q now last) : w.cell? ⟨c, 0, none⟩ = some (.int .i64 now) := by unfold CC at h; simp [World.cell?, h]
theorem CC.c1 (h : CC w c q now last) : w.cell? ⟨c, 1, none⟩ = some (.int .i64 last) := by unfold CC at h; simp [World.cell?, h]
theorem CC.c2 (h : CC w c q now last) : w.cell? ⟨c, 2, none⟩ = some (.pointer (some ⟨q, 0, none⟩)) := by unfold CC at h; simp [World.cell?, h]
theorem CC.fr (h : CC w c q now last) (i : Nat) : w.frozen? ⟨c, i, none⟩ = false := by unfold CC at h; simp [World.frozen?, h]
theorem CC.set0 (h : CC w c q now last) (x : Int) : CC (w.setCell ⟨c, 0, none⟩ (.int .i64 x)) c q x last := Joins.block_setCell h _
theorem CC.set1 (h : CC w c q now last) (x : Int) : CC (w.setCell ⟨c, 1, none⟩ (.int .i64 x)) c q now x := Joins.block_setCell h _
theorem CC.keep {F : List Nat} (h : CC w c q now last) (ht : Touch F w w') (hn : ¬ c ∈ F) : CC w' c q now last := ht.keep h hn
end
structure CkS (w : World) (c q : Nat) (G : List Nat) (p : Int) (S : List Slot) (s : Cs) : Prop where
  cc : CC w c q s.now s.last
  tq : Tq w q G p S
  ap : ¬ c ∈ G
  pl : p ≤ s.last
  eq : s.T = tms S
  ok : Ok s
/-- A clock at block c, its blocks F, that stands as s. -/
def Ck (w : World) (c : Nat) (F : List Nat) (s : Cs) : Prop := ∃ q G p S, F = c :: G ∧ CkS w c q G p S s
theorem Ck.ok {w : World} {c : Nat} {F : List Nat} {s : Cs} (h : Ck w c F s) : Ok s := by
  obtain ⟨q, G, p, S, rfl, k⟩ := h
  exact k.ok
theorem Ck.keep {H : List Nat} {w w' : World} {c : Nat} {F : List Nat} {s : Cs} (h : Ck w c F s) (ht : Touch H w w') (hn : ∀ k, k ∈ F → ¬ k ∈ H) : Ck w' c F s := by
  obtain ⟨q, G, p, S, rfl, k⟩ := h
  exact ⟨q, G, p, S, rfl, k.cc.keep ht (hn c List.mem_cons_self), k.tq.keep ht (fun i hi => hn i (List.mem_cons_of_mem _ hi)), k.ap, k.pl, k.eq, k.ok⟩
theorem Ck.keep0 {w w' : World} {c : Nat} {F : List Nat} {s : Cs} (h : Ck w c F s) (ht : Touch [] w w') : Ck w' c F s := h.keep ht (fun _ _ e => by cases e)
theorem Ck.lt {w : World} {c : Nat} {F : List Nat} {s : Cs} (h : Ck w c F s) : ∀ k, k ∈ F → k < w.heap.size := by
  obtain ⟨q, G, p, S, rfl, k⟩ := h
  intro i hi
  rcases List.mem_cons.1 hi with rfl | hi
  · exact block_lt k.cc
  · exact k.tq.lt i hi
theorem CkS.nd {w : World} {c q : Nat} {G : List Nat} {p : Int} {S : List Slot} {s : Cs} (k : CkS w c q G p S s) : idx S (s.last + 1) = none := by
  rw [idx_none]
  intro x hx
  have := k.ok.it1 (tmOf x) (by rw [k.eq]; exact mem_tms hx)
  simp only [tmOf] at this
  omega
theorem Tq.p0 {w : World} {q : Nat} {F : List Nat} {p : Int} {S : List Slot} (h : Tq w q F p S) : 0 ≤ p := by
  obtain ⟨sl, m, _, t⟩ := h
  exact t.p0
theorem CkS.w64 {w : World} {c q : Nat} {G : List Nat} {p : Int} {S : List Slot} {s : Cs} (k : CkS w c q G p S s) : S.length = s.T.length := by rw [k.eq, tms_len]
/-- What a call leaves behind. -/
def Nx (w w' : World) (c : Nat) (F : List Nat) (s : Cs) : Prop := ∃ F', Ck w' c F' s ∧ Touch F w w' ∧ Nf w F F'
theorem now14 (w : World) (c : Nat) (F : List Nat) (s : Cs) (h : Ck w c F s) : Calls Try.prog 14 #[PC c] w fun e w' => e = .returned (.int .i64 s.now) ∧ w' = w := by
  obtain ⟨q, G, p, S, rfl, k⟩ := h
  have c0 := k.cc.c0
  clear k
  generalize s.now = n at *
  unfold PC
  go_enter Try.func14, Try.ntmps14
  go_wp2
  go_ret
  exact ⟨rfl, rfl⟩
theorem after26 (t d : Int) (w : World) (h0 : 0 ≤ t) (h1 : t ≤ 4611686018427387904) (hd : 0 ≤ d) (hw : d ≤ 9223372036854775807) :
    Calls Try.prog 26 #[.int .i64 t, .int .i64 d] w fun e w' => e = .returned (.tuple #[.int .i64 (if 4611686018427387904 - t < d then 4611686018427387904 else t + d), .bool (decide (d ≤ 4611686018427387904 - t))]) ∧ w' = w := by
  have HI := hid (is37 t w)
  rw [isT_yes ⟨h0, h1⟩] at HI
  by_cases hb : 4611686018427387904 - t < d
  · have hn : ¬ d ≤ 4611686018427387904 - t := by omega
    rw [if_pos hb, decide_eq_false hn]
    go_enter Try.func26, Try.ntmps26
    go_wp2_with (go_at_call 24; refine HI.out.mono ?_; rintro e w2 ⟨rfl, rfl⟩)
    exact bodyPost_ret (v := .tuple #[.int .i64 4611686018427387904, .bool false]) (by simp [results, Try.results26, go_sem]) rfl ⟨rfl, rfl⟩
  · have hn : d ≤ 4611686018427387904 - t := by omega
    rw [if_neg hb, decide_eq_true hn]
    go_enter Try.func26, Try.ntmps26
    go_wp2_with (go_at_call 24; refine HI.out.mono ?_; rintro e w2 ⟨rfl, rfl⟩)
    exact bodyPost_ret (v := .tuple #[.int .i64 (t + d), .bool true]) (by simp [results, Try.results26, go_sem]) rfl ⟨rfl, rfl⟩
end Go.Proofs.Ytaioegefoiabhaa
