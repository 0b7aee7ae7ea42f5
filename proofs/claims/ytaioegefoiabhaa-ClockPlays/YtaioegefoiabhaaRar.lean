/- The contract of the document's Arm. -/
import Derived.Test.YtaioegefoiabhaaRad
import Derived.Deep.RegionHeldLaw
namespace Go.Proofs.Ytaioegefoiabhaa
open Go.RowKit Go.Maps Go.ChangeMaps
set_option linter.unusedVariables false
theorem step_append_own {P : Program} (w : World) {ops : Array Oper} {o : Oper} {a : Act} {K : Act → World → Prop} {Q : Exit → Act → World → Prop} {E : Prop} (hgd : o.guard = none) (s x : Operand) (t : TypeId)
    (ho : o.op = .call { callee := .builtin .append, args := #[s, x], argTypes := #[t, t] })
    (base : Nat) (e : TypeId) (i : TypeInfo) (z : Value) (size bytes : Nat) (ht : P.underlying t = some (.slice e)) (hi : P.info? e = some i) (hz : i.zero = some z)
    (hsize : i.size = size) (hby : i.bytes = bytes) (hzs : z.cells.size = size) (hsz : 0 < size)
    (v : Value) (n : Nat) (xs : List Value) (hs : a.eval s = v) (hown : w.ownsRow base e size v n xs)
    (ad : Addr) (m c : Nat) (news : List Value) (hx : a.eval x = .slice (some ad) m c) (hl : news.length = m * size) (hnews : ∀ j u, news[j]? = some u → w.cell? (ad.add j) = some u) (h1 : ∀ u ∈ news, u.oneCell' = true)
    (h63 : n + m ≤ maxLen) (hbytes : (n + m) * bytes ≤ 140737488355328) (hbase : base ≤ w.heap.size)
    (h : ∀ v' w', w'.ownsRow base e size v' (n + m) (xs ++ news) → w.grownBy w' v.ownBlock → (v' = .slice none 0 0 ↔ v = .slice none 0 0 ∧ m = 0) → K (a.put o.dst v') w') :
    if Region.wanted o (yielded ops a.tmps) = true then Oper.wp P o a w K Q else E := by
  have hw : Region.wanted o (yielded ops a.tmps) = true := by simp [Region.wanted, hgd]
  rw [if_pos hw]
  exact wp_append_own w s x t ho base e i z size bytes ht hi hz hsize hby hzs hsz v n xs hs hown ad m c news hx hl hnews h1 h63 hbytes hbase h
theorem step_append_dst {P : Program} (w : World) {ops : Array Oper} {o : Oper} {a : Act} {K : Act → World → Prop} {Q : Exit → Act → World → Prop} {E : Prop} (d : Option Tmp) (hd : o.dst = d) (hgd : o.guard = none) (s x : Operand) (t : TypeId)
    (ho : o.op = .call { callee := .builtin .append, args := #[s, x], argTypes := #[t, t] })
    (base : Nat) (e : TypeId) (i : TypeInfo) (z : Value) (size bytes : Nat) (ht : P.underlying t = some (.slice e)) (hi : P.info? e = some i) (hz : i.zero = some z)
    (hsize : i.size = size) (hby : i.bytes = bytes) (hzs : z.cells.size = size) (hsz : 0 < size)
    (v : Value) (n : Nat) (xs : List Value) (hs : a.eval s = v) (hown : w.ownsRow base e size v n xs)
    (ad : Addr) (m c : Nat) (news : List Value) (hx : a.eval x = .slice (some ad) m c) (hl : news.length = m * size) (hnews : ∀ j u, news[j]? = some u → w.cell? (ad.add j) = some u) (h1 : ∀ u ∈ news, u.oneCell' = true)
    (h63 : n + m ≤ maxLen) (hbytes : (n + m) * bytes ≤ 140737488355328) (hbase : base ≤ w.heap.size)
    (h : ∀ v' w', w'.ownsRow base e size v' (n + m) (xs ++ news) → w.grownBy w' v.ownBlock → (v' = .slice none 0 0 ↔ v = .slice none 0 0 ∧ m = 0) → K (a.put d v') w') :
    if Region.wanted o (yielded ops a.tmps) = true then Oper.wp P o a w K Q else E := by
  subst hd
  exact step_append_own w hgd s x t ho base e i z size bytes ht hi hz hsize hby hzs hsz v n xs hs hown ad m c news hx hl hnews h1 h63 hbytes hbase h
theorem step_append_none {P : Program} (w : World) {ops : Array Oper} {o : Oper} {a : Act} {K : Act → World → Prop} {Q : Exit → Act → World → Prop} {E : Prop} (d : Option Tmp) (hd : o.dst = d) (hgd : o.guard = none) (s x : Operand) (t : TypeId)
    (ho : o.op = .call { callee := .builtin .append, args := #[s, x], argTypes := #[t, t] })
    (base : Nat) (e : TypeId) (i : TypeInfo) (size : Nat) (ht : P.underlying t = some (.slice e)) (hi : P.info? e = some i)
    (v : Value) (n : Nat) (xs : List Value) (hs : a.eval s = v) (hx : a.eval x = .slice none 0 0) (hown : w.ownsRow base e size v n xs)
    (h : K (a.put d v) w) : if Region.wanted o (yielded ops a.tmps) = true then Oper.wp P o a w K Q else E := by
  subst hd
  have hw : Region.wanted o (yielded ops a.tmps) = true := by simp [Region.wanted, hgd]
  rw [if_pos hw]
  have hrun := run_append_owned_none (P := P) (w := w) base t o.type e i size ht hi v n xs hown
  unfold Oper.wp
  simp [execOp, ho, resolve, invoke, builtin, hs, hx, hrun, Result.andThen]
  exact h
/-- What the document's Arm and In answer. -/
def RmE (e : Ending) (w w' : World) (B : Nat) (s : Cs) (n m : Int) : Prop := ∃ a k c, e = .returned (.tuple #[.agg #[.int .i64 s.now, .slice a k c, .int .i64 s.last], .int .i64 n, .int .i64 m]) ∧ RR 93 w' B (.slice a k c) s.T ∧ Touch [] w w'
section
variable (w : World) (B : Nat) (v : Value) (s : Cs) (t : Int)
set_option maxHeartbeats 1000000 in
set_option maxRecDepth 100000 in
theorem rarm_err (h : RR 93 w B v s.T) (ok : Ok s) (he : armE s t ≠ 0) :
    Calls Try.prog 28 #[.agg #[.int .i64 s.now, v, .int .i64 s.last], .int .i64 t] w fun e w' => RmE e w w' B s 0 (armE s t) := by
  obtain ⟨a, c, rfl⟩ := h.slice
  have HX : Hid (∀ w', Touch [] w w' → ∀ x, armE s t = x → RmE (.returned (.tuple #[.agg #[.int .i64 s.now, .slice a s.T.length c, .int .i64 s.last], .int .i64 0, .int .i64 x])) w w' B s 0 (armE s t)) := fun w' t x hx => ⟨_, _, _, by rw [hx], h.keep0 t, t⟩
  by_cases h1 : isT t = false
  · have HE : Hid (armE s t = 10) := by show _ = _; unfold armE; rw [if_pos h1]
    have h2 : ¬ (0 ≤ t ∧ t ≤ 4611686018427387904) := of_decide_eq_false h1
    clear h ok he h1
    generalize s.T.length = N at *
    generalize s.now = now at *
    generalize s.last = last at *
    by_cases h3 : t < 0
    · clear h2
      go_enter Try.func28, Try.ntmps28
      go_wp2
      exact bodyPost_ret (v := .tuple #[.agg #[.int .i64 now, .slice a N c, .int .i64 last], .int .i64 0, .int .i64 10]) (by simp [results, Try.results28, go_sem]) rfl (HX.out _ (((Touch.refl _ _).alloc _).alloc _) 10 HE.out)
    · have h4 : 4611686018427387904 < t := by omega
      clear h2
      go_enter Try.func28, Try.ntmps28
      go_wp2
      exact bodyPost_ret (v := .tuple #[.agg #[.int .i64 now, .slice a N c, .int .i64 last], .int .i64 0, .int .i64 10]) (by simp [results, Try.results28, go_sem]) rfl (HX.out _ (((Touch.refl _ _).alloc _).alloc _) 10 HE.out)
  · have h1' : isT t = true := by simpa using h1
    obtain ⟨h2, h3⟩ : 0 ≤ t ∧ t ≤ 4611686018427387904 := of_decide_eq_true h1'
    by_cases h4 : t < s.now
    · have HE : Hid (armE s t = 50) := by show _ = _; unfold armE; rw [if_neg h1, if_pos h4]
      clear h ok he h1 h1'
      generalize s.T.length = N at *
      generalize s.now = now at *
      generalize s.last = last at *
      go_enter Try.func28, Try.ntmps28
      go_wp2
      exact bodyPost_ret (v := .tuple #[.agg #[.int .i64 now, .slice a N c, .int .i64 last], .int .i64 0, .int .i64 50]) (by simp [results, Try.results28, go_sem]) rfl (HX.out _ (((Touch.refl _ _).alloc _).alloc _) 50 HE.out)
    · have h5 : 65536 ≤ s.T.length := by
        rcases Nat.lt_or_ge s.T.length 65536 with h | h
        · exact absurd (by unfold armE; rw [if_neg h1, if_neg h4, if_neg (by omega)]) he
        · exact h
      have HE : Hid (armE s t = 3) := by show _ = _; unfold armE; rw [if_neg h1, if_neg h4, if_pos h5]
      have e6 : s.T.length = 65536 := by have := ok.len; omega
      rw [e6] at HX ⊢
      clear h ok he h1 h1' h5 e6
      generalize s.now = now at *
      generalize s.last = last at *
      go_enter Try.func28, Try.ntmps28
      go_wp2
      exact bodyPost_ret (v := .tuple #[.agg #[.int .i64 now, .slice a 65536 c, .int .i64 last], .int .i64 0, .int .i64 3]) (by simp [results, Try.results28, go_sem]) rfl (HX.out _ (((Touch.refl _ _).alloc _).alloc _) 3 HE.out)
theorem own_empty {w : World} {b B : Nat} (h : w.heap[b]? = some (.cells #[] 93 (0, 0))) (hb : B ≤ b) : w.ownsRow B 93 2 (.slice (some ⟨b, 0, none⟩) 0 0) 0 [] :=
  ⟨rfl, Or.inr ⟨b, 0, #[], rfl, hb, h, Nat.le_refl _, by unfold maxLen; omega, rfl, rfl⟩⟩
theorem two_a (V : World) (a b : Obj) : ((V.alloc a).alloc b).heap[V.heap.size]? = some a ∧ ((V.alloc a).alloc b).heap[V.heap.size + 1]? = some b := by
  refine ⟨((Touch.refl [] _).alloc b).keep (heap_alloc_new V a) (by simp), ?_⟩
  have := heap_alloc_new (V.alloc a) b
  simpa using this
theorem cell_of_block {w : World} {b : Nat} {x y : Value} (h : w.heap[b]? = some (.cells #[x, y] 93 (0, 0))) : ∀ j u, [x, y][j]? = some u → w.cell? ((⟨b, 0, none⟩ : Addr).add j) = some u := by
  intro j u hj
  match j, hj with
  | 0, hj => simp at hj; subst hj; simp [Addr.add, World.cell?, h]
  | 1, hj => simp at hj; subst hj; simp [Addr.add, World.cell?, h]
end
end Go.Proofs.Ytaioegefoiabhaa
