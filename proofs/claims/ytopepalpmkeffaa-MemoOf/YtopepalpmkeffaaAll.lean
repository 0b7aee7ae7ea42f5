/- The contract of All: all entries, the one that was used the longest time ago first; no conditions. -/
import Derived.Test.YtopepalpmkeffaaKep
namespace Go.Proofs.Ytopepalpmkeffaa
open Go.RowKit Go.Sort Go.Maps Go.ChangeMaps Go.WideMaps Go.Shelf
set_option linter.unusedVariables false
set_option linter.unusedSimpArgs false
attribute [local go_sem] Oper.semAt_some
def nl (x : En) : List Value := [.int .u16 x.1.1, .string x.1.2, .int .i64 x.2.1.1, .int .i64 x.2.1.2.1, .int .i64 x.2.1.2.2.1, .int .i64 x.2.1.2.2.2, .int .i64 x.2.2]
def cellsN (xs : List En) : List Value := xs.flatMap nl
theorem cellsN_app (xs ys : List En) : cellsN (xs ++ ys) = cellsN xs ++ cellsN ys := by unfold cellsN; simp
theorem cellsN_one (x : En) : cellsN [x] = nl x := by simp [cellsN]
theorem cellsN_at : ∀ (xs : List En) (i j : Nat) (h : i < xs.length), j < 7 → (cellsN xs)[i * 7 + j]? = (nl xs[i])[j]?
  | x :: xs, 0, j, h, hj => by
    unfold cellsN
    rw [List.flatMap_cons, Nat.zero_mul, Nat.zero_add, List.getElem?_append_left (by simp [nl]; omega)]
    rfl
  | x :: xs, i + 1, j, h, hj => by
    have ih := cellsN_at xs i j (by simpa using h) hj
    unfold cellsN at ih ⊢
    rw [List.flatMap_cons, List.getElem?_append_right (by simp [nl]; omega)]
    have e : (i + 1) * 7 + j - (nl x).length = i * 7 + j := by simp [nl]; omega
    rw [e, ih]
    simp
/-- Within a range over the keys: what has been laid so far. -/
def AlI (w : World) (p1 p3 m : Nat) (xs : List En) (X : List Nat) (pre : List K) (W : World) : Prop :=
  (∃ v, W.heap[p3]? = some (.cells #[v] 50 (0, 0)) ∧ W.ownsRow w.heap.size 56 7 v pre.length (cellsN (xs.take pre.length)) ∧ ∀ b, v.ownBlock = some b → ¬ b ∈ X) ∧ W.heap[p1]? = some (.cells #[PT m] 26 (0, 0)) ∧ (¬ p1 ∈ X ∧ ¬ p3 ∈ X ∧ w.heap.size ≤ p3) ∧ (∀ k ∈ X, w.heap.size ≤ k) ∧ Touch [] w W
theorem AlI.step {w : World} {p1 p3 m : Nat} {xs : List En} {X : List Nat} {pre : List K} {W W' : World} (h : AlI w p1 p3 m xs X pre W) (ht : Touch X W W') : AlI w p1 p3 m xs X pre W' := by
  obtain ⟨⟨v, h1, h2, h3⟩, h4, h5, h6, h7⟩ := h
  exact ⟨⟨v, ht.keep h1 h5.2.1, own_touch h2 ht h3, h3⟩, ht.keep h4 h5.1, h5, h6, h7.trans ht (fun i hi => Or.inr (h6 i hi))⟩
theorem AlI.push {w : World} {p1 p3 m : Nat} {xs : List En} {X : List Nat} {pre : List K} {W W8 w7 : World} {v v' : Value} {x : En} (h : AlI w p1 p3 m xs X pre W) (hX : ∀ k ∈ X, k < W.heap.size) (t8 : Touch [] W W8) (hv : W.heap[p3]? = some (.cells #[v] 50 (0, 0)))
    (ho : w7.ownsRow w.heap.size 56 7 v' (pre.length + 1) (cellsN (xs.take pre.length) ++ nl x)) (hg : W8.grownBy w7 v.ownBlock) (hat : v'.ownBlock = v.ownBlock ∨ v'.ownBlock = some W8.heap.size) (hx : xs[pre.length]? = some x) (k : K) :
    w7.heap[p3]? = some (.cells #[v] 50 (0, 0)) ∧ (∀ q ∈ X, (w7.setCell ⟨p3, 0, none⟩ v').heap[q]? = W.heap[q]?) ∧ AlI w p1 p3 m xs X (pre ++ [k]) (w7.setCell ⟨p3, 0, none⟩ v') := by
  obtain ⟨⟨v0, h1, h2, h3⟩, h4, h5, h6, h7⟩ := h
  have ev : v0 = v := by
    rw [h1] at hv
    simpa using hv
  subst ev
  have nb : ∀ b, v0.ownBlock = some b → b ≠ p3 ∧ b ≠ p1 := fun b hb => by
    obtain ⟨cs, hcs⟩ : ∃ cs, W.heap[b]? = some (.cells cs 56 (0, 0)) := by
      obtain ⟨q1, q2 | ⟨g, cap, cur, rfl, hg, hc, hn, r⟩⟩ := h2
      · rw [q2.1] at hb; cases hb
      · simp only [Value.ownBlock, Option.some.injEq] at hb
        subst hb
        exact ⟨cur, hc⟩
    refine ⟨fun e => ?_, fun e => ?_⟩
    · rw [e, h1] at hcs; simp at hcs
    · rw [e, h4] at hcs; simp at hcs
  have t7 : Touch v0.ownBlock.toList W w7 := (t8.mono (fun _ e => by cases e)).grown hg (fun k hk => Or.inl (by simp [hk]))
  have k3 : w7.heap[p3]? = some (.cells #[v0] 50 (0, 0)) := t7.keep h1 (fun hh => (nb p3 (by simpa using hh)).1 rfl)
  have ts : Touch [p3] w7 (w7.setCell ⟨p3, 0, none⟩ v') := (Touch.refl _ _).setCell (Or.inl (by simp)) _
  have hp3W : p3 < W.heap.size := block_lt h1
  have nv : ∀ b, v'.ownBlock = some b → b ≠ p3 ∧ ¬ b ∈ X := fun b hb => by
    rcases hat with e | e
    · rw [e] at hb
      exact ⟨(nb b hb).1, h3 b hb⟩
    · rw [e] at hb
      simp only [Option.some.injEq] at hb
      have := t8.size
      exact ⟨by omega, fun hh => by have := hX b hh; omega⟩
  refine ⟨k3, fun q hq => ?_, ⟨v', ?_, ?_, fun b hb => (nv b hb).2⟩, ?_, h5, h6, ?_⟩
  · have : q ≠ p3 := fun e => h5.2.1 (e ▸ hq)
    rw [Below.heap_setCell _ _ _ _ this]
    exact t7.block q (hX q hq) (fun hh => h3 q (by simpa using hh) hq)
  · have := bset (i := 0) k3 v'
    simpa using this
  · have e1 : xs.take (pre ++ [k]).length = xs.take pre.length ++ [x] := by
      rw [List.length_append, List.length_singleton, List.take_add_one, hx]
      rfl
    rw [e1, cellsN_app, cellsN_one, List.length_append]
    exact own_touch ho ts (fun b hb hh => (nv b hb).1 (by simpa using hh))
  · exact (Below.heap_setCell _ _ _ _ (fun e => by
      rw [e] at h4
      rw [h1] at h4
      simp at h4)).trans (t7.keep h4 (fun hh => (nb p1 (by simpa using hh)).2 rfl))
  · exact (h7.trans t7 (fun i hi => Or.inr (h2.lt i (by simpa using hi)).1)).trans ts (fun i hi => by simp only [List.mem_singleton] at hi; subst hi; exact Or.inr h5.2.2)
theorem wpListIn_append_lies {F : Fence} {n : Nat} {P : Program} (w : World) {ops : Array Oper} {rest : List Oper} {o : Oper} {a : Act} {Q : Exit → Act → World → Prop} (hgd : o.guard = none) (s x : Operand) (t : TypeId)
    (ho : o.op = Op.call { callee := Callee.builtin Builtin.append, args := #[s, x], argTypes := #[t, t] })
    (base : Nat) (e : TypeId) (i : TypeInfo) (z : Value) (size bytes : Nat) (ht : P.underlying t = some (.slice e)) (hi : P.info? e = some i) (hz : i.zero = some z)
    (hsize : i.size = size) (hby : i.bytes = bytes) (hzs : z.cells.size = size) (hsz : 0 < size)
    (v : Value) (k : Nat) (xs : List Value) (hs : a.eval s = v) (hown : w.ownsRow base e size v k xs)
    (ad : Addr) (m c : Nat) (news : List Value) (hx : a.eval x = .slice (some ad) m c) (hl : news.length = m * size) (hnews : ∀ j u, news[j]? = some u → w.cell? (ad.add j) = some u) (h1 : ∀ u ∈ news, u.oneCell' = true)
    (hm : 0 < m) (h63 : k + m ≤ maxLen) (hbytes : (k + m) * bytes ≤ 140737488355328) (hbase : base ≤ w.heap.size)
    (h : ∀ g cap w', w'.ownsRow base e size (.slice (some ⟨g, 0, none⟩) (k + m) cap) (k + m) (xs ++ news) → w.grownBy w' v.ownBlock → (v.ownBlock = some g ∨ g = w.heap.size) → g < w'.heap.size → wpListIn F n P ops Q rest (a.put o.dst (.slice (some ⟨g, 0, none⟩) (k + m) cap)) w') : wpListIn F n P ops Q (o :: rest) a w := by
  refine wpListIn_plain hgd fun K hK' => ?_
  obtain ⟨g, cap, w', hrun, r1, r2, r3, r4⟩ := run_append_lies (P := P) w t o.type base e i z size bytes ht hi hz hsize hby hzs hsz v k xs hown ad m c news hl hnews h1 hm h63 hbytes hbase _ rfl
  unfold Oper.wpIn
  refine ⟨?_, ?_⟩
  · simp [Oper.about, ho, resolve, Target.leads, Sem.run_pure]
  · rw [Oper.semAt_plain F _ _ (by rw [ho]; intro c hc'; cases hc')]
    simp [execOp, ho, resolve, invoke, builtin, hs, hx, hrun, Result.andThen]
    exact hK' _ _ (h g cap w' r1 r2 r3 r4)
end Go.Proofs.Ytopepalpmkeffaa
