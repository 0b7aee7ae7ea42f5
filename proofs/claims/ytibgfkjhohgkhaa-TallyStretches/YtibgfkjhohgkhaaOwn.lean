/- Rows that a call owns: reading and writing a cell; what a step may add to a footprint. -/
import Derived.Test.YtibgfkjhohgkhaaBas
import Derived.Lib.SmallJoins
import Derived.Deep.AppendLies
import Derived.Deep.QuietTactic
import Derived.Deep.RegionHeld3
import Derived.Deep.RegionWith
import Derived.Lib.QuietBelow
import Derived.OwnWalk
import Derived.Laws.AppendOwnNone
import Derived.Deep.CutRange
import Derived.Deep.CutBlock
import Derived.Deep.RegionLaw
import Derived.Laws.ResultCell
import Derived.Maps.AppendAt
namespace Go.Proofs.Ytibgfkjhohgkhaa
open Go.RowKit Go.Maps Go.ChangeMaps
set_option linter.unusedVariables false
theorem own_block {w : World} {base e g c n k : Nat} {xs : List Value} (h : w.ownsRow base e k (.slice (some ⟨g, 0, none⟩) n c) n xs) :
    ∃ cur, w.heap[g]? = some (.cells cur e (0, 0)) ∧ n ≤ c ∧ c ≤ maxLen ∧ cur.size = c * k ∧ cur.toList.take (n * k) = xs ∧ base ≤ g ∧ xs.length = n * k := by
  obtain ⟨h1, h2 | ⟨g', cap', cur, hv, hg, hc, hn, hm, hs, ht⟩⟩ := h
  · cases h2.1
  · simp only [Value.slice.injEq, Option.some.injEq, Addr.mk.injEq, and_true, true_and] at hv
    obtain ⟨rfl, rfl⟩ := hv
    exact ⟨cur, hc, hn, hm, hs, ht, hg, h1⟩
theorem own_cell {w : World} {base e g c n k : Nat} {xs : List Value} (h : w.ownsRow base e k (.slice (some ⟨g, 0, none⟩) n c) n xs) {p : Nat} {v : Value} (hp : xs[p]? = some v) :
    w.cell? ⟨g, p, none⟩ = some v := by
  obtain ⟨cur, hc, hn, hm, hs, ht, hg, hl⟩ := own_block h
  have hp' : p < xs.length := (List.getElem?_eq_some_iff.1 hp).1
  have : cur[p]? = some v := by
    rw [← Array.getElem?_toList, ← hp, ← ht, List.getElem?_take, if_pos (by omega)]
  simp [World.cell?, hc, this]
theorem own_frozen {w : World} {base e g c n k : Nat} {xs : List Value} (h : w.ownsRow base e k (.slice (some ⟨g, 0, none⟩) n c) n xs) (p : Nat) : w.frozen? ⟨g, p, none⟩ = false := by
  obtain ⟨cur, hc, _⟩ := own_block h
  exact Joins.unfrozen_of_block hc _
theorem own_set {w : World} {base e g c n k : Nat} {xs : List Value} (h : w.ownsRow base e k (.slice (some ⟨g, 0, none⟩) n c) n xs) (p : Nat) (v : Value) :
    (w.setCell ⟨g, p, none⟩ v).ownsRow base e k (.slice (some ⟨g, 0, none⟩) n c) n (xs.set p v) := by
  obtain ⟨cur, hc, hn, hm, hs, ht, hg, hl⟩ := own_block h
  refine ⟨by rw [List.length_set]; exact hl, Or.inr ⟨g, c, cur.setIfInBounds p v, rfl, hg, Joins.block_setCell hc _, hn, hm, by simp [hs], ?_⟩⟩
  rw [Array.toList_setIfInBounds, List.take_set, ht]
theorem own_keep {w w' : World} {base e n k : Nat} {v : Value} {xs : List Value} (h : w.ownsRow base e k v n xs) (hk : ∀ b, v.ownBlock = some b → w'.heap[b]? = w.heap[b]?) : w'.ownsRow base e k v n xs := by
  obtain ⟨h1, h2 | ⟨g, cap, cur, rfl, hg, hc, r⟩⟩ := h
  · exact ⟨h1, Or.inl h2⟩
  · exact ⟨h1, Or.inr ⟨g, cap, cur, rfl, hg, (hk g rfl).trans hc, r⟩⟩
theorem own_touch {F : List Nat} {w w' : World} {base e n k : Nat} {v : Value} {xs : List Value} (h : w.ownsRow base e k v n xs) (ht : Touch F w w') (hk : ∀ b, v.ownBlock = some b → ¬ b ∈ F) : w'.ownsRow base e k v n xs :=
  own_keep h (fun b hb => ht.block b (h.lt b hb).2 (hk b hb))
theorem own_form {w : World} {base e n k : Nat} {v : Value} {xs : List Value} (h : w.ownsRow base e k v n xs) : ∃ p c, v = .slice p n c := by
  rcases h.2 with ⟨rfl, rfl⟩ | ⟨g, cap, cur, rfl, _⟩
  · exact ⟨_, _, rfl⟩
  · exact ⟨_, _, rfl⟩

def PT (q : Nat) : Value := .pointer (some ⟨q, 0, none⟩)
def Nf (w : World) (F G : List Nat) : Prop := ∀ k, k ∈ G → k ∈ F ∨ w.heap.size ≤ k
theorem Nf.refl (w : World) (F : List Nat) : Nf w F F := fun _ h => Or.inl h
theorem Nf.trans {w w1 : World} {F G H : List Nat} (h : Nf w F G) (k : Nf w1 G H) (hz : w.heap.size ≤ w1.heap.size) : Nf w F H := fun i hi => by
  rcases k i hi with e | e
  · exact h i e
  · exact Or.inr (Nat.le_trans hz e)
theorem info3 : (Try.prog.info? 3).map (fun i => (i.zero, i.size, i.bytes)) = some (some (.int .i64 0), 1, 8) := by kernel_rfl
theorem cell_one_new (w : World) (x : Value) (t : TypeId) : ∀ j u, [x][j]? = some u → (w.alloc (.cells #[x] t)).cell? ((⟨w.heap.size, 0, none⟩ : Addr).add j) = some u := by
  intro j u hj
  match j, hj with
  | 0, hj => simp at hj; subst hj; simp [Addr.add]

theorem own_of_cells {w : World} {base e g c n k : Nat} {cur : Array Value} {xs : List Value} (hc : w.heap[g]? = some (.cells cur e (0, 0))) (hg : base ≤ g) (hn : n ≤ c) (hm : c ≤ maxLen) (hs : cur.size = c * k) (hl : xs.length = n * k)
    (h : ∀ p v, xs[p]? = some v → w.cell? ⟨g, p, none⟩ = some v) : w.ownsRow base e k (.slice (some ⟨g, 0, none⟩) n c) n xs := by
  refine ⟨hl, Or.inr ⟨g, c, cur, rfl, hg, hc, hn, hm, hs, ?_⟩⟩
  have hle : n * k ≤ c * k := Nat.mul_le_mul_right k hn
  refine List.ext_getElem (by rw [List.length_take, Array.length_toList]; omega) (fun p h1 h2 => ?_)
  have := h p xs[p] (List.getElem?_eq_getElem h2)
  have e2 : cur[p]? = some xs[p] := by simpa [World.cell?, hc] using this
  have h3 : p < cur.size := by omega
  rw [Array.getElem?_eq_getElem h3] at e2
  rw [List.getElem_take, Array.getElem_toList]
  exact Option.some.inj e2
def ints (xs : List Int) : List Value := xs.map (Value.int .i64)
theorem own_base {w : World} {B B' e k n : Nat} {v : Value} {xs : List Value} (h : w.ownsRow B e k v n xs) (hb : B' ≤ B) : w.ownsRow B' e k v n xs := by
  obtain ⟨h1, h2 | ⟨g', c', cur, e', hg, r⟩⟩ := h
  · exact ⟨h1, Or.inl h2⟩
  · exact ⟨h1, Or.inr ⟨g', c', cur, e', Nat.le_trans hb hg, r⟩⟩
theorem own_some {w : World} {base e n k : Nat} {v : Value} {xs : List Value} (h : w.ownsRow base e k v n xs) (hn : 0 < n) : ∃ b c, v = .slice (some ⟨b, 0, none⟩) n c ∧ base ≤ b ∧ b < w.heap.size := by
  rcases h.2 with ⟨_, e0⟩ | ⟨g, cap, cur, rfl, hg, hc, _⟩
  · omega
  · exact ⟨g, cap, rfl, hg, block_lt hc⟩
theorem bset {w : World} {g i : Nat} {cs : Array Value} {t : TypeId} {fr : Nat × Nat} (h : w.heap[g]? = some (.cells cs t fr)) (v : Value) : (w.setCell ⟨g, i, none⟩ v).heap[g]? = some (.cells (cs.setIfInBounds i v) t fr) := by
  simp [World.setCell, Array.getElem?_modify, h]
theorem nd_snoc {xs : List Int} {x : Int} (h : xs.Nodup) (hx : ¬ x ∈ xs) : (xs ++ [x]).Nodup := by
  rw [List.nodup_append]
  exact ⟨h, by simp, fun a ha b hb => by simp only [List.mem_singleton] at hb; subst hb; exact fun e => hx (e ▸ ha)⟩

theorem cell_at {w : World} {g j : Nat} {c : Array Value} {t : TypeId} {fr : Nat × Nat} {v : Value} (hb : w.heap[g]? = some (.cells c t fr)) (h : c[j]? = some v) : w.cell? ⟨g, j, none⟩ = some v := by simp [World.cell?, hb, h]
theorem froz_at {w : World} {g : Nat} {c : Array Value} {t : TypeId} (hb : w.heap[g]? = some (.cells c t (0, 0))) (j : Nat) : w.frozen? ⟨g, j, none⟩ = false := by simp [World.frozen?, hb]
/-- A slice that tells whole numbers. -/
def Rd (w : World) (v : Value) (xs : List Int) : Prop := ∃ a c, v = .slice a xs.length c ∧ xs.length ≤ c ∧ c ≤ maxLen ∧ (a = none → c = 0) ∧ (xs = [] ∨ ∃ (b : Nat) (cur : Array Value) (e : Nat) (z : Nat × Nat), a = some ⟨b, 0, none⟩ ∧ w.heap[b]? = some (.cells cur 3 z) ∧ ∀ i (h : i < xs.length), cur[i]? = some (.int .i64 xs[i]))
section
variable {w w' : World} {v : Value} {xs : List Int} {B : Nat}
theorem Rd.of_own (h : w.ownsRow B 3 1 v xs.length (ints xs)) : Rd w v xs := by
  rcases h.2 with ⟨e1, e2⟩ | ⟨g, cap, cur, rfl, hg, hc, hn, hm, hs, ht⟩
  · have : xs = [] := List.length_eq_zero_iff.1 e2
    subst this
    subst e1
    exact ⟨none, 0, rfl, Nat.le_refl _, Nat.zero_le _, fun _ => rfl, Or.inl rfl⟩
  · refine ⟨_, cap, rfl, hn, hm, fun e => (by cases e), Or.inr ⟨g, cur, 3, _, rfl, hc, fun i hi => ?_⟩⟩
    have := own_cell h (p := i) (v := .int .i64 xs[i]) (by simp [ints, hi])
    simpa [World.cell?, hc] using this
theorem Rd.keep {F : List Nat} (h : Rd w v xs) (T : Touch F w w') (hF : ∀ b, v.ownBlock = some b → ¬ b ∈ F) : Rd w' v xs := by
  obtain ⟨a, c, rfl, h1, h2, h0, h3⟩ := h
  refine ⟨a, c, rfl, h1, h2, h0, ?_⟩
  rcases h3 with e | ⟨b, cur, e, z, rfl, hb, hc⟩
  · exact Or.inl e
  · exact Or.inr ⟨b, cur, e, z, rfl, T.keep hb (hF b rfl), hc⟩
theorem Rd.keep0 (h : Rd w v xs) (T : Touch [] w w') : Rd w' v xs := h.keep T (fun _ _ e => by cases e)
theorem Rd.nil (w : World) : Rd w (.slice none 0 0) [] := ⟨none, 0, rfl, Nat.le_refl _, Nat.zero_le _, fun _ => rfl, Or.inl rfl⟩
theorem Rd.form (h : Rd w v xs) : ∃ a c, v = .slice a xs.length c ∧ xs.length ≤ c ∧ c ≤ maxLen := by
  obtain ⟨a, c, e, h1, h2, _⟩ := h
  exact ⟨a, c, e, h1, h2⟩
theorem Rd.one (h : Rd w v xs) : v.oneCell' = true := by
  obtain ⟨a, c, rfl, _⟩ := h
  rfl
theorem Rd.cell {a : Option Addr} {n c i : Nat} (h : Rd w (.slice a n c) xs) (hi : i < xs.length) : ∃ b, a = some ⟨b, 0, none⟩ ∧ w.cell? ⟨b, i, none⟩ = some (.int .i64 xs[i]) := by
  obtain ⟨a', c', e, _, _, _, h3⟩ := h
  simp only [Value.slice.injEq] at e
  obtain ⟨rfl, _, _⟩ := e
  rcases h3 with e | ⟨b, cur, e, z, rfl, hb, hc⟩
  · subst e; simp at hi
  · exact ⟨b, rfl, by simp [World.cell?, hb, hc i hi]⟩
theorem Rd.lt {b : Nat} {n c : Nat} (h : Rd w (.slice (some ⟨b, 0, none⟩) n c) xs) (hi : 0 < xs.length) : b < w.heap.size := by
  obtain ⟨a', c', e, _, _, _, h3⟩ := h
  simp only [Value.slice.injEq] at e
  obtain ⟨rfl, _, _⟩ := e
  rcases h3 with e | ⟨b', cur, e, z, he, hb, hc⟩
  · subst e; simp at hi
  · cases he; exact block_lt hb
end
/-- A slice that tells whole numbers, laid behind a row that a call owns. -/
theorem wpList_append_rd {w : World} {ops : Array Oper} {rest : List Oper} {o : Oper} {a : Act} {Q : Exit → Act → World → Prop} (hgd : o.guard = none) (s x : Operand) (ho : o.op = .call { callee := .builtin .append, args := #[s, x], argTypes := #[72, 72] })
    (base b0 n c0 : Nat) (xs : List Value) (hs : a.eval s = .slice (some ⟨b0, 0, none⟩) n c0) (hown : w.ownsRow base 3 1 (.slice (some ⟨b0, 0, none⟩) n c0) n xs) (sx : Value) (ys : List Int) (hx : a.eval x = sx) (hr : Rd w sx ys) (hb : n + ys.length ≤ 8796093022208) (hbase : base ≤ w.heap.size)
    (h : ∀ b cap w', w'.ownsRow base 3 1 (.slice (some ⟨b, 0, none⟩) (n + ys.length) cap) (n + ys.length) (xs ++ ints ys) → w.grownBy w' (some b0) → wpList Try.prog ops Q rest (a.put o.dst (.slice (some ⟨b, 0, none⟩) (n + ys.length) cap)) w') : wpList Try.prog ops Q (o :: rest) a w := by
  obtain ⟨i3, hi3, hz0, hz1, hz2⟩ := info_parts info3
  obtain ⟨ad, c, rfl, h1, h2, h0, h3⟩ := hr
  cases ad with
  | none =>
    have e0 := h0 rfl
    subst e0
    have e1 : ys = [] := List.length_eq_zero_iff.1 (by omega)
    subst e1
    refine wpList_append_own_none hgd s x 72 ho base 3 i3 1 Try.underlying72 hi3 _ n xs hs hown hx ?_
    have := h b0 c0 w (by simpa [ints] using hown) ⟨rfl, rfl, rfl, Nat.le_refl _, fun _ _ _ => rfl⟩
    simpa using this
  | some ad =>
    refine wpList_append_own w hgd s x 72 ho base 3 i3 (.int .i64 0) 1 8 Try.underlying72 hi3 hz0 hz1 hz2 rfl (by decide) _ n xs hs hown ad ys.length c (ints ys) hx (by simp [ints]) (fun j u hu => ?_) (fun u hu => ?_) (by unfold maxLen; omega) (by omega) hbase (fun v' w' r gr nn => ?_)
    · rcases h3 with e | ⟨b, cur, e, z, he, hb, hc⟩
      · subst e; simp [ints] at hu
      · cases he
        have hj : j < ys.length := by
          have := (List.getElem?_eq_some_iff.1 hu).1
          simpa [ints] using this
        have e2 : (⟨b, 0, none⟩ : Addr).add j = ⟨b, j, none⟩ := by unfold Addr.add; split <;> simp_all
        rw [e2]
        simp [ints, hj] at hu
        rw [← hu]
        simp [World.cell?, hb, hc j hj]
    · simp only [ints, List.mem_map] at hu
      obtain ⟨y, _, rfl⟩ := hu
      rfl
    · rcases r.2 with ⟨e, _⟩ | ⟨g, cap, cur, rfl, _⟩
      · have := (nn.1 e).1
        cases this
      · exact h g cap w' r gr
theorem own_kind {w : World} {base e n k : Nat} {v : Value} {xs : List Value} (h : w.ownsRow base e k v n xs) {b : Nat} (hb : v.ownBlock = some b) : ∃ cs, w.heap[b]? = some (.cells cs e (0, 0)) := by
  obtain ⟨h1, h2 | ⟨g, cap, cur, rfl, hg, hc, hn, r⟩⟩ := h
  · rw [h2.1] at hb
    cases hb
  · simp only [Value.ownBlock, Option.some.injEq] at hb
    subst hb
    exact ⟨cur, hc⟩
end Go.Proofs.Ytibgfkjhohgkhaa
