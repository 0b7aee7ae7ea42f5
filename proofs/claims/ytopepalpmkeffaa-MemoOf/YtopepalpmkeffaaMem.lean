/- A memo in memory as a plain list of entries, the one that was used the longest time ago first: what lies where, what keeps it; no conditions. -/
import Derived.Test.YtopepalpmkeffaaCfg
import Derived.Test.YtopepalpmkeffaaCln
namespace Go.Proofs.Ytopepalpmkeffaa
open Go.RowKit Go.Sort Go.Maps Go.ChangeMaps Go.WideMaps
set_option linter.unusedVariables false
set_option linter.unusedSimpArgs false
theorem Oq.away {w : World} {o : Nat} {F : List Nat} {most : Int} {xs : List K} (h : Oq w o F most xs) {k : Nat} {cs : Array Value} {t : TypeId} {fr : Nat × Nat} (hc : w.heap[k]? = some (.cells cs t fr)) (h1 : t ≠ 129) (h2 : t ≠ 146) : ¬ k ∈ F := fun hk => by
  obtain ⟨m, L, rfl, rfl, t⟩ := h
  simp only [fp, List.mem_cons, List.mem_append] at hk
  rcases hk with rfl | hk | hk
  · have := t.ln.oc
    unfold OC at this
    rw [this] at hc
    simp at hc
    exact h1 hc.2.1.symm
  · rcases t.mp with ⟨rfl, _⟩ | ⟨b, f, rfl, hm, hf⟩
    · simp at hk
    · simp at hk
      subst hk
      exact hm.ne_block hc rfl
  · obtain ⟨e, he, rfl⟩ := List.mem_map.1 hk
    obtain ⟨x, y, hx⟩ := t.ln.sg.mem e he
    unfold Nd at hx
    rw [hx] at hc
    simp at hc
    exact h2 hc.2.1.symm
def mcs (c : Cf) (now : Int) (b o : Nat) : Array Value := #[.int .i64 c.t, .int .i64 c.n, .int .i64 c.s, .int .i64 c.e, .int .i64 c.f, .int .i64 c.b, .int .i64 c.d, .int .i64 now, .map (some b), PT o]
def Md (w : World) (m : Nat) (c : Cf) (now : Int) (b o : Nat) : Prop := w.heap[m]? = some (.cells (mcs c now b o) 93 (0, 0))
structure MdC (w : World) (m : Nat) (c : Cf) (now : Int) (b o : Nat) : Prop where
  c0 : w.cell? ⟨m, 0, none⟩ = some (.int .i64 c.t)
  c1 : w.cell? ⟨m, 1, none⟩ = some (.int .i64 c.n)
  c2 : w.cell? ⟨m, 2, none⟩ = some (.int .i64 c.s)
  c3 : w.cell? ⟨m, 3, none⟩ = some (.int .i64 c.e)
  c4 : w.cell? ⟨m, 4, none⟩ = some (.int .i64 c.f)
  c5 : w.cell? ⟨m, 5, none⟩ = some (.int .i64 c.b)
  c6 : w.cell? ⟨m, 6, none⟩ = some (.int .i64 c.d)
  c7 : w.cell? ⟨m, 7, none⟩ = some (.int .i64 now)
  c8 : w.cell? ⟨m, 8, none⟩ = some (.map (some b))
  c9 : w.cell? ⟨m, 9, none⟩ = some (.pointer (some ⟨o, 0, none⟩))
  f7 : w.frozen? ⟨m, 7, none⟩ = false
theorem Md.cs {w : World} {m : Nat} {c : Cf} {now : Int} {b o : Nat} (h : Md w m c now b o) : MdC w m c now b o := by
  unfold Md mcs PT at h
  constructor <;> simp [World.cell?, World.frozen?, h]
theorem Md.set7 {w : World} {m : Nat} {c : Cf} {now : Int} {b o : Nat} (h : Md w m c now b o) (n2 : Int) : Md (w.setCell ⟨m, 7, none⟩ (.int .i64 n2)) m c n2 b o := bset h _
theorem Md.lt {w : World} {m : Nat} {c : Cf} {now : Int} {b o : Nat} (h : Md w m c now b o) : m < w.heap.size := block_lt h
def mpf (xs : List En) : K → Option Value := fun k => (fnd xs k).map ev
/-- The memo at block m, its map at b, its order at o with the blocks G. -/
structure Mb (w : World) (m b o : Nat) (G : List Nat) (c : Cf) (now : Int) (xs : List En) : Prop where
  md : Md w m c now b o
  mp : MapAt w b xs.length (mpf xs)
  oq : Oq w o G c.e (keysL xs)
  gd : Gd c now xs
  bg : ¬ b ∈ G
/-- The memo at block m, whose blocks are F, keeps xs. -/
def Mq (w : World) (m : Nat) (F : List Nat) (c : Cf) (now : Int) (xs : List En) : Prop := ∃ b o G, F = m :: b :: G ∧ Mb w m b o G c now xs
section
variable {w w' : World} {m b o : Nat} {F G X : List Nat} {c : Cf} {now : Int} {xs : List En}
theorem Mb.mg (h : Mb w m b o G c now xs) : ¬ m ∈ G := h.oq.away h.md (by decide) (by decide)
theorem Mb.mb (h : Mb w m b o G c now xs) : b ≠ m := h.mp.ne_block h.md
theorem Mb.nd (h : Mb w m b o G c now xs) : (keysL xs).Nodup := h.oq.nd
theorem Mb.ok (h : Mb w m b o G c now xs) : ∀ k ∈ keysL xs, Ok k := h.oq.ok
theorem Mb.len (h : Mb w m b o G c now xs) : xs.length ≤ 65536 := by have := h.gd.ln; have := (okC_e h.gd.oc).2; omega
theorem Mb.keep (h : Mb w m b o G c now xs) (t : Touch X w w') (hn : ∀ k, k ∈ m :: b :: G → ¬ k ∈ X) : Mb w' m b o G c now xs :=
  ⟨t.keep h.md (hn m (by simp)), h.mp.kept (t.block b h.mp.lt (hn b (by simp))), h.oq.keep t (fun k hk => hn k (by simp [hk])), h.gd, h.bg⟩
theorem Mb.keep0 (h : Mb w m b o G c now xs) (t : Touch [] w w') : Mb w' m b o G c now xs := h.keep t (fun _ _ e => by cases e)
theorem Mb.lt (h : Mb w m b o G c now xs) : ∀ k, k ∈ m :: b :: G → k < w.heap.size := fun k hk => by
  simp only [List.mem_cons] at hk
  rcases hk with rfl | rfl | hk
  · exact h.md.lt
  · exact h.mp.lt
  · exact h.oq.lt k hk
theorem Mq.keep (h : Mq w m F c now xs) (t : Touch X w w') (hn : ∀ k, k ∈ F → ¬ k ∈ X) : Mq w' m F c now xs := by
  obtain ⟨b, o, G, rfl, h⟩ := h
  exact ⟨b, o, G, rfl, h.keep t hn⟩
theorem Mq.keep0 (h : Mq w m F c now xs) (t : Touch [] w w') : Mq w' m F c now xs := h.keep t (fun _ _ e => by cases e)
theorem Mq.lt (h : Mq w m F c now xs) : ∀ k, k ∈ F → k < w.heap.size := by
  obtain ⟨b, o, G, rfl, h⟩ := h
  exact h.lt
theorem Mq.gd (h : Mq w m F c now xs) : Gd c now xs := by
  obtain ⟨b, o, G, rfl, h⟩ := h
  exact h.gd
theorem Mq.nd (h : Mq w m F c now xs) : (keysL xs).Nodup := by
  obtain ⟨b, o, G, rfl, h⟩ := h
  exact h.nd
theorem Mq.ok (h : Mq w m F c now xs) : ∀ k ∈ keysL xs, Ok k := by
  obtain ⟨b, o, G, rfl, h⟩ := h
  exact h.ok
theorem Mq.len (h : Mq w m F c now xs) : xs.length ≤ 65536 := by
  obtain ⟨b, o, G, rfl, h⟩ := h
  exact h.len
/-- Blocks of cells of another kind are none of the memo's. -/
theorem Mq.away (h : Mq w m F c now xs) {k : Nat} {cs : Array Value} {t : TypeId} {fr : Nat × Nat} (hc : w.heap[k]? = some (.cells cs t fr)) (h1 : t ≠ 129) (h2 : t ≠ 146) (h3 : t ≠ 93) : ¬ k ∈ F := fun hk => by
  obtain ⟨b, o, G, rfl, h⟩ := h
  simp only [List.mem_cons] at hk
  rcases hk with rfl | rfl | hk
  · have := h.md
    unfold Md at this
    rw [this] at hc
    simp at hc
    exact h3 hc.2.1.symm
  · exact h.mp.ne_block hc rfl
  · exact h.oq.away hc h1 h2 hk
end
/-- What a change leaves. -/
def Mc (w : World) (m : Nat) (F : List Nat) (c : Cf) (now : Int) (ys : List En) (w' : World) : Prop := ∃ F', Mq w' m F' c now ys ∧ Touch F w w' ∧ Nf w F F'
theorem Mc.refl {w : World} {m : Nat} {F : List Nat} {c : Cf} {now : Int} {xs : List En} (h : Mq w m F c now xs) : Mc w m F c now xs w := ⟨F, h, Touch.refl _ _, Nf.refl _ _⟩
theorem Mc.from0 {w0 w w' : World} {m : Nat} {F : List Nat} {c : Cf} {now : Int} {ys : List En} (h : Mc w m F c now ys w') (t : Touch [] w0 w) : Mc w0 m F c now ys w' := by
  obtain ⟨F', h1, h2, h3⟩ := h
  exact ⟨F', h1, (t.mono (fun _ e => by cases e)).trans' h2, fun k hk => (h3 k hk).elim Or.inl (fun e => Or.inr (Nat.le_trans t.size e))⟩
theorem Mc.keep0 {w w1 w2 : World} {m : Nat} {F : List Nat} {c : Cf} {now : Int} {ys : List En} (h : Mc w m F c now ys w1) (t : Touch [] w1 w2) : Mc w m F c now ys w2 := by
  obtain ⟨F', h1, h2, h3⟩ := h
  exact ⟨F', h1.keep0 t, h2.trans' (t.mono (fun _ e => by cases e)), h3⟩
theorem Mc.trans {w w1 w2 : World} {m : Nat} {F : List Nat} {c : Cf} {now n2 : Int} {ys zs : List En} (h : Mc w m F c now ys w1) (h' : ∀ F', Mq w1 m F' c now ys → Mc w1 m F' c n2 zs w2) : Mc w m F c n2 zs w2 := by
  obtain ⟨F1, a1, a2, a3⟩ := h
  obtain ⟨F2, b1, b2, b3⟩ := h' F1 a1
  exact ⟨F2, b1, a2.trans b2 a3, a3.trans b3 a2.size⟩
theorem Mc.block {w w1 : World} {m : Nat} {F : List Nat} {c : Cf} {now : Int} {ys : List En} (h : Mc w m F c now ys w1) {k : Nat} {ob : Obj} (hk : w.heap[k]? = some ob) (hn : ¬ k ∈ F) : w1.heap[k]? = some ob := by
  obtain ⟨F', h1, h2, h3⟩ := h
  exact h2.keep hk hn
/-- A block of one's own, laid behind w0, is written behind the change. -/
theorem Mc.own {w0 w w1 w2 : World} {m : Nat} {F : List Nat} {c : Cf} {now : Int} {ys : List En} (h : Mc w m F c now ys w1) {r : Nat} (t : Touch [r] w1 w2) (h0 : Touch [] w0 w) (hr : w0.heap.size ≤ r) (hr' : r < w.heap.size) (hF : ∀ k ∈ F, k < w0.heap.size) : Mc w0 m F c now ys w2 := by
  obtain ⟨F', h1, h2, h3⟩ := h
  refine ⟨F', h1.keep t (fun k hk hh => ?_), ((h0.mono (fun _ e => by cases e)).trans' h2).trans t (fun i hi => by simp only [List.mem_singleton] at hi; subst hi; exact Or.inr hr), fun k hk => (h3 k hk).elim Or.inl (fun e => Or.inr (Nat.le_trans h0.size e))⟩
  simp only [List.mem_singleton] at hh
  subst hh
  rcases h3 k hk with e | e
  · have := hF k e; omega
  · omega
end Go.Proofs.Ytopepalpmkeffaa
