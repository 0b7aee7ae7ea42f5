/- The contract of put; a key's name has at most 64 bytes. -/
import Derived.Test.YtopepalpmkeffaaAsk
namespace Go.Proofs.Ytopepalpmkeffaa
open Go.RowKit Go.Sort Go.Maps Go.ChangeMaps Go.WideMaps
set_option linter.unusedVariables false
set_option linter.unusedSimpArgs false
/-- A slice of keys of type t tells xs. -/
def RT (t : Nat) (w : World) (v : Value) (xs : List K) : Prop := w.ownsRow 0 t 2 v xs.length (cellsK xs)
theorem RT.nil (t : Nat) (w : World) : RT t w (.slice none 0 0) [] := World.ownsRow_nil _ _ _ _
theorem RT.one {t : Nat} {w : World} {g : Nat} {x : K} (h : w.heap[g]? = some (.cells #[.int .u16 x.1, .string x.2] t (0, 0))) : RT t w (.slice (some ⟨g, 0, none⟩) 1 1) [x] :=
  ⟨rfl, Or.inr ⟨g, 1, #[.int .u16 x.1, .string x.2], rfl, Nat.zero_le _, h, Nat.le_refl _, by unfold maxLen; decide, rfl, rfl⟩⟩
theorem RT.touch {t : Nat} {w w' : World} {F : List Nat} {v : Value} {xs : List K} (h : RT t w v xs) (ht : Touch F w w') (hk : ∀ b, v.ownBlock = some b → ¬ b ∈ F) : RT t w' v xs := own_touch h ht hk
theorem RT.keep {t : Nat} {w w' : World} {v : Value} {xs : List K} (h : RT t w v xs) (ht : Touch [] w w') : RT t w' v xs := own_touch h ht (fun _ _ e => by cases e)
theorem RT.form {t : Nat} {w : World} {v : Value} {xs : List K} (h : RT t w v xs) : ∃ a c, v = .slice a xs.length c ∧ ∀ k (hk : k < xs.length), ∃ g, a = some ⟨g, 0, none⟩ := by
  obtain ⟨h1, h2 | ⟨g, cap, cur, rfl, hg, hc, hn, r⟩⟩ := h
  · obtain ⟨h2, h3⟩ := h2
    exact ⟨none, 0, by rw [h3]; exact h2, fun k hk => by omega⟩
  · exact ⟨_, cap, rfl, fun k hk => ⟨g, rfl⟩⟩
theorem RT.cells {t : Nat} {w : World} {g c : Nat} {xs : List K} (h : RT t w (.slice (some ⟨g, 0, none⟩) xs.length c) xs) (k : Nat) (hk : k < xs.length) : w.cell? ⟨g, k * 2, none⟩ = some (.int .u16 xs[k].1) ∧ w.cell? ⟨g, k * 2 + 1, none⟩ = some (.string xs[k].2) :=
  ⟨own_cell h (cellsK_at0 xs k hk), own_cell h (cellsK_at1 xs k hk)⟩
theorem RT.kind {t : Nat} {w : World} {v : Value} {xs : List K} (h : RT t w v xs) {b : Nat} (hb : v.ownBlock = some b) : ∃ cs, w.heap[b]? = some (.cells cs t (0, 0)) := by
  obtain ⟨h1, h2 | ⟨g, cap, cur, rfl, hg, hc, hn, r⟩⟩ := h
  · rw [h2.1] at hb
    cases hb
  · simp only [Value.ownBlock, Option.some.injEq] at hb
    subst hb
    exact ⟨cur, hc⟩
/-- The keys that go over the bound. -/
def goneL (e : Int) (xs : List En) (k : K) : List K := if useB e (keysL xs) k then [useG e (keysL xs) k] else []
/-- The memo between the order's change and the map's. -/
structure Pm (w : World) (m b o : Nat) (G : List Nat) (c : Cf) (now : Int) (xs : List En) (k : K) (v : V) (W : World) : Prop where
  md : Md W m c now b o
  mp : MapAt W b (if (mpf xs k).isSome then xs.length else xs.length + 1) (upd (mpf xs) k (ev v))
  oq : ∃ G', Oq W o G' c.e (useL c.e (keysL xs) k) ∧ ¬ b ∈ G' ∧ Nf w G G'
  t : Touch (m :: b :: G) w W
theorem dr_len_mem {xs : List K} {k : K} (hn : xs.Nodup) (h : k ∈ xs) : (dr xs k).length + 1 = xs.length := by
  obtain ⟨A, B, rfl⟩ := List.append_of_mem h
  rw [List.nodup_append, List.nodup_cons] at hn
  rw [dr_mid (fun x hx e => hn.2.2 x hx k (by simp) e) (fun x hx e => hn.2.1.1 (e ▸ hx))]
  simp only [List.length_append, List.length_cons]
  omega
theorem putY_len {xs : List En} (hn : (keysL xs).Nodup) (k : K) (v : V) : (putY xs k v).length = if (mpf xs k).isSome then xs.length else xs.length + 1 := by
  unfold putY mpf
  simp only [List.length_append, List.length_singleton, Option.isSome_map]
  rw [fnd_isSome]
  by_cases h : k ∈ keysL xs
  · rw [hs_yes h, if_pos rfl]
    have h1 := dr_len_mem hn h
    rw [← drx_keys, keysL_len, keysL_len] at h1
    exact h1
  · rw [hs_no h]
    simp only [Bool.false_eq_true, if_false]
    have h1 := congrArg List.length (dr_no h)
    rw [← drx_keys, keysL_len, keysL_len] at h1
    omega
theorem upd_mpf (xs : List En) (k : K) (v : V) : upd (mpf xs) k (ev v) = mpf (putY xs k v) := by
  funext j
  unfold upd mpf
  rw [fnd_putY]
  split <;> rfl
section
variable {w W : World} {m b o : Nat} {G : List Nat} {c : Cf} {now : Int} {xs : List En} {k : K} {v : V}
theorem Pm.end1 (h : Pm w m b o G c now xs k v W) (hn : (keysL xs).Nodup) (hg : Gd c now xs) (hv : right v.1 = true ∧ 0 ≤ v.2 ∧ v.2 ≤ now) (hb : useB c.e (keysL xs) k = false) : Mc w m (m :: b :: G) c now (putL c.e xs k v) W := by
  obtain ⟨md, mp, ⟨G', o1, o2, o3⟩, t⟩ := h
  have e : putL c.e xs k v = putY xs k v := by unfold putL; rw [hb]; rfl
  refine ⟨m :: b :: G', ⟨b, o, G', rfl, md, ?_, ?_, hg.put k v hv, o2⟩, t, fun i hi => ?_⟩
  · rw [e, putY_len hn, ← upd_mpf]
    exact mp
  · rw [putL_keys]
    exact o1
  · simp only [List.mem_cons] at hi ⊢
    rcases hi with rfl | rfl | hi
    · exact Or.inl (Or.inl rfl)
    · exact Or.inl (Or.inr (Or.inl rfl))
    · exact (o3 i hi).elim (fun e => Or.inl (Or.inr (Or.inr e))) Or.inr
theorem Pm.end2 (h : Pm w m b o G c now xs k v W) (hn : (keysL xs).Nodup) (hok : ∀ k ∈ keysL xs, Ok k) (hk : Ok k) (hg : Gd c now xs) (hv : right v.1 = true ∧ 0 ≤ v.2 ∧ v.2 ≤ now) (hb : useB c.e (keysL xs) k = true) (ty : TypeId) :
    ∃ ob, (Builtin.delete_ #[91, 39] ty #[.map (some b), kv (useG c.e (keysL xs) k)]).run Try.prog W.drew = .ok (.tuple #[]) (setBlock W.drew b ob) ∧ Mc w m (m :: b :: G) c now (putL c.e xs k v) (setBlock W.drew b ob) := by
  obtain ⟨md, mp, ⟨G', o1, o2, o3⟩, t⟩ := h
  obtain ⟨g, zs, hy⟩ : ∃ g zs, putY xs k v = g :: zs := by
    cases e : putY xs k v with
    | nil => simp [putY] at e
    | cons g zs => exact ⟨g, zs, rfl⟩
  have eG : useG c.e (keysL xs) k = g.1 := by
    unfold useG
    rw [if_pos hb, ← putY_keys xs k v, hy]
    rfl
  have e : putL c.e xs k v = zs := by unfold putL; rw [hb, hy]; rfl
  have hmem : ∀ x ∈ keysL (putY xs k v), Ok x := fun x hx => by
    obtain ⟨y, hy1, rfl⟩ := List.mem_map.1 hx
    rcases mem_putY hy1 with e | e
    · exact hok _ (List.mem_map_of_mem e)
    · rw [e]; exact hk
  have hnd : (keysL (putY xs k v)).Nodup := by
    rw [putY_keys]
    unfold useY dr
    rw [List.nodup_append]
    refine ⟨hn.filter _, by simp, fun a ha b hb e => ?_⟩
    simp only [List.mem_singleton] at hb
    have := (List.mem_filter.1 ha).2
    simp only [ne_eq, decide_eq_true_eq] at this
    exact this (e.trans hb)
  rw [hy] at hnd hmem
  simp only [keysL, List.map_cons, List.nodup_cons] at hnd
  rw [upd_mpf, ← putY_len hn k v, hy] at mp
  rw [eG]
  obtain ⟨ob, hu, hs⟩ := (show MapAt W.drew b _ _ from mp.kept rfl).del (t := 91) Try.underlying91 (hmem g.1 (by simp [keysL])) ty
  refine ⟨ob, hu, m :: b :: G', ⟨b, o, G', rfl, ?_, ?_, ?_, hg.put k v hv, o2⟩, ?_, fun i hi => ?_⟩
  · have hne : m ≠ b := fun e => by
      have := mp.ne_block md
      exact this e.symm
    unfold Md
    rw [setBlock_other _ _ _ hne]
    exact md
  · rw [e]
    have h1 : (mpf (g :: zs) g.1).isSome = true := by simp [mpf, fnd]
    rw [h1, if_pos rfl] at hs
    simp only [List.length_cons, Nat.add_sub_cancel] at hs
    refine hs.congr (fun j _ => ?_)
    unfold Ytopepalpmkeffaa.del mpf
    rw [fnd_tail hnd.1 j]
    split <;> rfl
  · rw [putL_keys]
    have t2 : Touch [b] W (setBlock W.drew b ob) := touch_setBlock ((Touch.refl _ _).drew) (Or.inl (by simp)) _
    exact o1.keep t2 (fun i hi hh => by simp only [List.mem_singleton] at hh; subst hh; exact o2 hi)
  · exact t.trans' (touch_setBlock ((Touch.refl _ _).drew) (Or.inl (by simp)) _)
  · simp only [List.mem_cons] at hi ⊢
    rcases hi with rfl | rfl | hi
    · exact Or.inl (Or.inl rfl)
    · exact Or.inl (Or.inr (Or.inl rfl))
    · exact (o3 i hi).elim (fun e => Or.inl (Or.inr (Or.inr e))) Or.inr
theorem put_mid {V W1 w2 w3 W : World} (h : Mb w m b o G c now xs) (TV : Touch [] w V) {ob : Obj} (hW : W1 = setBlock V.drew b ob) (hm : MapAt W1 b (if (mpf xs k).isSome then xs.length else xs.length + 1) (upd (mpf xs) k (ev v)))
    (t2 : Touch [] W1 w2) (c3 : Ch w2 o G c.e (useL c.e (keysL xs) k) w3) (t4 : Touch [] w3 W ∨ ∃ q, Touch [q] w3 W ∧ W1.heap.size ≤ q ∧ q < w2.heap.size) : Pm w m b o G c now xs k v W := by
  have T1 : Touch [b] w W1 := by rw [hW]; exact touch_setBlock ((TV.drew).mono (fun _ e => by cases e)) (Or.inl (by simp)) _
  have m1 : Md W1 m c now b o := T1.keep h.md (by simpa using h.mb.symm)
  obtain ⟨G', c1, c2, c4⟩ := c3
  have hlt := h.lt
  have hz1 : w.heap.size ≤ W1.heap.size := T1.size
  have m3 : Md w3 m c now b o := c2.keep (t2.keep m1 (by simp)) h.mg
  have p3 : MapAt w3 b _ _ := (hm.kept (t2.block b hm.lt (by simp))).kept (c2.block b (Nat.lt_of_lt_of_le hm.lt t2.size) h.bg)
  have bG : ¬ b ∈ G' := fun hh => (c4 b hh).elim h.bg (fun e => by have := hlt b (by simp); have := t2.size; omega)
  have nf : Nf w G G' := fun i hi => (c4 i hi).elim Or.inl (fun e => Or.inr (by have := t2.size; omega))
  have T3 : Touch (m :: b :: G) w w3 := ((T1.mono (fun i hi => by simp only [List.mem_singleton] at hi; subst hi; simp)).trans' (t2.mono (fun _ e => by cases e))).trans' (c2.mono (fun i hi => by simp [hi]))
  rcases t4 with t4 | ⟨q, t4, q1, q2⟩
  · exact ⟨t4.keep m3 (by simp), p3.kept (t4.block b p3.lt (by simp)), ⟨G', c1.keep0 t4, bG, nf⟩, T3.trans' (t4.mono (fun _ e => by cases e))⟩
  · have hq : ∀ i, i ∈ m :: b :: G → i ≠ q := fun i hi => by have := hlt i hi; omega
    refine ⟨t4.keep m3 (by simpa using hq m (by simp)), p3.kept (t4.block b p3.lt (by simpa using hq b (by simp))), ⟨G', c1.keep t4 (fun i hi hh => ?_), bG, nf⟩, T3.trans t4 (fun i hi => by simp only [List.mem_singleton] at hi; subst hi; exact Or.inr (by omega))⟩
    simp only [List.mem_singleton] at hh
    subst hh
    rcases c4 i hi with e | e
    · exact hq i (by simp [e]) rfl
    · omega
end
end Go.Proofs.Ytopepalpmkeffaa
