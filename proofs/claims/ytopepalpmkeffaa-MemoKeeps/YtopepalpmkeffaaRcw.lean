/- The keys that are seen on the way back through the uses; what one more leaves; no conditions but those that each states. -/
import Derived.Test.YtopepalpmkeffaaRcs
namespace Go.Proofs.Ytopepalpmkeffaa
open Go.RowKit Go.Sort Go.Maps Go.ChangeMaps Go.WideMaps
set_option linter.unusedVariables false
set_option linter.unusedSimpArgs false
def sf (s : List K) : K → Option Value := fun k => if hs s k then some (.bool true) else none
theorem sf_some (s : List K) (k : K) : (sf s k).isSome = hs s k := by unfold sf; split <;> simp_all
theorem hs_mem {xs : List K} {k : K} (h : hs xs k = true) : k ∈ xs := by
  unfold hs at h
  simpa using h
theorem hs_iff {xs : List K} {k : K} : hs xs k = true ↔ k ∈ xs := ⟨hs_mem, hs_yes⟩
theorem hs_addK (s : List K) (k j : K) : hs (addK s k) j = if j = k then true else hs s j := by
  by_cases hk : k ∈ s
  · rw [addK_in hk]
    by_cases e : j = k
    · rw [if_pos e, e]; exact hs_yes hk
    · rw [if_neg e]
  · rw [addK_out hk]
    by_cases e : j = k
    · rw [if_pos e, e]; exact hs_yes (by simp)
    · rw [if_neg e]
      by_cases h : j ∈ s
      · rw [hs_yes h, hs_yes (by simp [h])]
      · rw [hs_no h, hs_no (by simp [h, e])]
theorem upd_sf (s : List K) (k : K) : upd (sf s) k (.bool true) = sf (addK s k) := by
  funext j
  unfold upd sf
  rw [hs_addK]
  by_cases e : j = k
  · simp [e]
  · simp [e]
theorem addK_length (s : List K) (k : K) : (addK s k).length = if (sf s k).isSome then s.length else s.length + 1 := by
  rw [sf_some]
  by_cases hk : k ∈ s
  · rw [addK_in hk, hs_yes hk]; rfl
  · rw [addK_out hk, hs_no hk]; simp
/-- On the way back: q uses are still to be looked at, s are seen. -/
structure Sn (w : World) (m : Nat) (c : Cf) (e : Nat) (v : Value) (u : List K) (ys : List En) (b q : Nat) (s : List K) (wr : World) : Prop where
  mq : ∃ F, Mq wr m F c 0 ys ∧ (∀ k ∈ F, w.heap.size ≤ k) ∧ ¬ b ∈ F
  cb : wr.heap[w.heap.size]? = some (cbx c 23)
  us : wr.ownsRow w.heap.size 39 2 v u.length (cellsK u)
  uo : ∀ k ∈ u, Ok k
  t : Touch [] w wr
  mp : MapAt wr b s.length (sf s)
  b0 : w.heap.size ≤ b
  nd : s.Nodup
  sq : sc e (u.reverse.drop (u.length - q)) s = (keysL ys).reverse
  ql : q ≤ u.length
  rv : Rv e u ys
section
variable {w wr wr' : World} {m e b q : Nat} {c : Cf} {v : Value} {u s : List K} {ys : List En}
theorem Sn.rs (h : Sn w m c e v u ys b q s wr) : Rs w m c wr v u ys := by
  obtain ⟨F, f1, f2, f3⟩ := h.mq
  exact ⟨⟨F, f1, f2⟩, h.cb, h.us, h.uo, h.t⟩
theorem Sn.start (h : Rs w m c wr v u ys) (hv : Rv e u ys) : Sn w m c e v u ys wr.heap.size u.length [] (wr.alloc (.map #[] 0)) := by
  have t : Touch [] wr (wr.alloc (.map #[] 0)) := (Touch.refl _ _).alloc _
  have h' := h.keep t
  obtain ⟨F, f1, f2⟩ := h.mq
  exact ⟨⟨F, f1.keep0 t, f2, fun hh => by have := f1.lt _ hh; omega⟩, h'.cb, h'.us, h'.uo, h'.t, (mapAt_made wr).congr (fun k _ => by simp [sf, hs]), h.t.size, by simp, by simpa using hv.eq, Nat.le_refl _, hv⟩
theorem Sn.keep (h : Sn w m c e v u ys b q s wr) (t : Touch [] wr wr') : Sn w m c e v u ys b q s wr' := by
  obtain ⟨⟨F, f1, f2, f3⟩, cb, us, uo, t0, mp, b0, nd, sq, ql, rv⟩ := h
  exact ⟨⟨F, f1.keep0 t, f2, f3⟩, t.keep cb (by simp), own_touch us t (fun _ _ e => by cases e), uo, t0.trans' t, mp.kept (t.block b mp.lt (by simp)), b0, nd, sq, ql, rv⟩
theorem drop_rev {u : List K} {j : Nat} (h : j < u.length) : u.reverse.drop (u.length - (j + 1)) = u[j] :: u.reverse.drop (u.length - j) := by
  have h1 : u.length - (j + 1) < u.reverse.length := by rw [List.length_reverse]; omega
  rw [List.drop_eq_getElem_cons h1, List.getElem_reverse]
  have h2 : u.length - 1 - (u.length - (j + 1)) = j := by omega
  have h3 : u.length - (j + 1) + 1 = u.length - j := by omega
  rw [h3]
  congr 1
  simp only [h2]
theorem Sn.step (h : Sn w m c e v u ys b (q + 1) s wr) (hs : s.length < e) (hm : s.length < maxLen) (hq : q < u.length) :
    u[q] ∈ keysL ys ∧ Ok u[q] ∧ ∃ ob, (Instr.mapUpdate 68 (.map (some b)) (kv u[q]) (.bool true)).run Try.prog wr = .ok () (setBlock wr b ob) ∧ Sn w m c e v u ys b q (addK s u[q]) (setBlock wr b ob) := by
  obtain ⟨⟨F, f1, f2, f3⟩, cb, us, uo, t0, mp, b0, nd, sq, ql, rv⟩ := h
  have hok := uo u[q] (List.getElem_mem hq)
  obtain ⟨ob, hu, hm2⟩ := mp.set (t := 68) Try.underlying68 hm hok (.bool true)
  have tb : Touch [b] wr (setBlock wr b ob) := touch_setBlock (Touch.refl _ _) (Or.inl (by simp)) _
  rw [drop_rev hq] at sq
  unfold sc at sq
  rw [if_pos hs] at sq
  have hmem : u[q] ∈ keysL ys := by
    have h1 : u[q] ∈ addK s u[q] := hs_mem (by rw [hs_addK, if_pos rfl])
    have h2 := (sc_pre e (u.reverse.drop (u.length - q)) (addK s u[q])).subset h1
    rw [sq] at h2
    simpa using h2
  refine ⟨hmem, hok, ob, hu, ⟨F, f1.keep tb (fun k hk hh => by simp only [List.mem_singleton] at hh; subst hh; exact f3 hk), f2, f3⟩, tb.keep cb (fun hh => ?_), own_touch us tb (fun g hg hh => ?_), uo, t0.trans tb (fun i hi => by simp only [List.mem_singleton] at hi; subst hi; exact Or.inr b0), ?_, b0, addK_nd nd, sq, by omega, rv⟩
  · simp only [List.mem_singleton] at hh
    exact mp.ne_block cb hh.symm
  · simp only [List.mem_singleton] at hh
    obtain ⟨cs, hcs⟩ := own_kind us hg
    exact mp.ne_block hcs hh.symm
  · rw [addK_length, ← upd_sf]
    exact hm2
theorem Sn.done0 (h : Sn w m c e v u ys b 0 s wr) : s.length = ys.length := by
  have h1 := h.sq
  rw [Nat.sub_zero, List.drop_eq_nil_of_le (by rw [List.length_reverse]; omega)] at h1
  unfold sc at h1
  rw [h1, List.length_reverse, keysL_len]
theorem Sn.doneF (h : Sn w m c e v u ys b q s wr) (hs : e ≤ s.length) : s.length = ys.length := by
  have h1 := h.sq
  rw [sc_full hs] at h1
  rw [h1, List.length_reverse, keysL_len]
theorem Sn.bound (h : Sn w m c e v u ys b q s wr) (he : c.e = (e : Int)) : s.length ≤ 65536 := by
  obtain ⟨F, f1, _⟩ := h.mq
  have h1 := (sc_pre e (u.reverse.drop (u.length - q)) s).length_le
  rw [h.sq, List.length_reverse, keysL_len] at h1
  have := f1.len
  omega
end
end Go.Proofs.Ytopepalpmkeffaa
