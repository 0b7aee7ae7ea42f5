/- A memo, its configuration's box and the list of uses in memory between two acts; one act of the two that are done; no conditions but those that each states. -/
import Derived.Test.YtopepalpmkeffaaRct
import Derived.Test.YtopepalpmkeffaaNew
namespace Go.Proofs.Ytopepalpmkeffaa
open Go.RowKit Go.Sort Go.Maps Go.ChangeMaps Go.WideMaps
set_option linter.unusedVariables false
set_option linter.unusedSimpArgs false
theorem own_kind {w : World} {base e n k : Nat} {v : Value} {xs : List Value} (h : w.ownsRow base e k v n xs) {b : Nat} (hb : v.ownBlock = some b) : ∃ cs, w.heap[b]? = some (.cells cs e (0, 0)) := by
  obtain ⟨h1, h2 | ⟨g, cap, cur, rfl, hg, hc, hn, r⟩⟩ := h
  · rw [h2.1] at hb
    cases hb
  · simp only [Value.ownBlock, Option.some.injEq] at hb
    subst hb
    exact ⟨cur, hc⟩
structure Rs (w : World) (m : Nat) (c : Cf) (wr : World) (v : Value) (u : List K) (xs : List En) : Prop where
  mq : ∃ F, Mq wr m F c 0 xs ∧ ∀ k ∈ F, w.heap.size ≤ k
  cb : wr.heap[w.heap.size]? = some (cbx c 23)
  us : wr.ownsRow w.heap.size 39 2 v u.length (cellsK u)
  uo : ∀ k ∈ u, Ok k
  t : Touch [] w wr
section
variable {w wr wr' : World} {m : Nat} {c : Cf} {v : Value} {u : List K} {xs ys : List En}
theorem Rs.keep (h : Rs w m c wr v u xs) (t : Touch [] wr wr') : Rs w m c wr' v u xs := by
  obtain ⟨⟨F, h1, h2⟩, cb, us, uo, t0⟩ := h
  exact ⟨⟨F, h1.keep0 t, h2⟩, t.keep cb (by simp), own_touch us t (fun _ _ e => by cases e), uo, t0.trans' t⟩
theorem Rs.step {F : List Nat} (h : Rs w m c wr v u xs) (hm : Mq wr m F c 0 xs) (h2 : ∀ k ∈ F, w.heap.size ≤ k) (hc : Mc wr m F c 0 ys wr') : Rs w m c wr' v u ys ∧ Touch F wr wr' := by
  obtain ⟨F', c1, c2, c3⟩ := hc
  refine ⟨⟨⟨F', c1, fun k hk => (c3 k hk).elim (h2 k) (fun e => Nat.le_trans h.t.size e)⟩, c2.keep h.cb (hm.away h.cb (by decide) (by decide) (by decide)), own_touch h.us c2 (fun b hb => ?_), h.uo, h.t.trans c2 (fun i hi => Or.inr (h2 i hi))⟩, c2⟩
  obtain ⟨cs, hcs⟩ := own_kind h.us hb
  exact hm.away hcs (by decide) (by decide) (by decide)
end
def abx (a : ActM) : Obj := .cells #[.int .i64 a.kd, .int .i64 a.st, .int .i64 a.od, .int .u16 a.k.1, .string a.k.2, .int .i64 a.o.1, .int .i64 a.o.2.1, .int .i64 a.o.2.2.1, .int .i64 a.o.2.2.2] 45
structure A9 (w : World) (r : Nat) (a : ActM) : Prop where
  c0 : w.cell? ⟨r, 0, none⟩ = some (.int .i64 a.kd)
  c1 : w.cell? ⟨r, 1, none⟩ = some (.int .i64 a.st)
  c2 : w.cell? ⟨r, 2, none⟩ = some (.int .i64 a.od)
  c3 : w.cell? ⟨r, 3, none⟩ = some (.int .u16 a.k.1)
  c4 : w.cell? ⟨r, 4, none⟩ = some (.string a.k.2)
  c5 : w.cell? ⟨r, 5, none⟩ = some (.int .i64 a.o.1)
  c6 : w.cell? ⟨r, 6, none⟩ = some (.int .i64 a.o.2.1)
  c7 : w.cell? ⟨r, 7, none⟩ = some (.int .i64 a.o.2.2.1)
  c8 : w.cell? ⟨r, 8, none⟩ = some (.int .i64 a.o.2.2.2)
theorem A9.mk' {w : World} {r : Nat} {a : ActM} (hh : w.heap[r]? = some (abx a)) : A9 w r a := by
  unfold abx at hh
  constructor <;> simp [World.cell?, hh]
/-- What an act's call leaves: whether it was a use. -/
def RsQ (w : World) (m : Nat) (c : Cf) (e : Nat) (v : Value) (u : List K) (k : K) (B : Bool) (w5 : World) : Prop := ∃ ys, Rs w m c w5 v u ys ∧ Rv e (if B then u ++ [k] else u) ys
theorem tick00 : tickE 0 0 = 0 := by decide
section
variable {w wr : World} {m e : Nat} {c : Cf} {v : Value} {u : List K} {xs : List En}
theorem Rs.len (h : Rs w m c wr v u xs) (he : c.e = (e : Int)) : xs.length ≤ e := by
  obtain ⟨⟨F, h1, h2⟩, cb, us, uo, t0⟩ := h
  have := h1.gd.ln
  omega
theorem Rs.tell (h : Rs w m c wr v u xs) (hv : Rv e u xs) (he : c.e = (e : Int)) (ht : c.t = MT) (k : K) (ok : Ok k) {r : Nat} {ob : Obj} (hr : wr.heap[r]? = some ob) (hrt : ∃ cs, ob = .cells cs 45 (0, 0)) :
    Calls Try.prog 22 #[PT m, .int .i64 0, kv k] wr fun x w5 => ∃ sh sa so E, x = .returned (.tuple #[sv sh sa so, .int .i64 E]) ∧ RsQ w m c e v u k (decide (sh = 1)) w5 ∧ w5.heap[r]? = some ob := by
  have hl := h.len he
  obtain ⟨F, h1, h2⟩ := h.mq
  obtain ⟨cs, rfl⟩ := hrt
  refine (tellM wr m F c 0 0 xs h1 k ok).mono ?_
  rintro x w5 ⟨rfl, hc⟩
  have hN : askN 0 0 k = 0 := by unfold askN; split <;> rfl
  rw [hN] at hc
  obtain ⟨s1, s2⟩ := h.step h1 h2 hc
  refine ⟨_, _, _, _, rfl, ⟨_, s1, ?_⟩, s2.keep hr (h1.away hr (by decide) (by decide) (by decide))⟩
  unfold tellX
  by_cases hk : askE 0 0 k = 0
  · unfold askR
    rw [if_pos hk]
    unfold lookS
    cases hf : fnd xs k with
    | none =>
      simp only [isUse]
      exact hv
    | some x =>
      obtain ⟨q1, q2, q3⟩ := h1.gd.ok _ (fnd_mem hf)
      have kd := hv.kd _ (fnd_mem hf)
      simp only at q2 q3 kd
      have hh : howC c x.1 (0 - x.2) = 1 := by
        unfold howC
        rw [if_pos kd, if_pos (by rw [ht]; unfold MT; omega)]
      simp only [hh, isUse]
      unfold useX
      rw [hf]
      have hx : k ∈ keysL xs := by
        by_cases e : k ∈ keysL xs
        · exact e
        · rw [fnd_none e] at hf; cases hf
      refine hv.use ?_ hl ?_ (fun y hy => ?_)
      · have := List.length_pos_of_mem hx
        rw [keysL_len] at this
        omega
      · have hlen := putY_len' h1.nd hf
        have hb : useB (e : Int) (keysL xs) k = false := by
          unfold useB
          rw [← putY_keys xs k x, keysL_len, hlen]
          simp only [decide_eq_false_iff_not]
          omega
        show keysL (putY xs k x) = _
        rw [putY_keys]
        unfold useL
        rw [hb]
        rfl
      · rcases mem_putY hy with e | e
        · exact hv.kd y e
        · rw [e]; exact kd
  · unfold askR
    rw [if_neg hk]
    simp only [isUse]
    exact hv
theorem Rs.keepA (h : Rs w m c wr v u xs) (hv : Rv e u xs) (he : c.e = (e : Int)) (ht : c.t = MT) (k : K) (ok : Ok k) (z : Int) {r : Nat} {ob : Obj} (hr : wr.heap[r]? = some ob) (hrt : ∃ cs, ob = .cells cs 45 (0, 0)) :
    Calls Try.prog 18 #[PT m, .int .i64 0, kv k, ov (z, 0, 0, 0)] wr fun x w5 => ∃ B uu E, x = .returned (.tuple #[.bool B, uu, .int .i64 E]) ∧ RsQ w m c e v u k B w5 ∧ w5.heap[r]? = some ob := by
  have hl := h.len he
  obtain ⟨F, h1, h2⟩ := h.mq
  obtain ⟨cs, rfl⟩ := hrt
  refine (keepM wr m F c 0 0 xs h1 k ok (z, 0, 0, 0)).mono ?_
  rintro x w5 ⟨uu, rfl, _, hc⟩
  have hN : kpN 0 0 k (z, 0, 0, 0) = 0 := by unfold kpN; split <;> rfl
  rw [hN] at hc
  obtain ⟨s1, s2⟩ := h.step h1 h2 hc
  refine ⟨_, _, _, rfl, ⟨_, s1, ?_⟩, s2.keep hr (h1.away hr (by decide) (by decide) (by decide))⟩
  unfold kpX
  cases hB : kpB c 0 0 k (z, 0, 0, 0) with
  | false =>
    simp only [Bool.false_eq_true, if_false]
    exact hv
  | true =>
    simp only [if_true]
    have h0 : 0 < e := by
      unfold kpB keepsC at hB
      simp only [Bool.and_eq_true] at hB
      by_cases e0 : c.e = 0
      · rw [if_pos e0] at hB; cases hB.2
      · omega
    refine hv.use h0 hl ?_ (fun y hy => ?_)
    · rw [putL_keys, he]
    · rcases mem_putL hy with e | e
      · exact hv.kd y e
      · rw [e]
theorem Rs.get (h : Rs w m c wr v u xs) (k : K) (ok : Ok k) (hk : k ∈ keysL xs) : Calls Try.prog 24 #[PT m, kv k] wr fun x w5 => ∃ z0 z1 z2 z3 z4 z5 z6, x = .returned (.tuple #[.agg #[.int .u16 z0, .string z1, .int .i64 z2, .int .i64 z3, .int .i64 z4, .int .i64 z5, .int .i64 z6], .bool true]) ∧ Touch [] wr w5 := by
  obtain ⟨F, h1, h2⟩ := h.mq
  refine (getM wr m F c 0 xs h1 k ok).mono ?_
  rintro x w5 ⟨rfl, t⟩
  obtain ⟨x, hx, _⟩ := fnd_some hk
  unfold getS
  rw [hx]
  exact ⟨_, _, _, _, _, _, _, rfl, t⟩
theorem Rs.lenA (h : Rs w m c wr v u xs) : Calls Try.prog 19 #[PT m] wr fun x w5 => x = .returned (.int .i64 (xs.length : Int)) ∧ w5 = wr := by
  obtain ⟨F, h1, h2⟩ := h.mq
  obtain ⟨b, o, G, rfl, h1⟩ := h1
  exact len19 wr m b o G c 0 xs h1
end
/-- Uses with one more. -/
theorem Rs.push {w wr w5 : World} {m : Nat} {c : Cf} {v v' : Value} {u : List K} {xs : List En} {k : K} (h : Rs w m c wr v u xs) (ok : Ok k) (ho : w5.ownsRow w.heap.size 39 2 v' (u.length + 1) (cellsK u ++ [.int .u16 k.1, .string k.2])) (ht : Touch v.ownBlock.toList wr w5) : Rs w m c w5 v' (u ++ [k]) xs := by
  obtain ⟨⟨F, h1, h2⟩, cb, us, uo, t0⟩ := h
  have hb : ∀ b, b ∈ v.ownBlock.toList → w.heap.size ≤ b ∧ ∃ cs, wr.heap[b]? = some (.cells cs 39 (0, 0)) := fun b hb => by
    have hb' : v.ownBlock = some b := by simpa using hb
    exact ⟨(us.lt b hb').1, own_kind us hb'⟩
  refine ⟨⟨F, h1.keep ht (fun k hk hh => ?_), h2⟩, ht.keep cb (fun hh => ?_), ?_, fun x hx => ?_, t0.trans ht (fun i hi => Or.inr (hb i hi).1)⟩
  · obtain ⟨_, cs, hcs⟩ := hb k hh
    exact h1.away hcs (by decide) (by decide) (by decide) hk
  · obtain ⟨_, cs, hcs⟩ := hb _ hh
    rw [cb] at hcs
    unfold cbx at hcs
    simp at hcs
  · rw [cellsK_app, List.length_append]
    exact ho
  · rcases List.mem_append.1 hx with e | e
    · exact uo x e
    · simp only [List.mem_singleton] at e
      rw [e]; exact ok
end Go.Proofs.Ytopepalpmkeffaa
