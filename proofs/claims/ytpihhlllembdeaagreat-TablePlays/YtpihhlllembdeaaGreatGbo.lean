/- The program's table and the document's, side by side: one plain state, memory apart. -/
import Derived.Test.YtpihhlllembdeaaGreatDbe
import Derived.Test.YtpihhlllembdeaaGreatTbb
import Derived.Test.YtpihhlllembdeaaGreatTbe
namespace Go.Proofs.YtpihhlllembdeaaGreat
open Go.RowKit Go.Maps Go.ChangeMaps
set_option linter.unusedVariables false
structure Bo (w : World) (t : Nat) (F : List Nat) (lv gv : Value) (ds : List De) (gs : List (K × Int)) (T : Tb) (N : Nat) : Prop where
  tq : Tq w t F T N
  dt : Dt w lv gv ds gs T
  ap : ∀ b, b ∈ fpD lv gv ds → ¬ b ∈ F
  gl : gs.length ≤ N
  hN : N ≤ 1700000000000
def BoE (w w' : World) (t : Nat) (F : List Nat) (lv gv : Value) (ds : List De) (lv' gv' : Value) (gs' : List (K × Int)) (T' : Tb) (N : Nat) : Prop := ∃ F' ds', Bo w' t F' lv' gv' ds' gs' T' N ∧ Touch F w w' ∧ Nf w F F' ∧ ∀ b, b ∈ fpD lv' gv' ds' → b ∈ fpD lv gv ds ∨ w.heap.size ≤ b
section
variable {w w1 w2 w' : World} {t : Nat} {F G : List Nat} {lv gv lv' gv' : Value} {ds : List De} {gs gs' : List (K × Int)} {T T' : Tb} {N N' : Nat}
theorem Tq.who (h : Tq w t F T N) : ∀ p ∈ T.rs, p.2.who.length ≤ N := fun p hp => by
  obtain ⟨a, c, g, nc, ng, Ps, rfl, hm, hL⟩ := h
  rw [hm.rs] at hp
  unfold rsOf at hp
  obtain ⟨q, hq, rfl⟩ := List.mem_map.1 hp
  exact (hm.recs q hq).wlen
theorem Bo.dg (h : Bo w t F lv gv ds gs T N) : Dg w lv gv ds gs T N := ⟨h.dt, h.tq.iv, h.tq.live, h.tq.who, h.gl, h.hN⟩
theorem Bo.keep (h : Bo w t F lv gv ds gs T N) (X : Touch G w w') (h1 : ∀ d, d ∈ F → ¬ d ∈ G) (h2 : ∀ d, d ∈ fpD lv gv ds → ¬ d ∈ G) : Bo w' t F lv gv ds gs T N := ⟨h.tq.keep X h1, h.dt.keep X h2, h.ap, h.gl, h.hN⟩
theorem Bo.keep0 (h : Bo w t F lv gv ds gs T N) (X : Touch [] w w') : Bo w' t F lv gv ds gs T N := h.keep X (fun _ _ e => by cases e) (fun _ _ e => by cases e)
/-- The program's step, and then the document's. -/
theorem Bo.step (h : Bo w t F lv gv ds gs T N) (e : TqE w w1 t F T' N') (d : DtE w1 w2 lv gv ds lv' gv' gs' T') (hg : gs'.length ≤ N') (hN : N' ≤ 1700000000000) : BoE w w2 t F lv gv ds lv' gv' gs' T' N' := by
  obtain ⟨F', q, t1, nf⟩ := e
  obtain ⟨ds', dt', t2, fr⟩ := d
  refine ⟨F', ds', ⟨q.keep0 t2, dt', fun b hb hb' => ?_, hg, hN⟩, t1.trans t2 (fun _ e => by cases e), nf, fun b hb => ?_⟩
  · rcases fr b hb with e | e
    · rcases nf b hb' with k | k
      · exact h.ap b e k
      · exact absurd (h.dt.lt b e) (by omega)
    · exact absurd (q.lt b hb') (by omega)
  · rcases fr b hb with e | e
    · exact Or.inl e
    · exact Or.inr (Nat.le_trans t1.size e)
/-- The document's step, and then the program's. -/
theorem Bo.step' (h : Bo w t F lv gv ds gs T N) (d : DtE w w1 lv gv ds lv' gv' gs' T') (e : TqE w1 w2 t F T' N') (hg : gs'.length ≤ N') (hN : N' ≤ 1700000000000) : BoE w w2 t F lv gv ds lv' gv' gs' T' N' := by
  obtain ⟨F', q, t1, nf⟩ := e
  obtain ⟨ds', dt', t2, fr⟩ := d
  have ap1 : ∀ b, b ∈ fpD lv' gv' ds' → ¬ b ∈ F := fun b hb hb' => by
    rcases fr b hb with e | e
    · exact h.ap b e hb'
    · exact absurd (h.tq.lt b hb') (by omega)
  refine ⟨F', ds', ⟨q, dt'.keep t1 ap1, fun b hb hb' => ?_, hg, hN⟩, (t2.mono (fun _ e => by cases e)).trans' t1, (Nf.refl w F).trans nf t2.size, fr⟩
  rcases nf b hb' with k | k
  · exact ap1 b hb k
  · exact absurd (dt'.lt b hb) (by omega)
end
end Go.Proofs.YtpihhlllembdeaaGreat
/- Both tables in the midst of an act: the program's state and the document's, boxes laid since V, what the act began with at w. -/
namespace Go.Proofs.YtpihhlllembdeaaGreat
open Go.RowKit Go.Maps Go.ChangeMaps
set_option linter.unusedVariables false
def BoV (w V cur : World) (t : Nat) (F : List Nat) (lv gv : Value) (ds : List De) (lv' gv' : Value) (ds' : List De) (gs' : List (K × Int)) (Tp Td : Tb) (N : Nat) (F' : List Nat) : Prop :=
  Tq cur t F' Tp N ∧ Nf V F F' ∧ Dt cur lv' gv' ds' gs' Td ∧ (∀ b, b ∈ fpD lv' gv' ds' → ¬ b ∈ F' ∧ (b ∈ fpD lv gv ds ∨ V.heap.size ≤ b)) ∧ Touch F w cur ∧ (∀ d, d ∈ F → d < w.heap.size) ∧ (∀ d, d ∈ fpD lv gv ds → d < w.heap.size) ∧ w.heap.size ≤ V.heap.size
section
variable {w V cur new : World} {t : Nat} {F F' : List Nat} {lv gv lv' gv' lv2 gv2 : Value} {ds ds' : List De} {gs gs' gs2 : List (K × Int)} {T Tp Td Tp' Td' : Tb} {N N' : Nat}
theorem Bo.init (h : Bo w t F lv gv ds gs T N) (X : Touch [] w V) : BoV w V V t F lv gv ds lv gv ds gs T T N F :=
  ⟨h.tq.keep0 X, Nf.refl _ _, h.dt.keep0 X, fun b hb => ⟨h.ap b hb, Or.inl hb⟩, X.mono (fun _ e => by cases e), h.tq.lt, h.dt.lt, X.size⟩
theorem BoV.then0 (h : BoV w V cur t F lv gv ds lv' gv' ds' gs' Tp Td N F') (X : Touch [] cur new) : BoV w V new t F lv gv ds lv' gv' ds' gs' Tp Td N F' := by
  obtain ⟨h1, h2, h3, h4, h5, h6⟩ := h
  exact ⟨h1.keep0 X, h2, h3.keep0 X, h4, h5.trans X (fun _ e => by cases e), h6⟩
/-- A box is written. -/
theorem BoV.box (h : BoV w V cur t F lv gv ds lv' gv' ds' gs' Tp Td N F') {b : Nat} (X : Touch [b] cur new) (h0 : w.heap.size ≤ b) (h1 : b < V.heap.size) : BoV w V new t F lv gv ds lv' gv' ds' gs' Tp Td N F' := by
  obtain ⟨q1, q2, q3, q4, q5, q6, q7, q8⟩ := h
  refine ⟨q1.keep X (fun d hd e => ?_), q2, q3.keep X (fun d hd e => ?_), q4, q5.trans X (fun d hd => Or.inr ?_), q6, q7, q8⟩
  · simp only [List.mem_singleton] at e
    subst e
    rcases q2 d hd with k | k
    · have := q6 d k; omega
    · omega
  · simp only [List.mem_singleton] at e
    subst e
    rcases (q4 d hd).2 with k | k
    · have := q7 d k; omega
    · omega
  · simp only [List.mem_singleton] at hd
    omega
/-- A step of the program's. -/
theorem BoV.prog (h : BoV w V cur t F lv gv ds lv' gv' ds' gs' Tp Td N F') (hV : V.heap.size ≤ cur.heap.size) (e : TqE cur new t F' Tp' N') : ∃ F2, BoV w V new t F lv gv ds lv' gv' ds' gs' Tp' Td N' F2 := by
  obtain ⟨q1, q2, q3, q4, q5, q6, q7, q8⟩ := h
  obtain ⟨F2, a1, a2, a3⟩ := e
  refine ⟨F2, a1, fun d hd => ?_, q3.keep a2 (fun b hb => (q4 b hb).1), fun b hb => ⟨fun hb' => ?_, (q4 b hb).2⟩, q5.trans a2 (fun d hd => ?_), q6, q7, q8⟩
  · rcases a3 d hd with k | k
    · exact q2 d k
    · exact Or.inr (Nat.le_trans hV k)
  · rcases a3 b hb' with k | k
    · exact (q4 b hb).1 k
    · have := q3.lt b hb; omega
  · rcases q2 d hd with k | k
    · exact Or.inl k
    · exact Or.inr (Nat.le_trans q8 k)
/-- A step of the document's. -/
theorem BoV.doc (h : BoV w V cur t F lv gv ds lv' gv' ds' gs' Tp Td N F') (hV : V.heap.size ≤ cur.heap.size) (e : DtE cur new lv' gv' ds' lv2 gv2 gs2 Td') : ∃ ds2, BoV w V new t F lv gv ds lv2 gv2 ds2 gs2 Tp Td' N F' := by
  obtain ⟨q1, q2, q3, q4, q5, q6, q7, q8⟩ := h
  obtain ⟨ds2, a1, a2, a3⟩ := e
  refine ⟨ds2, q1.keep0 a2, q2, a1, fun b hb => ?_, q5.trans a2 (fun _ e => by cases e), q6, q7, q8⟩
  rcases a3 b hb with k | k
  · exact q4 b k
  · exact ⟨fun hb' => by have := q1.lt b hb'; omega, Or.inr (Nat.le_trans hV k)⟩
theorem BoV.fin (h : BoV w V cur t F lv gv ds lv' gv' ds' gs' T T N F') (hg : gs'.length ≤ N) (hN : N ≤ 1700000000000) : BoE w cur t F lv gv ds lv' gv' gs' T N := by
  obtain ⟨q1, q2, q3, q4, q5, q6, q7, q8⟩ := h
  refine ⟨F', ds', ⟨q1, q3, fun b hb => (q4 b hb).1, hg, hN⟩, q5, fun d hd => ?_, fun b hb => ?_⟩
  · rcases q2 d hd with k | k
    · exact Or.inl k
    · exact Or.inr (Nat.le_trans q8 k)
  · rcases (q4 b hb).2 with k | k
    · exact Or.inl k
    · exact Or.inr (Nat.le_trans q8 k)
/-- What the document's functions want, in the midst of an act. -/
theorem BoV.dg (h : BoV w V cur t F lv gv ds lv' gv' ds' gs' Tp Td N F') {M : Nat} (hi : Ti Td M) (hl : Lv Td) (hw : ∀ p ∈ Td.rs, p.2.who.length ≤ M) (hg : gs'.length ≤ M) (hM : M ≤ 1700000000000) : Dg cur lv' gv' ds' gs' Td M := ⟨h.2.2.1, hi, hl, hw, hg, hM⟩
end
end Go.Proofs.YtpihhlllembdeaaGreat
