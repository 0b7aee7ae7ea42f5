/- The program's ready ones and the document's side by side, as a law keeps them, and what stays when either goes on; no conditions. -/
import Derived.Test.YthpkkfmphoopnaaJdp
import Derived.Test.YthpkkfmphoopnaaJld
import Derived.Test.YthpkkfmphoopnaaJop
namespace Go.Proofs.Ythpkkfmphoopnaa.Re
open Go.RowKit Go.Maps Go.ChangeMaps
set_option linter.unusedVariables false
set_option linter.unusedSimpArgs false
def Ap (v : Value) (xs : List Int) (F : List Nat) : Prop := 0 < xs.length → ∀ q, v.ownBlock = some q → ¬ q ∈ F
theorem Rq.notin {w : World} {b N g : Nat} {F : List Nat} {S : Rz} {cs : Array Value} {ty : TypeId} {fr : Nat × Nat} (h : Rq w b F S N) (hg : w.heap[g]? = some (.cells cs ty fr)) (h3 : ty ≠ 3) (h4 : ty ≠ 59) : ¬ g ∈ F := fun e => by
  obtain ⟨v, u, m, t, rfl, h1, h2⟩ := h
  rcases mem_fpR.1 e with r | r | r | r | r
  · rw [r, h1.hb] at hg
    simp only [Option.some.injEq, Obj.cells.injEq] at hg
    exact h4 hg.2.1.symm
  · exact ow_ne h1.pk hg h3 r
  · exact ow_ne h1.ln hg h3 r
  · exact mp_ne h1.mp hg r
  · exact ow_ne h1.tl hg h3 r
structure Lv (w : World) (M b N : Nat) (F : List Nat) (S D : Rz) (p l t : Value) (wx : World) : Prop where
  rq : Rq wx b F S N
  d : Dm wx D p l t
  ap : Ap p (D.pk.drop D.tl.length) (M :: F)
  al : Ap l D.ln (M :: F)
  at_ : Ap t D.tl (M :: F)
  fl : ∀ q, q ∈ F → w.heap.size ≤ q
  ml : w.heap.size ≤ M
  mx : M < wx.heap.size
  iv : Iv D N
  t : Touch [] w wx
section
variable {w wx w2 w3 : World} {M b N K : Nat} {F : List Nat} {S D T E : Rz} {p l t p' l' t' : Value}
theorem Lv.keep0 (h : Lv w M b N F S D p l t wx) (X : Touch [] wx w2) : Lv w M b N F S D p l t w2 :=
  ⟨h.rq.keep0 X, h.d.keep0 X, h.ap, h.al, h.at_, h.fl, h.ml, Nat.lt_of_lt_of_le h.mx X.size, h.iv, h.t.trans' X⟩
theorem Lv.mono (h : Lv w M b N F S D p l t wx) (hK : N ≤ K) : Lv w M b K F S D p l t wx :=
  ⟨h.rq.mono hK, h.d, h.ap, h.al, h.at_, h.fl, h.ml, h.mx, h.iv.mono hK, h.t⟩
theorem ap_step {v : Value} {xs : List Int} {F' : List Nat} (h : Ap v xs (M :: F)) (hr : Ra wx v xs) (hn : Nf wx F F') : Ap v xs (M :: F') := fun hp q hq e => by
  rcases List.mem_cons.1 e with e | e
  · exact h hp q hq (by rw [e]; exact List.mem_cons_self)
  · rcases hn q e with r | r
    · exact h hp q hq (List.mem_cons_of_mem _ r)
    · have := hr.blt hp hq; omega
theorem Lv.prog (h : Lv w M b N F S D p l t wx) (hE : RqE wx w2 b F T K) (hK : N ≤ K) : ∃ F', Lv w M b K F' T D p l t w2 ∧ Touch F wx w2 := by
  obtain ⟨F', q1, q2, q3⟩ := hE
  have k1 : ∀ v xs, Ap v xs (M :: F) → Ra wx v xs → Ra w2 v xs := fun v xs a r => r.keep q2 (fun hp q hq e => a hp q hq (List.mem_cons_of_mem _ e))
  refine ⟨F', ⟨q1, ⟨k1 _ _ h.ap h.d.p, k1 _ _ h.al h.d.l, k1 _ _ h.at_ h.d.t⟩, ap_step h.ap h.d.p q3, ap_step h.al h.d.l q3, ap_step h.at_ h.d.t q3, fun q hq => ?_, h.ml, Nat.lt_of_lt_of_le h.mx q2.size, h.iv.mono hK, h.t.trans q2 (fun q hq => Or.inr (h.fl q hq))⟩, q2⟩
  have := h.t.size
  rcases q3 q hq with e | e
  · exact h.fl q e
  · omega
theorem ap_doc {v v' : Value} {xs xs' : List Int} (h : Ap v xs (M :: F)) (hu : Un wx v xs v' xs') (hF : ∀ q, q ∈ M :: F → q < wx.heap.size) : Ap v' xs' (M :: F) := fun hp q hq e => by
  rcases hu with ⟨e1, e2⟩ | e1
  · exact h (e2 hp) q (by rw [← e1]; exact hq) e
  · have := e1 q hq
    have := hF q e
    omega
theorem Lv.doc (h : Lv w M b N F S D p l t wx) (hE : DE wx w2 D E p l t p' l' t') (hi : Iv E N) : Lv w M b N F S E p' l' t' w2 := by
  have hF : ∀ q, q ∈ M :: F → q < wx.heap.size := fun q hq => by
    rcases List.mem_cons.1 hq with e | e
    · rw [e]; exact h.mx
    · exact h.rq.lt q e
  exact ⟨h.rq.keep0 hE.T, hE.d, ap_doc h.ap hE.up hF, ap_doc h.al hE.ul hF, ap_doc h.at_ hE.ut hF, h.fl, h.ml, Nat.lt_of_lt_of_le h.mx hE.T.size, hi, h.t.trans' hE.T⟩
theorem Lv.store (h : Lv w M b N F S D p l t wx) {c : Array Value} (hm : wx.heap[M]? = some (.cells c 32 (0, 0))) (T : Touch [M] wx w2) : Lv w M b N F S D p l t w2 := by
  have hn := h.rq.notin hm (by decide) (by decide)
  have k1 : ∀ v xs, Ap v xs (M :: F) → Ra wx v xs → Ra w2 v xs := fun v xs a r => r.keep T (fun hp q hq e => a hp q hq (by simp only [List.mem_singleton] at e; rw [e]; exact List.mem_cons_self))
  exact ⟨h.rq.keep T (fun q hq e => by simp only [List.mem_singleton] at e; rw [e] at hq; exact hn hq), ⟨k1 _ _ h.ap h.d.p, k1 _ _ h.al h.d.l, k1 _ _ h.at_ h.d.t⟩, h.ap, h.al, h.at_, h.fl, h.ml, Nat.lt_of_lt_of_le h.mx T.size, h.iv, h.t.trans T (fun q hq => Or.inr (by simp only [List.mem_singleton] at hq; rw [hq]; exact h.ml))⟩
/-- A box of the law's stays at a step of the program's. -/
theorem Lv.box (h : Lv w M b N F S D p l t wx) (T : Touch F wx w2) {g : Nat} {c : Array Value} {ty : TypeId} (hg : wx.heap[g]? = some (.cells c ty (0, 0))) (h3 : ty ≠ 3) (h4 : ty ≠ 59) : w2.heap[g]? = some (.cells c ty (0, 0)) :=
  T.keep hg (h.rq.notin hg h3 h4)
theorem Lv.pick (h : Lv w M b N F S D p l t wx) (hN : N ≤ 8796093022207) : Calls Try.prog 11 #[PT b] wx fun e w2 => e = .returned (.tuple #[.int .i64 (pickV S), .bool (someB S)]) ∧ ∃ F', Lv w M b (N + 1) F' (pickS S) D p l t w2 ∧ Touch F wx w2 := by
  refine (pick_ h.rq (by omega)).mono ?_
  rintro e w2 ⟨rfl, q⟩
  exact ⟨rfl, h.prog q (Nat.le_succ N)⟩
theorem Lv.rest (h : Lv w M b N F S D p l t wx) (x : Int) (hx : W64 x) : Calls Try.prog 14 #[PT b, .int .i64 x] wx fun e w2 => e = .returned (.bool (decide (x ∈ S.ln))) ∧ ∃ F', Lv w M b N F' (restS S x) D p l t w2 ∧ Touch F wx w2 := by
  refine (rest_ h.rq x hx).mono ?_
  rintro e w2 ⟨rfl, q⟩
  exact ⟨rfl, h.prog q (Nat.le_refl N)⟩
theorem Lv.wake (h : Lv w M b N F S D p l t wx) (x : Int) (hx : W64 x) : Calls Try.prog 18 #[PT b, .int .i64 x] wx fun e w2 => e = .returned (.int .i64 (wakeE S x)) ∧ ∃ F', Lv w M b N F' (wakeS S x) D p l t w2 ∧ Touch F wx w2 := by
  refine (wake_ h.rq x hx).mono ?_
  rintro e w2 ⟨rfl, q⟩
  exact ⟨rfl, h.prog q (Nat.le_refl N)⟩
theorem Lv.dpick (h : Lv w M b N F S D p l t wx) (hN : N ≤ 8796093022207) (hi : Iv (pickS D) N) : Calls Try.prog 12 #[dvv D p l t] wx fun e w2 => ∃ p' l' t', e = .returned (.tuple #[dvv (pickS D) p' l' t', .int .i64 (pickV D), .bool (someB D)]) ∧ SlF p' ∧ SlF l' ∧ SlF t' ∧ Touch [] wx w2 ∧ Lv w M b N F S (pickS D) p' l' t' w2 := by
  refine (dpick_ h.d h.iv (by omega)).mono ?_
  rintro e w2 ⟨p', l', t', rfl, f1, f2, f3, q⟩
  exact ⟨p', l', t', rfl, f1, f2, f3, q.T, h.doc q hi⟩
theorem Lv.dwake (h : Lv w M b N F S D p l t wx) (x : Int) (hx : W64 x) : Calls Try.prog 19 #[dvv D p l t, .int .i64 x] wx fun e w2 => ∃ l', e = .returned (.tuple #[dvv (wakeS D x) p l' t, .int .i64 (wakeE D x)]) ∧ SlF l' ∧ Touch [] wx w2 ∧ Lv w M b N F S (wakeS D x) p l' t w2 := by
  refine (dwake_ h.d h.iv.l1 x).mono ?_
  rintro e w2 ⟨l', rfl, f2, q⟩
  exact ⟨l', rfl, f2, q.T, h.doc q (h.iv.wake hx)⟩
theorem Lv.drest (h : Lv w M b N F S D p l t wx) (i : Nat) (hi : i < D.ln.length) : Calls Try.prog 15 #[dvv D p l t, .int .i64 (i : Int)] wx fun e w2 => ∃ l', e = .returned (dvv (outS D i) p l' t) ∧ SlF l' ∧ Touch [] wx w2 ∧ Lv w M b N F S (outS D i) p l' t w2 := by
  refine (drest_ h.d h.iv.l1 i hi).mono ?_
  rintro e w2 ⟨l', rfl, f2, q⟩
  exact ⟨l', rfl, f2, q.T, h.doc q (h.iv.out i)⟩
end
end Go.Proofs.Ythpkkfmphoopnaa.Re
