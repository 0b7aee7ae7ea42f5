/- The law's one: what holds between a client and the law's state, and its first kind; no conditions but those that each states. -/
import Derived.Test.YthakboiecdjgnaaDoorCst
namespace Go.Proofs.YthakboiecdjgnaaDoor.Ci
open Go.RowKit Go.Maps Go.ChangeMaps
set_option linter.unusedVariables false
set_option linter.unusedSimpArgs false
/-- A slot as the client keeps it and as the law does. -/
def SlR (s : Sz) (st ca : Int) (g : Gz) : Prop := (st = 0 ∧ s.ca = 0 ∧ s.fu = false) ∨ (st = 2 ∧ 1 ≤ ca ∧ s.ca = ca ∧ s.fu = false) ∨ (st = 3 ∧ s.ca = 0 ∧ s.fu = true ∧ s.g = g)
structure Rel (S : Cs) (T : Ls) : Prop where
  L : T.L = S.L
  at_ : T.at_ = S.at_
  tok : T.tok = S.tok
  log : T.log = S.log
  sl : ∀ i, i < 16 → SlR (S.sl i) (T.st i) (T.ca i) (T.fu i)
/-- A client in memory, and the law's state by value. -/
structure Iv (B : Nat) (w : World) (b : Nat) (pv lv : Value) (cs : Array Value) (pv2 lv2 : Value) (S : Cs) (T : Ls) : Prop where
  q : Cq w b pv lv S
  s : Sc cs pv2 lv2 T
  r : Rel S T
  p2 : w.ownsRow 0 47 5 pv2 T.L.length (cellsD T.L)
  g2 : w.ownsRow 0 60 7 lv2 T.log.length (cellsG T.log)
  sep : ∀ k, lv.ownBlock = some k → lv2.ownBlock ≠ some k
  bb : B ≤ b
  lb : ∀ k, lv.ownBlock = some k → B ≤ k
section
variable {B b : Nat} {w w' : World} {pv lv pv2 lv2 : Value} {cs : Array Value} {S : Cs} {T : Ls}
theorem Iv.touch (h : Iv B w b pv lv cs pv2 lv2 S T) (t : Touch [] w w') : Iv B w' b pv lv cs pv2 lv2 S T := ⟨h.q.touch t, h.s, h.r, own_touch h.p2 t (by simp), own_touch h.g2 t (by simp), h.sep, h.bb, h.lb⟩
theorem kind_ne {w : World} {k ty e n z : Nat} {c : Array Value} {fr : Nat × Nat} {v : Value} {xs : List Value} {B : Nat} (h : w.ownsRow B e z v n xs) (hb : w.heap[k]? = some (.cells c ty fr)) (hne : e ≠ ty) : ∀ j, v.ownBlock = some j → ¬ j ∈ [k] := fun j hj hm => by
  obtain ⟨cs, h1⟩ := own_kind h hj
  rw [List.mem_singleton.1 hm, hb] at h1
  simp only [Option.some.injEq, Obj.cells.injEq] at h1
  exact hne h1.2.1.symm
theorem Iv.box (h : Iv B w b pv lv cs pv2 lv2 S T) {k : Nat} {c : Array Value} {fr : Nat × Nat} (hb : w.heap[k]? = some (.cells c 63 fr)) (t : Touch [k] w w') : Iv B w' b pv lv cs pv2 lv2 S T := by
  refine ⟨?_, h.s, h.r, own_touch h.p2 t (kind_ne h.p2 hb (by decide)), own_touch h.g2 t (kind_ne h.g2 hb (by decide)), h.sep, h.bb, h.lb⟩
  obtain ⟨cs', h1, h2⟩ := h.q.blk
  refine ⟨⟨cs', t.keep h1 (fun e => ?_), h2⟩, own_touch h.q.pr t (kind_ne h.q.pr hb (by decide)), own_touch h.q.lg t (kind_ne h.q.lg hb (by decide)), h.q.le, h.q.len⟩
  rw [List.mem_singleton.1 e, hb] at h1
  simp at h1
end
/-- What a step ends in. -/
def OnE (e : Ending) (w w' : World) (B b : Nat) (lv : Value) (S : Cs) : Prop := ∃ b' pv' lv' cs' pv2' lv2' S' T', e = .returned (.tuple #[.pointer (some ⟨b', 0, none⟩), .agg cs', .bool true]) ∧ Iv B w' b' pv' lv' cs' pv2' lv2' S' T' ∧ S'.log.length ≤ S.log.length + 1 ∧ S'.L = S.L ∧ Touch (b :: lv.ownBlock.toList) w w'
theorem results_one {fn : Func} {u p v : Tmp} (h : fn.results = #[.tmp u, .cell p 63, .tmp v]) (tmps : Array Value) (w : World) {g : Nat} {c : Array Value} {t : TypeId} {fr : Nat × Nat} (hp : tmps.getD p undef = .pointer (some ⟨g, 0, none⟩)) (hb : w.heap[g]? = some (.cells c t fr)) (hc : c.size = 148) :
    (results fn tmps).run Tryd.prog w = .ok (.tuple #[tmps.getD u undef, .agg c, tmps.getD v undef]) w := by
  have hl : (loadVar 63 ⟨g, 0, none⟩).run Tryd.prog w = .ok (.agg c) w := run_loadVar_row w g t _ c fr _ hb Tryd.underlying63 rfl (by rw [bigS.i, hc])
  have hp' : tmps[p]?.getD undef = .pointer (some ⟨g, 0, none⟩) := by simpa using hp
  simp only [results, h]
  simp [hp', asAddr, hl]
theorem zs_size : Tryd.zeroCells63.size = 148 := by simp [Tryd.zeroCells63]
def actv (k a1 a2 : Int) (g : Gz) : Value := .agg #[.int .i64 k, .int .i64 a1, .int .i64 a2, .int .i64 g.pl, .int .i64 g.ho, .int .i64 g.va, .int .i64 g.kd, .int .i64 g.cd, .int .i64 g.rn, .int .i64 g.tm]
end Go.Proofs.YthakboiecdjgnaaDoor.Ci
