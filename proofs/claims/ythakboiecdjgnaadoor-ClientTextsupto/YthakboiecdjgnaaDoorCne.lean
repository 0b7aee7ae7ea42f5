/- A client that is made, and what is next of it; the conditions: the table holds what the start lays, the program lies in memory. -/
import Derived.Test.YthakboiecdjgnaaDoorCtx
import Derived.Test.YthakboiecdjgnaaDoorRsl
import Derived.Test.YthakboiecdjgnaaDoorHlg
import Derived.Test.YthakboiecdjgnaaDoorHlh
import Derived.Test.YthakboiecdjgnaaDoorAlh
namespace Go.Proofs.YthakboiecdjgnaaDoor.Ci
open Go.RowKit Go.Maps Go.ChangeMaps
set_option linter.unusedVariables false
def cellsD (L : List Dz) : List Value := L.flatMap Dz.cells
theorem cellsD_len (L : List Dz) : (cellsD L).length = L.length * 5 := flat_len Dz.cells_len L
theorem cellsD_at (L : List Dz) (i j : Nat) (h : i < L.length) (hj : j < 5) : (cellsD L)[i * 5 + j]? = L[i].cells[j]? := flat_at Dz.cells_len L i j L[i] (List.getElem?_eq_getElem h) hj
theorem cellsD_one (L : List Dz) : ∀ y ∈ cellsD L, y.oneCell' = true := fun y hy => by
  obtain ⟨d, _, h⟩ := List.mem_flatMap.1 hy
  simp only [Dz.cells, List.mem_cons, List.not_mem_nil, or_false] at h
  rcases h with rfl | rfl | rfl | rfl | rfl <;> rfl
theorem Sl.flat {w : World} {a : Option Addr} {L : List Dz} (h : Sl w a L) (h0 : 0 < L.length) : ∃ b off, a = some ⟨b, off, none⟩ ∧ ∀ j y, (cellsD L)[j]? = some y → w.cell? ⟨b, off + j, none⟩ = some y := by
  obtain ⟨b, off, rfl, _⟩ := h 0 h0
  refine ⟨b, off, rfl, fun j y hy => ?_⟩
  have hj : j < L.length * 5 := by rw [← cellsD_len]; exact (List.getElem?_eq_some_iff.1 hy).1
  obtain ⟨b', off', e, c0, c1, c2, c3, c4⟩ := h (j / 5) (by omega)
  cases e
  rw [show j = j / 5 * 5 + j % 5 by omega, cellsD_at L (j / 5) (j % 5) (by omega) (by omega)] at hy
  rw [show off + j = off + j / 5 * 5 + j % 5 by omega]
  have hm : j % 5 < 5 := by omega
  revert hy
  generalize j % 5 = r at *
  intro hy
  match r, hm with
  | 0, _ => simp [Dz.cells] at hy; rw [← hy]; exact c0
  | 1, _ => simp [Dz.cells] at hy; rw [← hy]; exact c1
  | 2, _ => simp [Dz.cells] at hy; rw [← hy]; exact c2
  | 3, _ => simp [Dz.cells] at hy; rw [← hy]; exact c3
  | 4, _ => simp [Dz.cells] at hy; rw [← hy]; exact c4
theorem sl_own {w : World} {B : Nat} {a : Option Addr} {c : Nat} {L : List Dz} (h : w.ownsRow B 47 5 (.slice a L.length c) L.length (cellsD L)) : Sl w a L := fun i hi => by
  obtain ⟨b, c', e, _, _⟩ := own_some h (by omega)
  cases e
  have q := fun j (hj : j < 5) (y : Value) (hy : L[i].cells[j]? = some y) => own_cell h (p := i * 5 + j) (v := y) (by rw [cellsD_at L i j hi hj]; exact hy)
  exact ⟨b, 0, rfl, by simpa using q 0 (by omega) _ rfl, by simpa using q 1 (by omega) _ rfl, by simpa using q 2 (by omega) _ rfl, by simpa using q 3 (by omega) _ rfl, by simpa using q 4 (by omega) _ rfl⟩
theorem infoD : (Tryd.prog.info? 47).map (fun i => (i.zero, i.size, i.bytes)) = some (some (.agg #[.int .i64 0, .int .u16 0, .string ⟨#[]⟩, .int .i64 0, .int .i64 0]), 5, 48) := by kernel_rfl
section
variable {w : World} {ops : Array Oper} {rest : List Oper} {o : Oper} {a : Act} {Q : Exit → Act → World → Prop}
theorem run_append_emp {P : Program} (base : Nat) (t ty e : TypeId) (i : TypeInfo) (size : Nat) (ht : P.underlying t = some (.slice e)) (hi : P.info? e = some i)
    (v : Value) (n : Nat) (xs : List Value) (hown : w.ownsRow base e size v n xs) (c : Nat) :
    (Builtin.append_ #[t, t] ty #[v, .slice none 0 c]).run P w = .ok v w := by
  rcases hown.2 with ⟨rfl, rfl⟩ | ⟨g, cap, cur, rfl, _, _, hnc, _⟩
  · simp [Builtin.append_, run_underlying ht, sizeOf, typeInfo, hi, Builtin.lenOf, Builtin.firstCells]
  · simp [Builtin.append_, run_underlying ht, sizeOf, typeInfo, hi, Builtin.lenOf, Builtin.firstCells, hnc, storeCells]
/-- A program laid behind an empty row that a call owns. -/
theorem wpList_append_dos (hgd : o.guard = none) (s x : Operand) (ho : o.op = .call { callee := .builtin .append, args := #[s, x], argTypes := #[22, 22] })
    (base : Nat) (v : Value) (hs : a.eval s = v) (hown : w.ownsRow base 47 5 v 0 [])
    (ad : Option Addr) (c : Nat) (L : List Dz) (hx : a.eval x = .slice ad L.length c) (hu : Sl w ad L) (hl : L.length ≤ 1000000000000) (hbase : base ≤ w.heap.size)
    (h : ∀ v' w', w'.ownsRow base 47 5 v' L.length (cellsD L) → w.grownBy w' v.ownBlock → (v'.ownBlock = v.ownBlock ∨ v'.ownBlock = some w.heap.size) → wpList Tryd.prog ops Q rest (a.put o.dst v') w') : wpList Tryd.prog ops Q (o :: rest) a w := by
  obtain ⟨i3, hf, hz0, hz1, hz2⟩ := info_parts infoD
  rcases Nat.eq_zero_or_pos L.length with e0 | e0
  · have eL : L = [] := List.length_eq_zero_iff.1 e0
    subst eL
    cases ad with
    | none =>
      have hrun := run_append_emp (P := Tryd.prog) (w := w) base 22 o.type 47 i3 5 Tryd.underlying22 hf v 0 [] hown c
      refine wpList_plain hgd fun K' hK' => ?_
      unfold Oper.wp
      have hx' : a.eval x = .slice none 0 c := hx
      simp [execOp, ho, resolve, invoke, builtin, hs, hx', hrun, Result.andThen]
      exact hK' _ _ (h v w hown (World.grownBy.refl _ _) (Or.inl rfl))
    | some ad => exact wpList_append_own_at w hgd s x 22 ho base 47 i3 _ 5 48 Tryd.underlying22 hf hz0 hz1 hz2 rfl (by decide) v 0 [] hs hown ad 0 c [] hx rfl (fun j y hy => by simp at hy) (fun y hy => by cases hy) (by unfold maxLen; omega) (by omega) hbase (fun v' w' q1 q2 q3 q4 => h v' w' (by simpa [cellsD] using q1) q2 q4)
  · obtain ⟨b, off, rfl, hc⟩ := hu.flat e0
    refine wpList_append_own_at w hgd s x 22 ho base 47 i3 _ 5 48 Tryd.underlying22 hf hz0 hz1 hz2 rfl (by decide) v 0 [] hs hown ⟨b, off, none⟩ L.length c (cellsD L) hx (cellsD_len L) (fun j y hy => ?_) (cellsD_one L) (by unfold maxLen; omega) (by omega) hbase (fun v' w' q1 q2 q3 q4 => h v' w' (by simpa using q1) q2 q4)
    rw [show (⟨b, off, none⟩ : Addr).add j = ⟨b, off + j, none⟩ by simp [Addr.add]]
    exact hc j y hy
end
theorem own_nil (w : World) (B e k : Nat) : w.ownsRow B e k (.slice none 0 0) 0 [] := ⟨by simp, Or.inl ⟨rfl, rfl⟩⟩
/-- What a client had. -/
structure Gz where
  pl : Int
  ho : Int
  va : Int
  kd : Int
  cd : Int
  rn : Int
  tm : Int
def Gz.cells (g : Gz) : List Value := [.int .i64 g.pl, .int .i64 g.ho, .int .i64 g.va, .int .i64 g.kd, .int .i64 g.cd, .int .i64 g.rn, .int .i64 g.tm]
theorem Gz.cells_len (g : Gz) : g.cells.length = 7 := rfl
def g0 : Gz := ⟨0, 0, 0, 0, 0, 0, 0⟩
def cellsG (L : List Gz) : List Value := L.flatMap Gz.cells
theorem cellsG_len (L : List Gz) : (cellsG L).length = L.length * 7 := flat_len Gz.cells_len L
theorem cellsG_one (L : List Gz) : ∀ y ∈ cellsG L, y.oneCell' = true := fun y hy => by
  obtain ⟨d, _, h⟩ := List.mem_flatMap.1 hy
  simp only [Gz.cells, List.mem_cons, List.not_mem_nil, or_false] at h
  rcases h with rfl | rfl | rfl | rfl | rfl | rfl | rfl <;> rfl
/-- A slot. -/
structure Sz where
  ca : Int
  fu : Bool
  g : Gz
def Sz.cells (s : Sz) : List Value := .int .i64 s.ca :: .bool s.fu :: s.g.cells
def s0 : Sz := ⟨0, false, g0⟩
/-- A client. -/
structure Cs where
  L : List Dz
  at_ : Nat
  tok : Int
  log : List Gz
  sl : Nat → Sz
def newS (L : List Dz) : Cs := ⟨L, 0, 0, [], fun _ => s0⟩
structure Cq (w : World) (b : Nat) (pv lv : Value) (S : Cs) : Prop where
  blk : ∃ cs, w.heap[b]? = some (.cells cs 115 (0, 0)) ∧ cs.size = 148 ∧ cs[0]? = some pv ∧ cs[1]? = some (.int .i64 (S.at_ : Nat)) ∧ cs[2]? = some (.int .i64 S.tok) ∧ cs[3]? = some lv ∧ ∀ i j, i < 16 → j < 9 → cs[4 + i * 9 + j]? = (S.sl i).cells[j]?
  pr : w.ownsRow 0 47 5 pv S.L.length (cellsD S.L)
  lg : w.ownsRow 0 60 7 lv S.log.length (cellsG S.log)
  le : S.at_ ≤ S.L.length
  len : S.L.length ≤ 256
theorem Cq.touch {w w' : World} {b : Nat} {pv lv : Value} {S : Cs} (h : Cq w b pv lv S) (t : Touch [] w w') : Cq w' b pv lv S := by
  obtain ⟨cs, h1, h2⟩ := h.blk
  exact ⟨⟨cs, t.keep h1 (by simp), h2⟩, own_touch h.pr t (by simp), own_touch h.lg t (by simp), h.le, h.len⟩
theorem Cq.c0 {w : World} {b : Nat} {pv lv : Value} {S : Cs} (h : Cq w b pv lv S) : w.cell? ⟨b, 0, none⟩ = some pv := by
  obtain ⟨cs, h1, _, h2, _⟩ := h.blk
  exact cell_at h1 h2
theorem Cq.c1 {w : World} {b : Nat} {pv lv : Value} {S : Cs} (h : Cq w b pv lv S) : w.cell? ⟨b, 1, none⟩ = some (.int .i64 (S.at_ : Nat)) := by
  obtain ⟨cs, h1, _, _, h2, _⟩ := h.blk
  exact cell_at h1 h2
theorem Cq.c2 {w : World} {b : Nat} {pv lv : Value} {S : Cs} (h : Cq w b pv lv S) : w.cell? ⟨b, 2, none⟩ = some (.int .i64 S.tok) := by
  obtain ⟨cs, h1, _, _, _, h2, _⟩ := h.blk
  exact cell_at h1 h2
theorem Cq.c3 {w : World} {b : Nat} {pv lv : Value} {S : Cs} (h : Cq w b pv lv S) : w.cell? ⟨b, 3, none⟩ = some lv := by
  obtain ⟨cs, h1, _, _, _, _, h2, _⟩ := h.blk
  exact cell_at h1 h2
theorem Cq.cs {w : World} {b : Nat} {pv lv : Value} {S : Cs} (h : Cq w b pv lv S) {i j : Nat} {v : Value} (hi : i < 16) (hj : j < 9) (hv : (S.sl i).cells[j]? = some v) : w.cell? ⟨b, 4 + i * 9 + j, none⟩ = some v := by
  obtain ⟨cs, h1, _, _, _, _, _, h2⟩ := h.blk
  exact cell_at h1 ((h2 i j hi hj).trans hv)
theorem Cq.fz {w : World} {b : Nat} {pv lv : Value} {S : Cs} (h : Cq w b pv lv S) (j : Nat) : w.frozen? ⟨b, j, none⟩ = false := by
  obtain ⟨cs, h1, _⟩ := h.blk
  exact froz_at h1 j
theorem Cq.lt {w : World} {b : Nat} {pv lv : Value} {S : Cs} (h : Cq w b pv lv S) : b < w.heap.size := by
  obtain ⟨cs, h1, _⟩ := h.blk
  exact block_lt h1
set_option maxRecDepth 20000 in
theorem cq_new (w : World) (pv : Value) (L : List Dz) (h : w.ownsRow 0 47 5 pv L.length (cellsD L)) (hl : L.length ≤ 256) : Cq (w.alloc (.cells (Tryd.zeroCells115.setIfInBounds 0 pv) 115)) w.heap.size pv (.slice none 0 0) (newS L) := by
  refine ⟨⟨_, heap_alloc_new w _, by simp [Tryd.zeroCells115], ?_, ?_, ?_, ?_, ?_⟩, own_touch h ((Touch.refl [] w).alloc _) (by simp), own_nil _ _ _ _, Nat.zero_le _, hl⟩
  · simp [Tryd.zeroCells115]
  · simp [Tryd.zeroCells115, newS]
  · simp [Tryd.zeroCells115, newS]
  · simp [Tryd.zeroCells115]
  · intro i j hi hj
    have key : ∀ i, i < 16 → ∀ j, j < 9 → (Tryd.zeroCells115)[4 + i * 9 + j]? = s0.cells[j]? := by
      intro i hi j hj
      unfold Tryd.zeroCells115
      rcases (by omega : i = 0 ∨ i = 1 ∨ i = 2 ∨ i = 3 ∨ i = 4 ∨ i = 5 ∨ i = 6 ∨ i = 7 ∨ i = 8 ∨ i = 9 ∨ i = 10 ∨ i = 11 ∨ i = 12 ∨ i = 13 ∨ i = 14 ∨ i = 15) with rfl | rfl | rfl | rfl | rfl | rfl | rfl | rfl | rfl | rfl | rfl | rfl | rfl | rfl | rfl | rfl <;> rcases (by omega : j = 0 ∨ j = 1 ∨ j = 2 ∨ j = 3 ∨ j = 4 ∨ j = 5 ∨ j = 6 ∨ j = 7 ∨ j = 8) with rfl | rfl | rfl | rfl | rfl | rfl | rfl | rfl | rfl <;> rfl
    rw [Array.getElem?_setIfInBounds_ne (by omega)]
    exact key i hi j hj
set_option maxRecDepth 20000 in
set_option maxHeartbeats 1000000 in
theorem new_ok (L : List Dz) (a : Option Addr) (c : Nat) (w : World) (hk : Kd w) (hs : Sl w a L) (hw : Oks L) (hg : Good L) :
    Calls Tryd.prog 17 #[.slice a L.length c] w fun e w' => ∃ b pv, e = .returned (.tuple #[.pointer (some ⟨b, 0, none⟩), .int .i64 0, .int .i64 0]) ∧ Touch [] w w' ∧ w.heap.size ≤ b ∧ (∀ k, pv.ownBlock = some k → w.heap.size ≤ k) ∧ Cq w' b pv (.slice none 0 0) (newS L) := by
  have HC : Hid (Calls Tryd.prog 7 #[.slice a L.length c] w fun e w' => e = .returned (.tuple #[.int .i64 0, .int .i64 0]) ∧ Touch [] w w') := (check_ L a c w hk hs hw (by have := hg.1; omega)).mono fun e w' ⟨he, t⟩ => ⟨by rw [he, chk_fst hg]; rfl, t⟩
  have HS : Hid (Sl w a L ∧ L.length ≤ 256) := ⟨hs, hg.1⟩
  clear hk hs hw hg
  go_enter Tryd.func17, Tryd.ntmps17
  go_wp2_with fail
  refine HC.out.mono ?_
  rintro e w2 ⟨rfl, t2⟩
  have T2 : Hid (Touch [] w w2) := t2
  clear t2 HC
  go_wp2_with (at_builtin; refine wpList_append_dos rfl _ _ rfl w2.heap.size _ rfl (own_nil w2 w2.heap.size _ _) _ _ L rfl (HS.out.1.touch T2.out) (by have := HS.out.2; omega) (Nat.le_refl _) ?_; intro v3 w3 o3 g3 n3; obtain ⟨a3, c3, e3⟩ := own_form o3; subst e3; have HO := hid o3; have T3 : Hid (Touch [] w2 w3) := (Touch.refl [] w2).grown g3 (fun k hk => by cases hk); clear o3 g3 n3)
  go_ret3
  exact ⟨w3.heap.size, _, rfl, (T2.out.trans' T3.out).alloc _, Nat.le_trans T2.out.size T3.out.size, fun k hk => Nat.le_trans T2.out.size (HO.out.lt k hk).1, cq_new w3 _ L (own_base HO.out (Nat.zero_le _)) HS.out.2⟩
theorem new_no (L : List Dz) (a : Option Addr) (c : Nat) (w : World) (hk : Kd w) (hs : Sl w a L) (hw : Oks L) (hl : L.length ≤ 1000000000000000) (hg : ¬ Good L) :
    Calls Tryd.prog 17 #[.slice a L.length c] w fun e w' => e = .returned (.tuple #[.pointer none, .int .i64 (chkZ L).1, .int .i64 (chkZ L).2]) ∧ Touch [] w w' := by
  have HC := hid (check_ L a c w hk hs hw hl)
  have h0 : ((chkZ L).2 != 0) = true := by
    rcases chk_bad hg with h | h <;> rw [h] <;> rfl
  clear hk hs hw hg hl
  generalize (chkZ L).2 = x at *
  generalize (chkZ L).1 = y at *
  go_enter Tryd.func17, Tryd.ntmps17
  go_wp2_with fail
  refine HC.out.mono ?_
  rintro e w2 ⟨rfl, t2⟩
  go_wp2_with fail
  go_ret3
  exact ⟨rfl, t2⟩
theorem set5 {F : List Nat} {w V : World} (t : Touch F w V) {b : Nat} (hb : b ∈ F ∨ w.heap.size ≤ b) (o : Nat) (v0 v1 v2 v3 v4 : Value) : Touch F w (((((V.setCell ⟨b, o, none⟩ v0).setCell ⟨b, o + 1, none⟩ v1).setCell ⟨b, o + 2, none⟩ v2).setCell ⟨b, o + 3, none⟩ v3).setCell ⟨b, o + 4, none⟩ v4) :=
  ((((t.setCell hb _).setCell hb _).setCell hb _).setCell hb _).setCell hb _
theorem set5z {F : List Nat} {w V : World} (t : Touch F w V) {b : Nat} (hb : b ∈ F ∨ w.heap.size ≤ b) (v0 v1 v2 v3 v4 : Value) : Touch F w (((((V.setCell ⟨b, 0, none⟩ v0).setCell ⟨b, 1, none⟩ v1).setCell ⟨b, 2, none⟩ v2).setCell ⟨b, 3, none⟩ v3).setCell ⟨b, 4, none⟩ v4) :=
  ((((t.setCell hb _).setCell hb _).setCell hb _).setCell hb _).setCell hb _
theorem blk5 {W : World} {b t : Nat} {u0 u1 u2 u3 u4 : Value} (h : W.heap[b]? = some (.cells #[u0, u1, u2, u3, u4] t (0, 0))) (v0 v1 v2 v3 v4 : Value) : (((((W.setCell ⟨b, 0, none⟩ v0).setCell ⟨b, 1, none⟩ v1).setCell ⟨b, 2, none⟩ v2).setCell ⟨b, 3, none⟩ v3).setCell ⟨b, 4, none⟩ v4).heap[b]? = some (.cells #[v0, v1, v2, v3, v4] t (0, 0)) := by
  simp [World.setCell, Array.getElem?_modify, h]
theorem results3_5 {fn : Func} {p u v : Tmp} (h : fn.results = #[.cell p 47, .tmp u, .tmp v]) (tmps : Array Value) (w : World) {g : Nat} {v0 v1 v2 v3 v4 : Value} {t : TypeId} {fr : Nat × Nat} (hp : tmps.getD p undef = .pointer (some ⟨g, 0, none⟩)) (hb : w.heap[g]? = some (.cells #[v0, v1, v2, v3, v4] t fr)) :
    (results fn tmps).run Tryd.prog w = .ok (.tuple #[.agg #[v0, v1, v2, v3, v4], tmps.getD u undef, tmps.getD v undef]) w := by
  have hp' : tmps[p]?.getD undef = .pointer (some ⟨g, 0, none⟩) := by simpa using hp
  have c0 := cell_at (j := 0) hb rfl
  have c1 := cell_at (j := 1) hb rfl
  have c2 := cell_at (j := 2) hb rfl
  have c3 := cell_at (j := 3) hb rfl
  have c4 := cell_at (j := 4) hb rfl
  simp only [results, h]
  simp [hp', asAddr, go_sem, c0, c1, c2, c3, c4]
def nextV (S : Cs) : Dz × Int × Bool := match S.L[S.at_]? with | some d => (d, S.at_, true) | none => (d0, 0, false)
theorem next_nil (w : World) : Calls Tryd.prog 19 #[.pointer none] w fun e w' => e = .returned (.tuple #[.agg #[.int .i64 0, .int .u16 0, .string ⟨#[]⟩, .int .i64 0, .int .i64 0], .int .i64 0, .bool false]) ∧ Touch [] w w' := by
  go_enter Tryd.func19, Tryd.ntmps19
  go_wp2
  go_quiet (fail)
  go_wp2
  exact bodyPost_ret (v := .tuple #[.agg #[.int .i64 0, .int .u16 0, .string ⟨#[]⟩, .int .i64 0, .int .i64 0], .int .i64 0, .bool false]) (by simp [results, Tryd.results19, go_sem]) rfl ⟨rfl, set5 (((Touch.refl [] w).alloc _).drewN _) (Or.inr (Nat.le_refl _)) 0 _ _ _ _ _⟩
set_option maxHeartbeats 1000000 in
theorem next_ (w : World) {b : Nat} {pv lv : Value} {S : Cs} (h : Cq w b pv lv S) : Calls Tryd.prog 19 #[.pointer (some ⟨b, 0, none⟩)] w fun e w' => e = .returned (.tuple #[.agg #[.int .i64 (nextV S).1.op, .int .u16 (nextV S).1.sp, .string (nextV S).1.nm, .int .i64 (nextV S).1.n, .int .i64 (nextV S).1.sl], .int .i64 (nextV S).2.1, .bool (nextV S).2.2]) ∧ Touch [] w w' := by
  obtain ⟨a, c, rfl⟩ := own_form h.pr
  have hs := sl_own h.pr
  have hl := h.len
  have hb := h.lt
  rcases Nat.lt_or_ge S.at_ S.L.length with hlt | hge
  · have e1 : nextV S = (S.L[S.at_], (S.at_ : Int), true) := by unfold nextV; rw [List.getElem?_eq_getElem hlt]
    rw [e1]
    obtain ⟨g, off, rfl, d0, d1, d2, d3, d4⟩ := hs S.at_ hlt
    have K1 : ∀ w', Touch [w.heap.size] (w.alloc (.cells #[.int .i64 0, .int .u16 0, .string ⟨#[]⟩, .int .i64 0, .int .i64 0] 47)) w' → ∀ a v, w.cell? a = some v → w'.cell? a = some v := fun w' t a v ha => by
      have hlt := cell_lt ha
      rw [World.cell?_of_block (t.block a.block (by simp; omega) (by simp; omega)), World.cell?_of_block (Below.heap_alloc _ _ _ hlt)]
      exact ha
    have C0 := h.c0
    have C1 := h.c1
    have z1 : ((S.at_ : Int) == (S.L.length : Int)) = false := by simp; omega
    have z2 : (S.at_ : Int) < (S.L.length : Int) := by omega
    clear h hs e1 hl
    generalize S.L[S.at_] = d at *
    clear hlt
    obtain ⟨x0, x1, x2, x3, x4⟩ := d
    dsimp only at *
    generalize S.at_ = k at *
    generalize S.L.length = m at *
    go_enter Tryd.func19, Tryd.ntmps19
    go_wp2
    obtain ⟨V, hV⟩ : ∃ V, V = w.alloc (.cells #[.int .i64 0, .int .u16 0, .string ⟨#[]⟩, .int .i64 0, .int .i64 0] 47) := ⟨_, rfl⟩
    rw [← hV] at K1 ⊢
    have TV := hid (show Touch [] w V by rw [hV]; exact (Touch.refl [] w).alloc _)
    have BV := hid (show V.heap[w.heap.size]? = some (.cells #[.int .i64 0, .int .u16 0, .string ⟨#[]⟩, .int .i64 0, .int .i64 0] 47 (0, 0)) by rw [hV]; exact heap_alloc_new w _)
    clear hV
    obtain ⟨B, hB⟩ : ∃ B, B = w.heap.size := ⟨_, rfl⟩
    have HB : Hid (w.heap.size ≤ B) := Nat.le_of_eq hB.symm
    rw [← hB] at K1 BV ⊢
    clear hB
    have f0 : ∀ w', Touch [B] V w' → w'.cell? ⟨b, 0, none⟩ = some (.slice (some ⟨g, off, none⟩) m c) := fun w' t => K1 w' t _ _ C0
    have f1 : ∀ w', Touch [B] V w' → w'.cell? ⟨b, 1, none⟩ = some (.int .i64 k) := fun w' t => K1 w' t _ _ C1
    have r0 : ∀ w', Touch [B] V w' → w'.cell? ⟨g, off + k * 5, none⟩ = some (.int .i64 x0) := fun w' t => K1 w' t _ _ d0
    have r1 : ∀ w', Touch [B] V w' → w'.cell? ⟨g, off + k * 5 + 1, none⟩ = some (.int .u16 x1) := fun w' t => K1 w' t _ _ d1
    have r2 : ∀ w', Touch [B] V w' → w'.cell? ⟨g, off + k * 5 + 2, none⟩ = some (.string x2) := fun w' t => K1 w' t _ _ d2
    have r3 : ∀ w', Touch [B] V w' → w'.cell? ⟨g, off + k * 5 + 3, none⟩ = some (.int .i64 x3) := fun w' t => K1 w' t _ _ d3
    have r4 : ∀ w', Touch [B] V w' → w'.cell? ⟨g, off + k * 5 + 4, none⟩ = some (.int .i64 x4) := fun w' t => K1 w' t _ _ d4
    clear K1 C0 C1 d0 d1 d2 d3 d4
    have s0 := f0 V (Touch.refl _ _)
    have s1 := f1 V (Touch.refl _ _)
    go_quiet (fail)
    go_wp2
    have B0 := hid (show ((V.drewN nq).drew).heap[B]? = some (.cells #[.int .i64 0, .int .u16 0, .string ⟨#[]⟩, .int .i64 0, .int .i64 0] 47 (0, 0)) from BV.out)
    have T0 := hid (show Touch [] w ((V.drewN nq).drew) from (TV.out.drewN _).drew)
    refine wp_region_H (S := fun w' => Touch [B] V w') (by kernel_rfl) ?_
    have S0 : Touch [B] V ((V.drewN nq).drew) := ((Touch.refl _ _).drewN _).drew
    generalize (V.drewN nq).drew = W0 at *
    clear s0 s1
    have u0 := cell_at (j := 0) B0.out rfl
    have u1 := cell_at (j := 1) B0.out rfl
    have u2 := cell_at (j := 2) B0.out rfl
    have u3 := cell_at (j := 3) B0.out rfl
    have u4 := cell_at (j := 4) B0.out rfl
    have uf := froz_at B0.out
    refine wpH_take (i := 0) (v := (.pointer (some ⟨b, 0, none⟩))) (some 20) rfl rfl (by kernel_rfl) (by kernel_rfl) (by kernel_rfl) (fun _ _ _ h => h) (Or.inl ⟨by rfl, fun w' hS => (by go_simp)⟩) S0 ?_
    try simp only [Go.Act.put, List.setIfInBounds_toArray, List.set_cons_zero, List.set_cons_succ]
    refine wpH_take (i := 1) (v := (.pointer (some ⟨b, 0, none⟩))) (some 21) rfl rfl (by kernel_rfl) (by kernel_rfl) (by kernel_rfl) (fun _ _ _ h => h) (Or.inl ⟨by rfl, fun w' hS => (by go_simp)⟩) S0 ?_
    try simp only [Go.Act.put, List.setIfInBounds_toArray, List.set_cons_zero, List.set_cons_succ]
    refine wpH_take (i := 2) (v := (.pointer (some ⟨b, 0, none⟩))) (some 22) rfl rfl (by kernel_rfl) (by kernel_rfl) (by kernel_rfl) (fun _ _ _ h => h) (Or.inl ⟨by rfl, fun w' hS => (by go_simp)⟩) S0 ?_
    try simp only [Go.Act.put, List.setIfInBounds_toArray, List.set_cons_zero, List.set_cons_succ]
    refine wpH_take (i := 3) (v := (.slice (some ⟨g, off, none⟩) m c)) (some 23) rfl rfl (by kernel_rfl) (by kernel_rfl) (by kernel_rfl) (fun _ _ _ h => h) (Or.inl ⟨by rfl, fun w' hS => (by have z0 := f0 _ hS; go_simp)⟩) S0 ?_
    try simp only [Go.Act.put, List.setIfInBounds_toArray, List.set_cons_zero, List.set_cons_succ]
    refine wpH_take (i := 4) (v := (.pointer (some ⟨b, 0, none⟩))) (some 24) rfl rfl (by kernel_rfl) (by kernel_rfl) (by kernel_rfl) (fun _ _ _ h => h) (Or.inl ⟨by rfl, fun w' hS => (by go_simp)⟩) S0 ?_
    try simp only [Go.Act.put, List.setIfInBounds_toArray, List.set_cons_zero, List.set_cons_succ]
    refine wpH_take (i := 5) (v := (.pointer (some ⟨b, 0, none⟩))) (some 25) rfl rfl (by kernel_rfl) (by kernel_rfl) (by kernel_rfl) (fun _ _ _ h => h) (Or.inl ⟨by rfl, fun w' hS => (by go_simp)⟩) S0 ?_
    try simp only [Go.Act.put, List.setIfInBounds_toArray, List.set_cons_zero, List.set_cons_succ]
    refine wpH_take (i := 6) (v := (.pointer (some ⟨b, 1, none⟩))) (some 26) rfl rfl (by kernel_rfl) (by kernel_rfl) (by kernel_rfl) (fun _ _ _ h => h) (Or.inl ⟨by rfl, fun w' hS => (by go_simp)⟩) S0 ?_
    try simp only [Go.Act.put, List.setIfInBounds_toArray, List.set_cons_zero, List.set_cons_succ]
    refine wpH_take (i := 7) (v := (.int .i64 (k : Nat))) (some 27) rfl rfl (by kernel_rfl) (by kernel_rfl) (by kernel_rfl) (fun _ _ _ h => h) (Or.inl ⟨by rfl, fun w' hS => (by have z0 := f1 _ hS; go_simp)⟩) S0 ?_
    try simp only [Go.Act.put, List.setIfInBounds_toArray, List.set_cons_zero, List.set_cons_succ]
    refine wpH_take (i := 8) (v := (.pointer (some ⟨g, off + k * 5, none⟩))) (some 28) rfl rfl (by kernel_rfl) (by kernel_rfl) (by kernel_rfl) (fun _ _ _ h => h) (Or.inl ⟨by rfl, fun w' hS => (by go_simp)⟩) S0 ?_
    try simp only [Go.Act.put, List.setIfInBounds_toArray, List.set_cons_zero, List.set_cons_succ]
    refine wpH_take (i := 9) (v := (.agg #[.int .i64 x0, .int .u16 x1, .string x2, .int .i64 x3, .int .i64 x4])) (some 29) rfl rfl (by kernel_rfl) (by kernel_rfl) (by kernel_rfl) (fun _ _ _ h => h) (Or.inl ⟨by rfl, fun w' hS => (by have z0 := r0 _ hS; have z1 := r1 _ hS; have z2 := r2 _ hS; have z3 := r3 _ hS; have z4 := r4 _ hS; go_simp)⟩) S0 ?_
    try simp only [Go.Act.put, List.setIfInBounds_toArray, List.set_cons_zero, List.set_cons_succ]
    refine wpH_take (i := 10) (v := (.pointer (some ⟨b, 0, none⟩))) (some 30) rfl rfl (by kernel_rfl) (by kernel_rfl) (by kernel_rfl) (fun _ _ _ h => h) (Or.inl ⟨by rfl, fun w' hS => (by go_simp)⟩) S0 ?_
    try simp only [Go.Act.put, List.setIfInBounds_toArray, List.set_cons_zero, List.set_cons_succ]
    refine wpH_take (i := 11) (v := (.pointer (some ⟨b, 0, none⟩))) (some 31) rfl rfl (by kernel_rfl) (by kernel_rfl) (by kernel_rfl) (fun _ _ _ h => h) (Or.inl ⟨by rfl, fun w' hS => (by go_simp)⟩) S0 ?_
    try simp only [Go.Act.put, List.setIfInBounds_toArray, List.set_cons_zero, List.set_cons_succ]
    refine wpH_take (i := 12) (v := (.pointer (some ⟨b, 1, none⟩))) (some 32) rfl rfl (by kernel_rfl) (by kernel_rfl) (by kernel_rfl) (fun _ _ _ h => h) (Or.inl ⟨by rfl, fun w' hS => (by go_simp)⟩) S0 ?_
    try simp only [Go.Act.put, List.setIfInBounds_toArray, List.set_cons_zero, List.set_cons_succ]
    refine wpH_take (i := 13) (v := (.int .i64 (k : Nat))) (some 33) rfl rfl (by kernel_rfl) (by kernel_rfl) (by kernel_rfl) (fun _ _ _ h => h) (Or.inl ⟨by rfl, fun w' hS => (by have z0 := f1 _ hS; go_simp)⟩) S0 ?_
    try simp only [Go.Act.put, List.setIfInBounds_toArray, List.set_cons_zero, List.set_cons_succ]
    refine wpH_call (i := 14) (o := { dst := none, op := Op.store 47 (Operand.tmp 2) (Operand.tmp 29), type := 0, pos := _, after := #[{ on := 9, ground := Ground.data }, { on := 0, ground := Ground.phase }, { on := 1, ground := Ground.phase }, { on := 2, ground := Ground.phase }, { on := 3, ground := Ground.phase }, { on := 4, ground := Ground.phase }, { on := 5, ground := Ground.phase }, { on := 6, ground := Ground.phase }, { on := 7, ground := Ground.phase }, { on := 8, ground := Ground.phase }, { on := 9, ground := Ground.phase }, { on := 10, ground := Ground.textOnly Departure.lateStores }, { on := 11, ground := Ground.textOnly Departure.lateStores }, { on := 12, ground := Ground.textOnly Departure.lateStores }, { on := 13, ground := Ground.textOnly Departure.lateStores }], guard := none }) (by kernel_rfl) rfl (fun K' hK => ?_)
    rw [if_pos (by rfl)]
    go_simp
    have S1 := set5z (b := B) S0 (Or.inl (by simp)) (.int .i64 x0) (.int .u16 x1) (.string x2) (.int .i64 x3) (.int .i64 x4)
    have B1 := blk5 B0.out (.int .i64 x0) (.int .u16 x1) (.string x2) (.int .i64 x3) (.int .i64 x4)
    have T1 := hid (set5z T0.out (Or.inr HB.out) (.int .i64 x0) (.int .u16 x1) (.string x2) (.int .i64 x3) (.int .i64 x4))
    refine hK.out _ _ S1 ?_
    clear hK
    try simp only [Go.Act.put, List.setIfInBounds_toArray, List.set_cons_zero, List.set_cons_succ]
    refine wpH_take (i := 15) (v := (.int .i64 (k : Nat))) (some 3) rfl rfl (by kernel_rfl) (by kernel_rfl) (by kernel_rfl) (fun _ _ _ h => h) (Or.inl ⟨by rfl, fun w' hS => (by go_simp)⟩) S1 ?_
    try simp only [Go.Act.put, List.setIfInBounds_toArray, List.set_cons_zero, List.set_cons_succ]
    refine wpH_take (i := 16) (v := (.bool true)) (some 4) rfl rfl (by kernel_rfl) (by kernel_rfl) (by kernel_rfl) (fun _ _ _ h => h) (Or.inl ⟨by rfl, fun w' hS => (by go_simp)⟩) S1 ?_
    try simp only [Go.Act.put, List.setIfInBounds_toArray, List.set_cons_zero, List.set_cons_succ]
    refine wpAnyH_done (by kernel_rfl) ?_ _
    go_wp2_with fail
    exact bodyPost_ret (results3_5 rfl _ _ rfl B1) rfl ⟨rfl, T1.out⟩
  · have e1 : nextV S = (d0, 0, false) := by unfold nextV; rw [List.getElem?_eq_none (by omega)]
    rw [e1]
    have z1 : ((S.at_ : Int) == (S.L.length : Int)) = true := by have := h.le; simp; omega
    have TV : Touch [] w (w.alloc (.cells #[.int .i64 0, .int .u16 0, .string ⟨#[]⟩, .int .i64 0, .int .i64 0] 47)) := (Touch.refl [] w).alloc _
    have C0 := (h.touch TV).c0
    have C1 := (h.touch TV).c1
    clear h hs e1 hl hge TV
    generalize S.at_ = k at *
    generalize S.L.length = m at *
    show Calls Tryd.prog 19 _ w fun e w' => e = .returned (.tuple #[.agg #[.int .i64 0, .int .u16 0, .string ⟨#[]⟩, .int .i64 0, .int .i64 0], .int .i64 0, .bool false]) ∧ Touch [] w w'
    go_enter Tryd.func19, Tryd.ntmps19
    go_wp2
    go_quiet (fail)
    go_wp2
    exact bodyPost_ret (v := .tuple #[.agg #[.int .i64 0, .int .u16 0, .string ⟨#[]⟩, .int .i64 0, .int .i64 0], .int .i64 0, .bool false]) (by simp [results, Tryd.results19, go_sem]) rfl ⟨rfl, set5 (((Touch.refl [] w).alloc _).drewN _) (Or.inr (Nat.le_refl _)) 0 _ _ _ _ _⟩
end Go.Proofs.YthakboiecdjgnaaDoor.Ci
