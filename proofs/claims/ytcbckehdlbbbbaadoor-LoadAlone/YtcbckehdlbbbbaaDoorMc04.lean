/- A load in plain words: its items, its results, how far it is, what a step makes of it, and what holds of it at every point; no conditions. -/
import Derived.Test.YtcbckehdlbbbbaaDoorMc01
import Derived.Test.YtcbckehdlbbbbaaDoorMc03
import Derived.Test.YtcbckehdlbbbbaaDoorMc02
namespace Go.Proofs.YtcbckehdlbbbbaaDoor
open Go.RowKit Go.Maps Go.ChangeMaps
set_option linter.unusedVariables false

/-- an item: its run, its key, its token, its recipe -/
structure It where
  run : Int
  sp : Int
  nm : ByteArray
  tok : Int
  L : List Rc.Sp
/-- an item, and the slice that its recipe lies in -/
abbrev Ip := It × Value
/-- an outcome: value, kind, code, run -/
abbrev Oc := Int × Int × Int × Int
/-- a run and its outcome -/
abbrev Rz := Int × Oc
def It.ar (x : It) : Rc.Ar := ⟨x.sp, x.nm, x.run, false⟩
def It.f (x : It) : Nat → Int → Rc.Rs := x.ar.f x.L
structure It.wf (x : It) : Prop where
  run : Rc.I64 x.run
  sp : 0 ≤ x.sp ∧ x.sp ≤ 65535
  tok : Rc.I64 x.tok
  L : Rc.WfS x.L
structure It.ok (x : It) : Prop where
  wf : x.wf
  nm : x.nm.size ≤ 64
  run : 1 ≤ x.run
  tok : 0 ≤ x.tok
  good : Rc.Good x.L
theorem It.ok.ar {x : It} (h : x.ok) : x.ar.ok := ⟨h.wf.sp.1, h.wf.sp.2, by show x.nm.size ≤ _; have := h.nm; omega, h.wf.run⟩
theorem It.f_go {x : It} (h : x.ok) {p : Nat} {n : Int} (hn : Rc.I64 n) {q : Nat} {m wt on : Int} (e : x.f p n = .go q m wt on) : p < q ∧ q ≤ x.L.length ∧ Rc.I64 m ∧ (wt = 0 ∨ wt = 1 ∨ wt = 2) ∧ (wt = 2 → 0 ≤ on ∧ on ≤ 4611686018427387904) ∧ Rc.I64 on ∧ (wt = 0 → on = 0) := Rc.f_go h.good h.wf.L hn e
/-- who comes to a gate comes to one that there is; and only a recipe that has such a step waits -/
theorem step_kind {h r : Int} {c : Bool} {L : List Rc.Sp} (hg : Rc.Good L) {p : Nat} {n : Int} {q : Nat} {m wt on : Int} (e : Rc.stepS h r c L p n = .go q m wt on) :
    (wt = 1 → (0 ≤ on ∧ on < 256) ∧ ∃ x ∈ L, x.1 = 6) ∧ (wt = 2 → ∃ x ∈ L, x.1 = 7) := by
  by_cases hp : p < L.length
  · have hgt : L[p]? = some L[p] := List.getElem?_eq_getElem hp
    have hm : Rc.may L[p] := hg.2 _ (List.getElem_mem hp)
    have hin : L[p] ∈ L := List.getElem_mem hp
    generalize L[p] = z at *
    obtain ⟨op, a, y⟩ := z
    rw [Rc.stepS_at hgt] at e
    have hmay : Rc.may3 op a y := hm
    unfold Rc.may3 at hmay
    rcases hmay with ⟨rfl, _⟩ | ⟨rfl, _⟩ | ⟨rfl, _⟩ | ⟨rfl, _⟩ | ⟨rfl, _⟩ | ⟨rfl, k1, k2, _⟩ | ⟨rfl, k1, k2, _⟩ | ⟨rfl, _⟩ | ⟨rfl, _⟩ | ⟨rfl, _⟩ | ⟨rfl, _⟩ | ⟨rfl, _⟩
    · rw [Rc.stepO_1] at e; obtain ⟨_, _, rfl, _⟩ := Rc.Rs.go_inj e; exact ⟨fun h => absurd h (by decide), fun h => absurd h (by decide)⟩
    · rw [Rc.stepO_2] at e; obtain ⟨_, _, rfl, _⟩ := Rc.Rs.go_inj e; exact ⟨fun h => absurd h (by decide), fun h => absurd h (by decide)⟩
    · rw [Rc.stepO_3] at e; obtain ⟨_, _, rfl, _⟩ := Rc.Rs.go_inj e; exact ⟨fun h => absurd h (by decide), fun h => absurd h (by decide)⟩
    · rw [Rc.stepO_4] at e; obtain ⟨_, _, rfl, _⟩ := Rc.Rs.go_inj e; exact ⟨fun h => absurd h (by decide), fun h => absurd h (by decide)⟩
    · rw [Rc.stepO_5] at e; obtain ⟨_, _, rfl, _⟩ := Rc.Rs.go_inj e; exact ⟨fun h => absurd h (by decide), fun h => absurd h (by decide)⟩
    · rw [Rc.stepO_6] at e; obtain ⟨_, _, rfl, rfl⟩ := Rc.Rs.go_inj e; exact ⟨fun _ => ⟨⟨k1, by omega⟩, _, hin, rfl⟩, fun h => absurd h (by decide)⟩
    · rw [Rc.stepO_7] at e; obtain ⟨_, _, rfl, rfl⟩ := Rc.Rs.go_inj e; exact ⟨fun h => absurd h (by decide), fun _ => ⟨_, hin, rfl⟩⟩
    · rw [Rc.stepO_8] at e
      split at e
      · cases e
      · obtain ⟨_, _, rfl, _⟩ := Rc.Rs.go_inj e; exact ⟨fun h => absurd h (by decide), fun h => absurd h (by decide)⟩
    · rw [Rc.stepO_9] at e
      split at e
      · obtain ⟨_, _, rfl, _⟩ := Rc.Rs.go_inj e; exact ⟨fun h => absurd h (by decide), fun h => absurd h (by decide)⟩
      · obtain ⟨_, _, rfl, _⟩ := Rc.Rs.go_inj e; exact ⟨fun h => absurd h (by decide), fun h => absurd h (by decide)⟩
    · rw [Rc.stepO_10] at e; cases e
    · rw [Rc.stepO_11] at e; cases e
    · rw [Rc.stepO_12] at e; cases e
  · rw [Rc.stepS_end (by omega)] at e
    cases e
theorem It.f_kind {x : It} (h : x.ok) {p : Nat} {n : Int} {q : Nat} {m wt on : Int} (e : x.f p n = .go q m wt on) : (wt = 1 → (0 ≤ on ∧ on < 256) ∧ ∃ z ∈ x.L, z.1 = 6) ∧ (wt = 2 → ∃ z ∈ x.L, z.1 = 7) := step_kind h.good e

/-- How a load stands. -/
structure Ld where
  num : Int
  res : List Rz
  left : List Ip
  p : Nat
  n : Int
  wt : Int
  on : Int
  tm : Int
/-- the place of the item that it is at -/
def Ld.at_ (S : Ld) : Nat := S.res.length - S.left.length
/-- an outcome is laid at a place -/
def putO (res : List Rz) (i : Nat) (o : Oc) : List Rz := res.set i ((res.getD i (0, 0, 0, 0, 0)).1, o)
def allO (res : List Rz) (o : Oc) : List Rz := res.map (fun z => (z.1, o))
/-- the recipe of the item that it is at ends -/
def endS (S : Ld) (o : Oc) : Ld :=
  if o.2.1 = 2 then ⟨S.num, allO S.res o, [], 0, 0, 0, 0, S.tm⟩ else ⟨S.num, putO S.res S.at_ o, S.left.tail, 0, 0, 0, 0, S.tm⟩
/-- it goes on -/
def goS (S : Ld) (q : Nat) (m wt on tm : Int) : Ld := ⟨S.num, S.res, S.left, q, m, wt, on, tm⟩
theorem putO_len (res : List Rz) (i : Nat) (o : Oc) : (putO res i o).length = res.length := by simp [putO]
theorem allO_len (res : List Rz) (o : Oc) : (allO res o).length = res.length := by simp [allO]
theorem putO_fst (res : List Rz) (i : Nat) (o : Oc) : (putO res i o).map (·.1) = res.map (·.1) := by
  unfold putO
  rw [List.map_set]
  by_cases h : i < res.length
  · have e : (res.getD i (0, 0, 0, 0, 0)).1 = (res.map (·.1))[i]'(by simpa using h) := by simp [List.getD_eq_getElem?_getD, h]
    simp only [e]
    exact List.set_getElem_self _
  · rw [List.set_eq_of_length_le (by simpa using h)]
theorem allO_fst (res : List Rz) (o : Oc) : (allO res o).map (·.1) = res.map (·.1) := by simp [allO]
theorem endS_fst (S : Ld) (o : Oc) : (endS S o).res.map (·.1) = S.res.map (·.1) := by
  unfold endS
  split
  · exact allO_fst _ _
  · exact putO_fst _ _ _
theorem endS_len (S : Ld) (o : Oc) : (endS S o).res.length = S.res.length := by
  unfold endS
  split
  · exact allO_len _ _
  · exact putO_len _ _ _
/-- What holds of a load at every point. -/
structure Iv (S : Ld) : Prop where
  num : W64 S.num
  len : S.left.length ≤ S.res.length
  big : S.res.length ≤ 1024
  ok : ∀ q ∈ S.left, q.1.ok
  n : Rc.I64 S.n
  p : ∀ q ∈ S.left.head?, S.p ≤ q.1.L.length
  on : Rc.I64 S.on
theorem Iv.at_lt {S : Ld} (h : Iv S) {q : Ip} {l : List Ip} (e : S.left = q :: l) : S.at_ < S.res.length := by
  have := h.len
  unfold Ld.at_
  rw [e] at this ⊢
  simp only [List.length_cons] at *
  omega
theorem Iv.end_ {S : Ld} (h : Iv S) (o : Oc) : Iv (endS S o) := by
  have hz : Rc.I64 0 := by unfold Rc.I64; omega
  refine ⟨?_, ?_, by rw [endS_len]; exact h.big, ?_, ?_, ?_, ?_⟩
  · unfold endS; split <;> exact h.num
  · rw [endS_len]
    have := h.len
    unfold endS
    split
    · simp
    · simp only [List.length_tail]; omega
  · unfold endS
    split
    · intro q hq; simp at hq
    · exact fun q hq => h.ok q (List.mem_of_mem_tail hq)
  · unfold endS; split <;> exact hz
  · unfold endS
    split
    · intro q hq; simp at hq
    · exact fun q hq => Nat.zero_le _
  · unfold endS; split <;> exact hz
theorem Iv.go {S : Ld} (h : Iv S) {q : Ip} {l : List Ip} (e : S.left = q :: l) {k : Nat} {m wt on : Int} (hf : q.1.f S.p S.n = .go k m wt on) (wt' on' tm : Int) (ho : Rc.I64 on') : Iv (goS S k m wt' on' tm) := by
  have hq : q.1.ok := h.ok q (by rw [e]; simp)
  obtain ⟨h1, h2, h3, _⟩ := It.f_go hq h.n hf
  refine ⟨h.num, h.len, h.big, h.ok, h3, fun z hz => ?_, ho⟩
  have hz' : z ∈ S.left.head? := hz
  rw [e] at hz'
  simp at hz'
  subst hz'
  exact h2
/-- how many steps it can still do at most -/
def remL (l : List Ip) : Nat := (l.map (fun q => q.1.L.length + 1)).sum
def rem (S : Ld) : Nat := remL S.left - S.p
theorem remL_cons (q : Ip) (l : List Ip) : remL (q :: l) = q.1.L.length + 1 + remL l := by simp [remL]
theorem rem_end {S : Ld} (h : Iv S) {q : Ip} {l : List Ip} (e : S.left = q :: l) (o : Oc) : rem (endS S o) < rem S := by
  have hp : S.p ≤ q.1.L.length := h.p q (by rw [e]; simp)
  have e1 : rem S = q.1.L.length + 1 + remL l - S.p := by unfold rem; rw [e, remL_cons]
  have e2 : rem (endS S o) ≤ remL l := by
    unfold rem endS
    split
    · simp [remL]
    · rw [e]; simp
  omega
theorem rem_go {S : Ld} (h : Iv S) {q : Ip} {l : List Ip} (e : S.left = q :: l) {k : Nat} {m wt on : Int} (hf : q.1.f S.p S.n = .go k m wt on) (wt' on' tm : Int) : rem (goS S k m wt' on' tm) < rem S := by
  have hq : q.1.ok := h.ok q (by rw [e]; simp)
  obtain ⟨h1, h2, _⟩ := It.f_go hq h.n hf
  have e1 : rem S = q.1.L.length + 1 + remL l - S.p := by unfold rem; rw [e, remL_cons]
  have e2 : rem (goS S k m wt' on' tm) = q.1.L.length + 1 + remL l - k := by unfold rem goS; rw [e, remL_cons]
  omega
end Go.Proofs.YtcbckehdlbbbbaaDoor
/- Slices that can be read, cell by cell, laid behind rows that a call owns; slices.Clone at items, steps and results; the conditions are those that each states. -/
namespace Go.Proofs.YtcbckehdlbbbbaaDoor
open Go.RowKit Go.Maps Go.ChangeMaps
set_option linter.unusedVariables false
set_option linter.unusedSimpArgs false
/-- A slice that can be read: n elements of k cells. -/
def Rv (k : Nat) (w : World) (v : Value) (n : Nat) (vs : List Value) : Prop := vs.length = n * k ∧ ∃ a c, v = .slice a n c ∧ n ≤ c ∧ (a = none → n = 0 ∧ c = 0) ∧ (0 < n → ∃ g off, a = some ⟨g, off, none⟩ ∧ ∀ j u, vs[j]? = some u → w.cell? ⟨g, off + j, none⟩ = some u)
/-- where a slice lies, if anywhere -/
def Off (C : Nat → Prop) (v : Value) : Prop := ∀ g off n c, v = .slice (some ⟨g, off, none⟩) n c → C g
section
variable {k n : Nat} {w w' : World} {v : Value} {vs : List Value} {B e : Nat}
theorem Rv.of_own (h : w.ownsRow B e k v n vs) : Rv k w v n vs := by
  rcases h with ⟨h1, ⟨e1, e2⟩ | ⟨g, cap, cur, rfl, hg, hc, hn, hm, hs, ht⟩⟩
  · subst e2
    exact ⟨h1, none, 0, e1, Nat.le_refl _, fun _ => ⟨rfl, rfl⟩, fun h => absurd h (Nat.lt_irrefl 0)⟩
  · refine ⟨h1, _, cap, rfl, hn, fun e => (by cases e), fun _ => ⟨g, 0, rfl, fun j u hu => ?_⟩⟩
    have hj := (List.getElem?_eq_some_iff.1 hu).1
    have : cur[j]? = some u := by rw [← Array.getElem?_toList, ← hu, ← ht, List.getElem?_take, if_pos (by omega)]
    simp [World.cell?, hc, this]
theorem cell_lt' {w : World} {a : Addr} {v : Value} (h : w.cell? a = some v) : a.block < w.heap.size := Rc.cell_lt h
theorem cell_touch {F : List Nat} {a : Addr} {u : Value} (T : Touch F w w') (h : w.cell? a = some u) (hn : ¬ a.block ∈ F) : w'.cell? a = some u := by
  rw [World.cell?_of_block (T.block _ (cell_lt' h) hn)]; exact h
theorem Rv.keep {F : List Nat} (h : Rv k w v n vs) (T : Touch F w w') (hF : Off (fun g => ¬ g ∈ F) v) : Rv k w' v n vs := by
  obtain ⟨h1, a, c, rfl, h0, h2, h3⟩ := h
  refine ⟨h1, a, c, rfl, h0, h2, fun hp => ?_⟩
  obtain ⟨g, off, rfl, h4⟩ := h3 hp
  exact ⟨g, off, rfl, fun j u hu => cell_touch T (h4 j u hu) (hF g off n c rfl)⟩
theorem Rv.keep0 (h : Rv k w v n vs) (T : Touch [] w w') : Rv k w' v n vs := h.keep T (fun _ _ _ _ _ e => by cases e)
theorem Rv.form (h : Rv k w v n vs) : ∃ a c, v = .slice a n c ∧ n ≤ c := by
  obtain ⟨h1, a, c, e, h0, _⟩ := h
  exact ⟨a, c, e, h0⟩
theorem Rv.cell {a : Option Addr} {c j : Nat} {u : Value} (h : Rv k w (.slice a n c) n vs) (hu : vs[j]? = some u) (hn : 0 < n) : ∃ g off, a = some ⟨g, off, none⟩ ∧ w.cell? ⟨g, off + j, none⟩ = some u := by
  obtain ⟨h1, a', c', e, h0, h2, h3⟩ := h
  cases e
  obtain ⟨g, off, rfl, h4⟩ := h3 hn
  exact ⟨g, off, rfl, h4 j u hu⟩
theorem own_off (h : w.ownsRow B e k v n vs) : Off (fun g => B ≤ g ∧ g < w.heap.size) v := fun g off m c hv => by
  subst hv
  exact h.lt g rfl
end
section
variable {w : World} {ops : Array Oper} {rest : List Oper} {o : Oper} {a : Act} {Q : Exit → Act → World → Prop}
/-- A slice that can be read, laid behind a row that a call owns. -/
theorem wpList_append_rv (hgd : o.guard = none) (s x : Operand) (st et : TypeId) (ho : o.op = .call { callee := .builtin .append, args := #[s, x], argTypes := #[st, st] })
    (z : Value) (k bytes : Nat) (hinfo : (Tryd.prog.info? et).map (fun i => (i.zero, i.size, i.bytes)) = some (some z, k, bytes)) (ht : Tryd.prog.underlying st = some (.slice et)) (hzs : z.cells.size = k) (hk : 0 < k)
    (base : Nat) (v : Value) (n : Nat) (xs : List Value) (hs : a.eval s = v) (hown : w.ownsRow base et k v n xs)
    (u : Value) (m : Nat) (vs : List Value) (hx : a.eval x = u) (hu : Rv k w u m vs) (h1 : ∀ y ∈ vs, y.oneCell' = true) (h63 : n + m ≤ maxLen) (hbytes : (n + m) * bytes ≤ 140737488355328) (hbase : base ≤ w.heap.size)
    (h : ∀ v' w', w'.ownsRow base et k v' (n + m) (xs ++ vs) → w.grownBy w' v.ownBlock → (v'.ownBlock = v.ownBlock ∨ v'.ownBlock = some w.heap.size) → wpList Tryd.prog ops Q rest (a.put o.dst v') w') : wpList Tryd.prog ops Q (o :: rest) a w := by
  obtain ⟨i3, hf, hz0, hz1, hz2⟩ := info_parts hinfo
  obtain ⟨hl, ad, c, rfl, _, hn0, hr⟩ := hu
  cases ad with
  | none =>
    obtain ⟨e0, e1⟩ := hn0 rfl
    subst e0 e1
    have ev : vs = [] := List.length_eq_zero_iff.1 (by omega)
    subst ev
    refine wpList_append_own_none hgd s x st ho base et i3 k ht hf v n xs hs hown hx ?_
    exact h v w (by simpa using hown) (World.grownBy.refl _ _) (Or.inl rfl)
  | some ad =>
    refine wpList_append_own_at w hgd s x st ho base et i3 z k bytes ht hf hz0 hz1 hz2 hzs hk v n xs hs hown ad m c vs hx hl (fun j y hy => ?_) h1 h63 hbytes hbase (fun v' w' q1 q2 q3 q4 => h v' w' q1 q2 q4)
    have hm : 0 < m := by
      rcases Nat.eq_zero_or_pos m with e | e
      · subst e
        have : vs = [] := List.length_eq_zero_iff.1 (by omega)
        subst this
        simp at hy
      · exact e
    obtain ⟨g, off, e, h5⟩ := hr hm
    cases e
    rw [show (⟨g, off, none⟩ : Addr).add j = ⟨g, off + j, none⟩ by simp [Addr.add]]
    exact h5 j y hy
end
/-- a copy: a row of the call's own -/
def CpE (e : Ending) (w w' : World) (t k n : Nat) (vs : List Value) : Prop := ∃ a c, e = .returned (.slice a n c) ∧ w'.ownsRow w.heap.size t k (.slice a n c) n vs ∧ Touch [] w w'
theorem info_items : (Tryd.prog.info? 33).map (fun i => (i.zero, i.size, i.bytes)) = some (some (.agg #[.int .i64 0, .int .u16 0, .string ⟨#[]⟩, .int .i64 0, .slice none 0 0]), 5, 64) := by kernel_rfl
theorem eqs_items (W : World) (a : Option Addr) (n c : Nat) : (binOp .eql 22 (.slice a n c) (.slice none 0 0)).run Tryd.prog W = .ok (.bool a.isNone) W := Lib.run_eql_slice_nil W _ _ a n c 0 0 Tryd.underlying22
set_option maxHeartbeats 1000000 in
theorem clone_items (w : World) (v : Value) (n : Nat) (vs : List Value) (h : Rv 5 w v n vs) (h1 : ∀ y ∈ vs, y.oneCell' = true) (hle : n ≤ 1024) : Calls Tryd.prog 44 #[v] w fun e w' => CpE e w w' 33 5 n vs := by
  have q33 := eqs_items
  have h' := h
  obtain ⟨hl, a, c, rfl, _, hn, hr⟩ := h
  cases a with
  | none =>
    obtain ⟨e0, e1⟩ := hn rfl
    subst e0 e1
    have ev : vs = [] := List.length_eq_zero_iff.1 (by omega)
    subst ev
    clear h' hr hn hl h1
    go_enter Tryd.func44, Tryd.ntmps44
    go_wp2
    go_ret
    exact ⟨none, 0, rfl, World.ownsRow_nil _ _ _ _, Touch.refl _ _⟩
  | some ad =>
    have HR : Hid (∀ ob, Rv 5 (w.alloc ob) (.slice (some ad) n c) n vs) := fun ob => h'.keep0 ((Touch.refl [] _).alloc _)
    have HM : Hid ((w.alloc (.cells #[] 33)).ownsRow w.heap.size 33 5 (.slice (some ⟨w.heap.size, 0, none⟩) 0 0) 0 []) := World.ownsRow_made (e := 33) (size := 5) w #[] 0 (Nat.le_refl _) (by unfold maxLen; omega) rfl
    have HLE := hid (And.intro hle h1)
    have HE : Hid (∀ v5 w', w'.ownsRow w.heap.size 33 5 v5 (0 + n) ([] ++ vs) → (w.alloc (.cells #[] 33)).grownBy w' (some w.heap.size) → CpE (.returned v5) w w' 33 5 n vs) := fun v5 w' r gr => by
      rw [Nat.zero_add, List.nil_append] at r
      obtain ⟨a5, c5, rfl⟩ := own_form r
      exact ⟨a5, c5, rfl, r, ((Touch.refl [] w).alloc _).grown gr (fun k hk => Or.inr (by cases hk; exact Nat.le_refl _))⟩
    clear h' hr hn hl h1 hle
    go_enter Tryd.func44, Tryd.ntmps44
    go_wp2_with (at_builtin; refine wpList_append_rv rfl _ _ _ 33 rfl (.agg #[.int .i64 0, .int .u16 0, .string ⟨#[]⟩, .int .i64 0, .slice none 0 0]) 5 64 info_items Tryd.underlying22 rfl (by decide) w.heap.size (.slice (some ⟨w.heap.size, 0, none⟩) 0 0) 0 [] rfl HM.out _ n vs rfl (HR.out _) HLE.out.2 (by have := HLE.out.1; unfold maxLen; omega) (by have := HLE.out.1; omega) (by simp) ?_; intro v5 w5 o5 g5 e5; have O5 := hid (HE.out _ _ o5 g5); clear o5 g5 e5)
    go_ret
    exact O5.out
theorem info_steps : (Tryd.prog.info? 35).map (fun i => (i.zero, i.size, i.bytes)) = some (some (.agg #[.int .i64 0, .int .i64 0, .int .i64 0]), 3, 24) := by kernel_rfl
theorem eqs_steps (W : World) (a : Option Addr) (n c : Nat) : (binOp .eql 31 (.slice a n c) (.slice none 0 0)).run Tryd.prog W = .ok (.bool a.isNone) W := Lib.run_eql_slice_nil W _ _ a n c 0 0 Tryd.underlying31
set_option maxHeartbeats 1000000 in
theorem clone_steps (w : World) (v : Value) (n : Nat) (vs : List Value) (h : Rv 3 w v n vs) (h1 : ∀ y ∈ vs, y.oneCell' = true) (hle : n ≤ 1024) : Calls Tryd.prog 45 #[v] w fun e w' => CpE e w w' 35 3 n vs := by
  have q33 := eqs_steps
  have h' := h
  obtain ⟨hl, a, c, rfl, _, hn, hr⟩ := h
  cases a with
  | none =>
    obtain ⟨e0, e1⟩ := hn rfl
    subst e0 e1
    have ev : vs = [] := List.length_eq_zero_iff.1 (by omega)
    subst ev
    clear h' hr hn hl h1
    go_enter Tryd.func45, Tryd.ntmps45
    go_wp2
    go_ret
    exact ⟨none, 0, rfl, World.ownsRow_nil _ _ _ _, Touch.refl _ _⟩
  | some ad =>
    have HR : Hid (∀ ob, Rv 3 (w.alloc ob) (.slice (some ad) n c) n vs) := fun ob => h'.keep0 ((Touch.refl [] _).alloc _)
    have HM : Hid ((w.alloc (.cells #[] 35)).ownsRow w.heap.size 35 3 (.slice (some ⟨w.heap.size, 0, none⟩) 0 0) 0 []) := World.ownsRow_made (e := 35) (size := 3) w #[] 0 (Nat.le_refl _) (by unfold maxLen; omega) rfl
    have HLE := hid (And.intro hle h1)
    have HE : Hid (∀ v5 w', w'.ownsRow w.heap.size 35 3 v5 (0 + n) ([] ++ vs) → (w.alloc (.cells #[] 35)).grownBy w' (some w.heap.size) → CpE (.returned v5) w w' 35 3 n vs) := fun v5 w' r gr => by
      rw [Nat.zero_add, List.nil_append] at r
      obtain ⟨a5, c5, rfl⟩ := own_form r
      exact ⟨a5, c5, rfl, r, ((Touch.refl [] w).alloc _).grown gr (fun k hk => Or.inr (by cases hk; exact Nat.le_refl _))⟩
    clear h' hr hn hl h1 hle
    go_enter Tryd.func45, Tryd.ntmps45
    go_wp2_with (at_builtin; refine wpList_append_rv rfl _ _ _ 35 rfl (.agg #[.int .i64 0, .int .i64 0, .int .i64 0]) 3 24 info_steps Tryd.underlying31 rfl (by decide) w.heap.size (.slice (some ⟨w.heap.size, 0, none⟩) 0 0) 0 [] rfl HM.out _ n vs rfl (HR.out _) HLE.out.2 (by have := HLE.out.1; unfold maxLen; omega) (by have := HLE.out.1; omega) (by simp) ?_; intro v5 w5 o5 g5 e5; have O5 := hid (HE.out _ _ o5 g5); clear o5 g5 e5)
    go_ret
    exact O5.out
theorem info_res : (Tryd.prog.info? 53).map (fun i => (i.zero, i.size, i.bytes)) = some (some (.agg #[.int .i64 0, .int .i64 0, .int .i64 0, .int .i64 0, .int .i64 0]), 5, 40) := by kernel_rfl
theorem eqs_res (W : World) (a : Option Addr) (n c : Nat) : (binOp .eql 46 (.slice a n c) (.slice none 0 0)).run Tryd.prog W = .ok (.bool a.isNone) W := Lib.run_eql_slice_nil W _ _ a n c 0 0 Tryd.underlying46
set_option maxHeartbeats 1000000 in
theorem clone_res (w : World) (v : Value) (n : Nat) (vs : List Value) (h : Rv 5 w v n vs) (h1 : ∀ y ∈ vs, y.oneCell' = true) (hle : n ≤ 1024) : Calls Tryd.prog 34 #[v] w fun e w' => CpE e w w' 53 5 n vs := by
  have q33 := eqs_res
  have h' := h
  obtain ⟨hl, a, c, rfl, _, hn, hr⟩ := h
  cases a with
  | none =>
    obtain ⟨e0, e1⟩ := hn rfl
    subst e0 e1
    have ev : vs = [] := List.length_eq_zero_iff.1 (by omega)
    subst ev
    clear h' hr hn hl h1
    go_enter Tryd.func34, Tryd.ntmps34
    go_wp2
    go_ret
    exact ⟨none, 0, rfl, World.ownsRow_nil _ _ _ _, Touch.refl _ _⟩
  | some ad =>
    have HR : Hid (∀ ob, Rv 5 (w.alloc ob) (.slice (some ad) n c) n vs) := fun ob => h'.keep0 ((Touch.refl [] _).alloc _)
    have HM : Hid ((w.alloc (.cells #[] 53)).ownsRow w.heap.size 53 5 (.slice (some ⟨w.heap.size, 0, none⟩) 0 0) 0 []) := World.ownsRow_made (e := 53) (size := 5) w #[] 0 (Nat.le_refl _) (by unfold maxLen; omega) rfl
    have HLE := hid (And.intro hle h1)
    have HE : Hid (∀ v5 w', w'.ownsRow w.heap.size 53 5 v5 (0 + n) ([] ++ vs) → (w.alloc (.cells #[] 53)).grownBy w' (some w.heap.size) → CpE (.returned v5) w w' 53 5 n vs) := fun v5 w' r gr => by
      rw [Nat.zero_add, List.nil_append] at r
      obtain ⟨a5, c5, rfl⟩ := own_form r
      exact ⟨a5, c5, rfl, r, ((Touch.refl [] w).alloc _).grown gr (fun k hk => Or.inr (by cases hk; exact Nat.le_refl _))⟩
    clear h' hr hn hl h1 hle
    go_enter Tryd.func34, Tryd.ntmps34
    go_wp2_with (at_builtin; refine wpList_append_rv rfl _ _ _ 53 rfl (.agg #[.int .i64 0, .int .i64 0, .int .i64 0, .int .i64 0, .int .i64 0]) 5 40 info_res Tryd.underlying46 rfl (by decide) w.heap.size (.slice (some ⟨w.heap.size, 0, none⟩) 0 0) 0 [] rfl HM.out _ n vs rfl (HR.out _) HLE.out.2 (by have := HLE.out.1; unfold maxLen; omega) (by have := HLE.out.1; omega) (by simp) ?_; intro v5 w5 o5 g5 e5; have O5 := hid (HE.out _ _ o5 g5); clear o5 g5 e5)
    go_ret
    exact O5.out
end Go.Proofs.YtcbckehdlbbbbaaDoor
/- Items, results and a load in memory; no conditions. -/
namespace Go.Proofs.YtcbckehdlbbbbaaDoor
open Go.RowKit Go.Maps Go.ChangeMaps
set_option linter.unusedVariables false
set_option linter.unusedSimpArgs false
def iv (q : Ip) : List Value := [.int .i64 q.1.run, .int .u16 q.1.sp, .string q.1.nm, .int .i64 q.1.tok, q.2]
def sc (x : Rc.Sp) : List Value := [.int .i64 x.1, .int .i64 x.2.1, .int .i64 x.2.2]
def rzc (z : Rz) : List Value := [.int .i64 z.1, .int .i64 z.2.1, .int .i64 z.2.2.1, .int .i64 z.2.2.2.1, .int .i64 z.2.2.2.2]
theorem iv_len (q : Ip) : (iv q).length = 5 := rfl
theorem sc_len (x : Rc.Sp) : (sc x).length = 3 := rfl
theorem rzc_len (z : Rz) : (rzc z).length = 5 := rfl
theorem one_sc (L : List Rc.Sp) : ∀ y ∈ L.flatMap sc, y.oneCell' = true := fun y hy => by
  rw [List.mem_flatMap] at hy
  obtain ⟨x, _, hx⟩ := hy
  simp [sc] at hx
  rcases hx with rfl | rfl | rfl <;> rfl
theorem one_rzc (L : List Rz) : ∀ y ∈ L.flatMap rzc, y.oneCell' = true := fun y hy => by
  rw [List.mem_flatMap] at hy
  obtain ⟨x, _, hx⟩ := hy
  simp [rzc] at hx
  rcases hx with rfl | rfl | rfl | rfl | rfl <;> rfl
/-- a recipe in memory -/
def Sv (w : World) (v : Value) (L : List Rc.Sp) : Prop := Rv 3 w v L.length (L.flatMap sc)
section
variable {w w' : World} {v : Value} {L : List Rc.Sp} {F : List Nat}
theorem Sv.keep (h : Sv w v L) (T : Touch F w w') (hF : Off (fun g => ¬ g ∈ F) v) : Sv w' v L := Rv.keep h T hF
theorem Sv.keep0 (h : Sv w v L) (T : Touch [] w w') : Sv w' v L := Rv.keep0 h T
theorem Sv.sl {a : Option Addr} {n c : Nat} (h : Sv w (.slice a n c) L) : n = L.length ∧ Rc.Sl w a L := by
  obtain ⟨a', c', e, _⟩ := Rv.form h
  cases e
  refine ⟨rfl, fun i hi => ?_⟩
  have hg : L[i]? = some L[i] := List.getElem?_eq_getElem hi
  have e0 := flat_at sc_len L i 0 _ hg (by decide)
  have e1 := flat_at sc_len L i 1 _ hg (by decide)
  have e2 := flat_at sc_len L i 2 _ hg (by decide)
  obtain ⟨g, off, rfl, c0⟩ := Rv.cell h e0 (by omega)
  obtain ⟨g1, o1, h1, c1⟩ := Rv.cell h e1 (by omega)
  obtain ⟨g2, o2, h2, c2⟩ := Rv.cell h e2 (by omega)
  cases h1
  cases h2
  exact ⟨g, off, rfl, by simpa using c0, by simpa [Nat.add_assoc] using c1, by simpa [Nat.add_assoc] using c2⟩
theorem Sv.one {w : World} {v : Value} (h : Sv w v L) : v.oneCell' = true := by
  obtain ⟨a, c, rfl, _⟩ := Rv.form h
  rfl
end
/-- items in memory -/
structure Its (w : World) (v : Value) (ps : List Ip) : Prop where
  rv : Rv 5 w v ps.length (ps.flatMap iv)
  sv : ∀ q ∈ ps, Sv w q.2 q.1.L
/-- an item at a place in memory -/
structure ItAt (w : World) (g o : Nat) (q : Ip) : Prop where
  c0 : w.cell? ⟨g, o, none⟩ = some (.int .i64 q.1.run)
  c1 : w.cell? ⟨g, o + 1, none⟩ = some (.int .u16 q.1.sp)
  c2 : w.cell? ⟨g, o + 2, none⟩ = some (.string q.1.nm)
  c3 : w.cell? ⟨g, o + 3, none⟩ = some (.int .i64 q.1.tok)
  c4 : w.cell? ⟨g, o + 4, none⟩ = some q.2
section
variable {w w' : World} {v : Value} {ps : List Ip} {F : List Nat}
theorem Its.keep0 (h : Its w v ps) (T : Touch [] w w') : Its w' v ps := ⟨h.rv.keep0 T, fun q hq => (h.sv q hq).keep0 T⟩
theorem Its.keep (h : Its w v ps) (T : Touch F w w') (h0 : Off (fun g => ¬ g ∈ F) v) (h1 : ∀ q ∈ ps, Off (fun g => ¬ g ∈ F) q.2) : Its w' v ps := ⟨h.rv.keep T h0, fun q hq => (h.sv q hq).keep T (h1 q hq)⟩
theorem Its.form (h : Its w v ps) : ∃ a c, v = .slice a ps.length c ∧ ps.length ≤ c := h.rv.form
theorem Its.item {a : Option Addr} {c i : Nat} (h : Its w (.slice a ps.length c) ps) (hi : i < ps.length) : ∃ g off, a = some ⟨g, off, none⟩ ∧ ItAt w g (off + i * 5) ps[i] := by
  have hg : ps[i]? = some ps[i] := List.getElem?_eq_getElem hi
  have e0 := flat_at iv_len ps i 0 _ hg (by decide)
  have e1 := flat_at iv_len ps i 1 _ hg (by decide)
  have e2 := flat_at iv_len ps i 2 _ hg (by decide)
  have e3 := flat_at iv_len ps i 3 _ hg (by decide)
  have e4 := flat_at iv_len ps i 4 _ hg (by decide)
  obtain ⟨g, off, rfl, c0⟩ := Rv.cell h.rv e0 (by omega)
  obtain ⟨g1, o1, h1, c1⟩ := Rv.cell h.rv e1 (by omega)
  obtain ⟨g2, o2, h2, c2⟩ := Rv.cell h.rv e2 (by omega)
  obtain ⟨g3, o3, h3, c3⟩ := Rv.cell h.rv e3 (by omega)
  obtain ⟨g4, o4, h4, c4⟩ := Rv.cell h.rv e4 (by omega)
  cases h1
  cases h2
  cases h3
  cases h4
  exact ⟨g, off, rfl, by simpa using c0, by simpa [Nat.add_assoc] using c1, by simpa [Nat.add_assoc] using c2, by simpa [Nat.add_assoc] using c3, by simpa [Nat.add_assoc] using c4⟩
theorem ItAt.keep {g o : Nat} {q : Ip} (h : ItAt w g o q) (T : Touch F w w') (hn : ¬ g ∈ F) : ItAt w' g o q := ⟨cell_touch T h.c0 hn, cell_touch T h.c1 hn, cell_touch T h.c2 hn, cell_touch T h.c3 hn, cell_touch T h.c4 hn⟩
/-- the rest of some items, from a place on -/
theorem Its.drop {g off c : Nat} (h : Its w (.slice (some ⟨g, off, none⟩) ps.length c) ps) (i : Nat) (hi : i ≤ ps.length) : Its w (.slice (some (if c = i then ⟨g, off, none⟩ else ⟨g, off + i * 5, none⟩)) (ps.length - i) (c - i)) (ps.drop i) := by
  obtain ⟨a', c', e, hc⟩ := h.form
  cases e
  refine ⟨⟨flat_len iv_len _, some (if c = i then ⟨g, off, none⟩ else ⟨g, off + i * 5, none⟩), c - i, by simp only [List.length_drop], by simp only [List.length_drop]; omega, fun e => absurd e (by simp), fun hp => ?_⟩, fun q hq => h.sv q (List.mem_of_mem_drop hq)⟩
  · have hp' : i < ps.length := by rw [List.length_drop] at hp; omega
    rw [if_neg (by omega)]
    refine ⟨g, off + i * 5, rfl, fun j u hu => ?_⟩
    have e1 : (ps.flatMap iv)[i * 5 + j]? = some u := by
      rw [← hu]
      have e2 : ps.flatMap iv = (ps.take i).flatMap iv ++ (ps.drop i).flatMap iv := by rw [← List.flatMap_append, List.take_append_drop]
      rw [e2, List.getElem?_append_right (by rw [flat_len iv_len, List.length_take]; omega), flat_len iv_len, List.length_take]
      congr 1
      omega
    obtain ⟨g', o', e3, c0⟩ := Rv.cell h.rv e1 (by omega)
    cases e3
    simpa [Nat.add_assoc] using c0
end
/-- what no load's step writes: all that lies ahead of the load, its results' row aside -/
def Cn (b r : Nat) (k : Nat) : Prop := k < b ∧ k ≠ r
/-- items that a load keeps -/
structure Lf (w : World) (b r : Nat) (v : Value) (ps : List Ip) : Prop where
  its : Its w v ps
  off : Off (Cn b r) v
  offs : ∀ q ∈ ps, Off (Cn b r) q.2
theorem Off.mono {C D : Nat → Prop} {v : Value} (h : Off C v) (hD : ∀ k, C k → D k) : Off D v := fun g off n c e => hD g (h g off n c e)
section
variable {w w' : World} {b r : Nat} {v : Value} {ps : List Ip} {F : List Nat}
theorem Lf.keep (h : Lf w b r v ps) (T : Touch F w w') (hF : ∀ k ∈ F, k = r ∨ b ≤ k) : Lf w' b r v ps := by
  have hn : ∀ k, Cn b r k → ¬ k ∈ F := fun k hk e => by
    rcases hF k e with e | e
    · exact hk.2 e
    · have := hk.1; omega
  exact ⟨h.its.keep T (h.off.mono hn) (fun q hq => (h.offs q hq).mono hn), h.off, h.offs⟩
theorem Lf.nil (w : World) (b r : Nat) : Lf w b r (.slice none 0 0) [] := ⟨⟨⟨rfl, none, 0, rfl, Nat.le_refl _, fun _ => ⟨rfl, rfl⟩, fun h => absurd h (Nat.lt_irrefl 0)⟩, fun q hq => absurd hq (by simp)⟩, fun _ _ _ _ e => absurd e (by simp), fun q hq => absurd hq (by simp)⟩
theorem Lf.tail {g off c : Nat} {q : Ip} (h : Lf w b r (.slice (some ⟨g, off, none⟩) (ps.length + 1) c) (q :: ps)) : Lf w b r (.slice (some (if c = 1 then ⟨g, off, none⟩ else ⟨g, off + 5, none⟩)) ps.length (c - 1)) ps := by
  have h1 := Its.drop (ps := q :: ps) h.its 1 (by simp)
  refine ⟨by simpa using h1, fun g' o' n' c' e => ?_, fun z hz => h.offs z (by simp [hz])⟩
  simp only [Value.slice.injEq, Option.some.injEq] at e
  obtain ⟨e1, _⟩ := e
  have hg := h.off g off _ _ rfl
  split at e1 <;> (cases e1; exact hg)
end
/-- a load's cells -/
def lc (S : Ld) (vr vl : Value) : Array Value := #[.int .i64 S.num, vr, vl, .int .i64 S.p, .int .i64 S.n, .int .i64 S.wt, .int .i64 S.on, .int .i64 S.tm]
/-- A load in memory: at block b, its results' row at r. -/
structure Lq (w : World) (b r : Nat) (S : Ld) (vr vl : Value) : Prop where
  bl : w.heap[b]? = some (.cells (lc S vr vl) 78 (0, 0))
  row : w.ownsRow 0 53 5 vr S.res.length (S.res.flatMap rzc)
  vr : ∃ c, vr = .slice (some ⟨r, 0, none⟩) S.res.length c
  lf : Lf w b r vl S.left
  rb : r < b
section
variable {w w' : World} {b r : Nat} {S : Ld} {vr vl : Value} {F : List Nat}
theorem Lq.keep (h : Lq w b r S vr vl) (T : Touch F w w') (hF : ∀ k ∈ F, b < k) : Lq w' b r S vr vl := by
  obtain ⟨c, e⟩ := h.vr
  refine ⟨T.keep h.bl (fun e => by have := hF _ e; omega), own_touch h.row T (fun q hq e' => ?_), h.vr, h.lf.keep T (fun k hk => Or.inr (by have := hF k hk; omega)), h.rb⟩
  rw [e] at hq
  simp only [Value.ownBlock, Option.some.injEq] at hq
  subst hq
  have := hF _ e'
  have := h.rb
  omega
theorem Lq.keep0 (h : Lq w b r S vr vl) (T : Touch [] w w') : Lq w' b r S vr vl := h.keep T (fun _ e => by cases e)
theorem Lq.vform (h : Lq w b r S vr vl) : ∃ a c, vl = .slice a S.left.length c ∧ S.left.length ≤ c := h.lf.its.form
theorem Lq.res {c i : Nat} (h : Lq w b r S (.slice (some ⟨r, 0, none⟩) S.res.length c) vl) {z : Rz} (hz : S.res[i]? = some z) : w.cell? ⟨r, i * 5, none⟩ = some (.int .i64 z.1) ∧ w.cell? ⟨r, i * 5 + 1, none⟩ = some (.int .i64 z.2.1) ∧ w.cell? ⟨r, i * 5 + 2, none⟩ = some (.int .i64 z.2.2.1) ∧ w.cell? ⟨r, i * 5 + 3, none⟩ = some (.int .i64 z.2.2.2.1) ∧ w.cell? ⟨r, i * 5 + 4, none⟩ = some (.int .i64 z.2.2.2.2) :=
  ⟨own_cell h.row (p := i * 5 + 0) (flat_at rzc_len S.res i 0 z hz (by decide)), own_cell h.row (flat_at rzc_len S.res i 1 z hz (by decide)), own_cell h.row (flat_at rzc_len S.res i 2 z hz (by decide)), own_cell h.row (flat_at rzc_len S.res i 3 z hz (by decide)), own_cell h.row (flat_at rzc_len S.res i 4 z hz (by decide))⟩
end
end Go.Proofs.YtcbckehdlbbbbaaDoor
/- A slice of items as an argument, opened, with the recipes that lie in it; no conditions. -/
namespace Go.Proofs.YtcbckehdlbbbbaaDoor
open Go.ChangeShapes Go.WideShapes Go.ChangeAt Go.RowKit
set_option linter.unusedVariables false
theorem cl3 : Tryd.prog.cellsOf 3 = 1 := by kernel_rfl
theorem cl2 : Tryd.prog.cellsOf 2 = 1 := by kernel_rfl
theorem cl9 : Tryd.prog.cellsOf 9 = 1 := by kernel_rfl
theorem clU : Tryd.prog.cellsOf 28 = 1 := by kernel_rfl
theorem clK : Tryd.prog.cellsOf 30 = 2 := by kernel_rfl
theorem clS : Tryd.prog.cellsOf 35 = 3 := by kernel_rfl
theorem clI : Tryd.prog.cellsOf 33 = 5 := by kernel_rfl
theorem clL : Tryd.prog.cellsOf 31 = 1 := by kernel_rfl
theorem spot_none {W : World} {x : Addr} {v : Value} (h : W.cell? x = some v) : x.spot = none := by
  unfold World.cell? at h
  split at h
  · split at h
    · cases h
    · rename_i hs
      cases hh : x.spot with
      | none => rfl
      | some z => rw [hh] at hs; exact absurd rfl hs
  · cases h
/-- rows of cells, read one element after the other -/
theorem flat_read {X : Type} {f : X → List Value} {k : Nat} (hf : ∀ x, (f x).length = k) {W : World} {b off : Nat} {xs : List X} (h : ∀ i x, xs[i]? = some x → ∀ j u, (f x)[j]? = some u → W.cell? ⟨b, off + (i * k + j), none⟩ = some u) (hk : 0 < k) : ∀ j u, (xs.flatMap f)[j]? = some u → W.cell? ⟨b, off + j, none⟩ = some u := fun j u hu => by
  have hj : j < xs.length * k := by rw [← flat_len hf]; exact (List.getElem?_eq_some_iff.1 hu).1
  have hi : j / k < xs.length := Nat.div_lt_of_lt_mul (by rw [Nat.mul_comm]; exact hj)
  have hm : j % k < k := Nat.mod_lt _ hk
  have e : j = j / k * k + j % k := by rw [Nat.mul_comm]; exact (Nat.div_add_mod j k).symm
  have hg := List.getElem?_eq_getElem hi
  rw [e, flat_at hf xs (j / k) (j % k) _ hg hm] at hu
  rw [e]
  exact h _ _ hg _ _ hu
set_option maxRecDepth 100000 in
theorem open_recipe {H : Type} {enc : TypeId × Value → H} {W : World} {fuel : Nat} {v : Value} {y : DataW H × List MemPlace} (hf : DataW.trod enc Tryd.prog W 0 (fun _ => true) true fuel 31 [v] = some y) : ∃ L, Sv W v L ∧ Rc.WfS L := by
  rcases Deep.open_slice Tryd.underlying31 hf with ⟨hcs, _⟩ | ⟨x, len, c, m, n, D, Pl, hcs, _, hl, hm, hmm, hx, hall⟩
  · simp only [List.cons.injEq, and_true] at hcs
    subst hcs
    exact ⟨[], ⟨rfl, none, 0, rfl, Nat.le_refl _, fun _ => ⟨rfl, rfl⟩, fun h => absurd h (Nat.lt_irrefl 0)⟩, fun x hx => absurd hx (by simp)⟩
  · simp only [List.cons.injEq, and_true] at hcs
    subst hcs
    simp only [if_true] at hmm
    subst hmm
    rw [clS] at hall
    have each : ∀ i, i < m → ∃ q : Rc.Sp, (∀ j u, (sc q)[j]? = some u → W.cell? (x.add (i * 3 + j)) = some u) ∧ Rc.I64 q.1 ∧ Rc.I64 q.2.1 ∧ Rc.I64 q.2.2 := fun i hi => by
      obtain ⟨cs', h1, h2⟩ := hall i hi
      obtain ⟨_, hlen, hcell⟩ := World.cells?_some h1
      obtain ⟨q, rfl, hw⟩ := Rc.fields64 h2 hlen
      refine ⟨q, fun j u hu => ?_, hw⟩
      have hj : j < 3 := (List.getElem?_eq_some_iff.1 hu).1
      have e0 := hcell j (by omega)
      rw [Deep.add_add] at e0
      rw [e0]
      exact hu
    haveI : Inhabited Rc.Sp := ⟨(0, 0, 0)⟩
    obtain ⟨q, hq⟩ := Deep.choose_lt each
    refine ⟨(List.range len).map q, ⟨by rw [flat_len sc_len], some x, m, by simp, by simpa using hl, fun e => absurd e (by simp), fun hp => ?_⟩, fun y hy => ?_⟩
    · have hp' : 0 < len := by simpa using hp
      have hsp : x.spot = none := spot_none (by have := (hq 0 (by omega)).1 0 _ rfl; simpa [Addr.add] using this)
      obtain ⟨b, off, r⟩ := x
      obtain rfl : r = none := hsp
      refine ⟨b, off, rfl, flat_read sc_len (fun i z hz j u hu => ?_) (by decide)⟩
      have hi : i < len := by simpa using (List.getElem?_eq_some_iff.1 hz).1
      have ez : z = q i := by simpa [hi] using hz.symm
      subst ez
      have := (hq i (by omega)).1 j u hu
      rwa [Rc.add_plain] at this
    · simp only [List.mem_map, List.mem_range] at hy
      obtain ⟨i, hi, rfl⟩ := hy
      exact (hq i (by omega)).2
set_option maxRecDepth 100000 in
theorem fields_item {H : Type} {enc : TypeId × Value → H} {W : World} {fuel : Nat} {cs : List Value} {x : DataW H × List MemPlace} (h : DataW.trod enc Tryd.prog W 0 (fun _ => true) true fuel 33 cs = some x) (hl : cs.length = 5) : ∃ q : Ip, cs = iv q ∧ q.1.wf ∧ Sv W q.2 q.1.L := by
  obtain ⟨ys, k, hk, hxy, _, hyl, hfe⟩ := DataW.trod_struct Tryd.underlying33 h
  match cs, hl with
  | [v0, v1, v2, v3, v4], _ =>
    have hy : ys.length = 4 := hyl
    match ys, hy with
    | [y0, y1, y2, y3], _ =>
      have g0 := hfe 0 _ rfl
      have g1 := hfe 1 _ rfl
      have g2 := hfe 2 _ rfl
      have g3 := hfe 3 _ rfl
      simp [cl3, clK, clL] at g0 g1 g2 g3
      obtain ⟨zs, k2, hk2, hz, _, hzl, hzf⟩ := DataW.trod_struct Tryd.underlying30 g1
      have hzl' : zs.length = 2 := hzl
      match zs, hzl' with
      | [z0, z1], _ =>
        have q0 := hzf 0 _ rfl
        have q1 := hzf 1 _ rfl
        simp [clU, cl9] at q0 q1
        obtain ⟨r, r1, _, wr⟩ := DataW.trod_int Tryd.underlying3 g0
        obtain ⟨a, a1, _, wa⟩ := DataW.trod_int Tryd.underlying28 q0
        obtain ⟨s, s1, _, ws⟩ := DataW.trod_string Tryd.underlying9 q1
        obtain ⟨t, t1, _, wt⟩ := DataW.trod_int Tryd.underlying3 g2
        obtain ⟨L, sL, wL⟩ := open_recipe g3
        simp only [List.cons.injEq, and_true] at r1 a1 s1 t1
        subst r1 a1 s1 t1
        exact ⟨(⟨r, a, s, t, L⟩, v4), rfl, ⟨Rc.i64_of wr, Rc.u16_of wa, Rc.i64_of wt, wL⟩, sL⟩
set_option maxRecDepth 100000 in
theorem open_items {H : Type} {enc : TypeId × Value → H} {W : World} {b0 : Nat} {v : Value} {d : DataW H} {p : List MemPlace} (hv : Value.okWide Tryd.prog W .any b0 22 v) (h : DataW.Trod enc Tryd.prog W 0 (fun _ => true) true 22 v d p) : ∃ ps : List Ip, Its W v ps ∧ ∀ q ∈ ps, q.1.wf := by
  obtain ⟨a, len, cap, rfl⟩ := okWide_slice Tryd.underlying22 hv
  obtain ⟨fuel, hf⟩ := h
  rcases Deep.open_slice Tryd.underlying22 hf with ⟨hcs, _⟩ | ⟨x, len', c, m, n, D, Pl, hcs, _, hl, hm, hmm, hx, hall⟩
  · simp [Value.cells] at hcs
    obtain ⟨rfl, rfl, rfl⟩ := hcs
    exact ⟨[], ⟨⟨rfl, none, 0, rfl, Nat.le_refl _, fun _ => ⟨rfl, rfl⟩, fun h => absurd h (Nat.lt_irrefl 0)⟩, fun q hq => absurd hq (by simp)⟩, fun q hq => absurd hq (by simp)⟩
  · simp [Value.cells] at hcs
    obtain ⟨rfl, rfl, rfl⟩ := hcs
    simp only [if_true] at hmm
    subst hmm
    rw [clI] at hall
    have each : ∀ i, i < m → ∃ q : Ip, (∀ j u, (iv q)[j]? = some u → W.cell? (x.add (i * 5 + j)) = some u) ∧ q.1.wf ∧ Sv W q.2 q.1.L := fun i hi => by
      obtain ⟨cs', h1, h2⟩ := hall i hi
      obtain ⟨_, hlen, hcell⟩ := World.cells?_some h1
      obtain ⟨q, rfl, hw⟩ := fields_item h2 hlen
      refine ⟨q, fun j u hu => ?_, hw⟩
      have hj : j < 5 := (List.getElem?_eq_some_iff.1 hu).1
      have e0 := hcell j (by omega)
      rw [Deep.add_add] at e0
      rw [e0]
      exact hu
    haveI : Inhabited Ip := ⟨(⟨0, 0, ⟨#[]⟩, 0, []⟩, .slice none 0 0)⟩
    obtain ⟨q, hq⟩ := Deep.choose_lt each
    refine ⟨(List.range len).map q, ⟨⟨by rw [flat_len iv_len], some x, m, by simp, by simpa using hl, fun e => absurd e (by simp), fun hp => ?_⟩, fun y hy => ?_⟩, fun y hy => ?_⟩
    · have hp' : 0 < len := by simpa using hp
      have hsp : x.spot = none := spot_none (by have := (hq 0 (by omega)).1 0 _ rfl; simpa [Addr.add] using this)
      obtain ⟨b, off, r⟩ := x
      obtain rfl : r = none := hsp
      refine ⟨b, off, rfl, flat_read iv_len (fun i z hz j u hu => ?_) (by decide)⟩
      have hi : i < len := by simpa using (List.getElem?_eq_some_iff.1 hz).1
      have ez : z = q i := by simpa [hi] using hz.symm
      subst ez
      have := (hq i (by omega)).1 j u hu
      rwa [Rc.add_plain] at this
    · simp only [List.mem_map, List.mem_range] at hy
      obtain ⟨i, hi, rfl⟩ := hy
      exact (hq i (by omega)).2.2
    · simp only [List.mem_map, List.mem_range] at hy
      obtain ⟨i, hi, rfl⟩ := hy
      exact (hq i (by omega)).2.1
end Go.Proofs.YtcbckehdlbbbbaaDoor
/- The small calls of a load, and of no load: Over, Waits, Wake, Timer, At, Number, Runs, Results, Clone, Step; which item may stand; the conditions are those that each states. -/
namespace Go.Proofs.YtcbckehdlbbbbaaDoor
open Go.RowKit Go.Maps Go.ChangeMaps
set_option linter.unusedVariables false
set_option linter.unusedSimpArgs false
section
variable (w : World)
theorem over_nil : Calls Tryd.prog 11 #[.pointer none] w fun e w' => e = .returned (.bool true) ∧ w' = w := by
  go_enter Tryd.func11, Tryd.ntmps11
  go_wp2
  go_ret
  exact ⟨rfl, rfl⟩
theorem waits_nil : Calls Tryd.prog 14 #[.pointer none] w fun e w' => e = .returned (.tuple #[.int .i64 0, .int .i64 0, .bool false]) ∧ w' = w := by
  go_enter Tryd.func14, Tryd.ntmps14
  go_wp2
  exact bodyPost_ret (v := .tuple #[.int .i64 0, .int .i64 0, .bool false]) (by simp [results, Tryd.results14, go_sem]) rfl ⟨rfl, rfl⟩
theorem wake_nil : Calls Tryd.prog 15 #[.pointer none] w fun e w' => e = .returned (.int .i64 142) ∧ w' = w := by
  have HO := hid (over_nil w)
  go_enter Tryd.func15, Tryd.ntmps15
  go_wp2_with (go_at_call 11; refine HO.out.mono ?_; rintro e w2 ⟨rfl, rfl⟩)
  go_ret
  exact ⟨rfl, rfl⟩
theorem timer_nil : Calls Tryd.prog 16 #[.pointer none] w fun e w' => e = .returned (.int .i64 0) ∧ w' = w := by
  go_enter Tryd.func16, Tryd.ntmps16
  go_wp2
  go_ret
  exact ⟨rfl, rfl⟩
theorem at_nil : Calls Tryd.prog 17 #[.pointer none] w fun e w' => e = .returned (.int .i64 0) ∧ w' = w := by
  go_enter Tryd.func17, Tryd.ntmps17
  go_wp2
  go_ret
  exact ⟨rfl, rfl⟩
theorem number_nil : Calls Tryd.prog 18 #[.pointer none] w fun e w' => e = .returned (.int .i64 0) ∧ w' = w := by
  go_enter Tryd.func18, Tryd.ntmps18
  go_wp2
  go_ret
  exact ⟨rfl, rfl⟩
theorem runs_nil : Calls Tryd.prog 19 #[.pointer none] w fun e w' => e = .returned (.slice none 0 0) ∧ w' = w := by
  go_enter Tryd.func19, Tryd.ntmps19
  go_wp2
  go_ret
  exact ⟨rfl, rfl⟩
theorem results_nil : Calls Tryd.prog 13 #[.pointer none] w fun e w' => e = .returned (.slice none 0 0) ∧ w' = w := by
  go_enter Tryd.func13, Tryd.ntmps13
  go_wp2
  go_ret
  exact ⟨rfl, rfl⟩
theorem clone_nil : Calls Tryd.prog 20 #[.pointer none] w fun e w' => e = .returned (.pointer none) ∧ w' = w := by
  go_enter Tryd.func20, Tryd.ntmps20
  go_wp2
  go_ret
  exact ⟨rfl, rfl⟩
theorem step_nil (g c t : Value) : Calls Tryd.prog 12 #[.pointer none, g, c, t] w fun e w' => e = .returned (.tuple #[.agg #[.int .i64 0, .int .i64 0, .int .i64 0, .int .i64 0], .int .i64 142]) ∧ Touch [] w w' := by
  have HO := hid (fun w => over_nil w)
  go_enter Tryd.func12, Tryd.ntmps12
  go_wp2_with (go_at_call 11; refine (HO.out _).mono ?_; rintro e w2 ⟨rfl, rfl⟩)
  exact bodyPost_ret (v := .tuple #[.agg #[.int .i64 0, .int .i64 0, .int .i64 0, .int .i64 0], .int .i64 142]) (by simp [results, Tryd.results12, go_sem]) rfl ⟨rfl, by repeat (first | exact Touch.refl _ _ | apply Touch.setCell | apply Touch.alloc | exact Or.inr (Nat.le_refl _))⟩
end
section
variable {w : World} {b r : Nat} {S : Ld} {vr vl : Value}
theorem over_yes (h : Lq w b r S vr vl) (e : S.left = []) : Calls Tryd.prog 11 #[.pointer (some ⟨b, 0, none⟩)] w fun e w' => e = .returned (.bool true) ∧ w' = w := by
  obtain ⟨a, c, rfl, hc⟩ := h.vform
  have c2 := cell_at (j := 2) (v := .slice a S.left.length c) h.bl rfl
  rw [e] at c2
  clear h hc e
  go_enter Tryd.func11, Tryd.ntmps11
  go_wp2
  go_ret
  exact ⟨rfl, rfl⟩
theorem over_no (h : Lq w b r S vr vl) {q : Ip} {l : List Ip} (e : S.left = q :: l) : Calls Tryd.prog 11 #[.pointer (some ⟨b, 0, none⟩)] w fun e w' => e = .returned (.bool false) ∧ w' = w := by
  obtain ⟨a, c, rfl, hc⟩ := h.vform
  have c2 := cell_at (j := 2) (v := .slice a S.left.length c) h.bl rfl
  have hz : ((S.left.length : Int) == 0) = false := by rw [e]; simp; omega
  clear h hc e
  generalize S.left.length = n at *
  go_enter Tryd.func11, Tryd.ntmps11
  go_wp2
  go_ret
  exact ⟨rfl, rfl⟩
theorem waits_no (h : Lq w b r S vr vl) (e : S.wt = 0) : Calls Tryd.prog 14 #[.pointer (some ⟨b, 0, none⟩)] w fun e w' => e = .returned (.tuple #[.int .i64 0, .int .i64 0, .bool false]) ∧ w' = w := by
  have c5 := cell_at (j := 5) (v := .int .i64 S.wt) h.bl rfl
  rw [e] at c5
  clear h e
  go_enter Tryd.func14, Tryd.ntmps14
  go_wp2
  exact bodyPost_ret (v := .tuple #[.int .i64 0, .int .i64 0, .bool false]) (by simp [results, Tryd.results14, go_sem]) rfl ⟨rfl, rfl⟩
theorem waits_yes (h : Lq w b r S vr vl) (e : S.wt ≠ 0) : Calls Tryd.prog 14 #[.pointer (some ⟨b, 0, none⟩)] w fun e w' => e = .returned (.tuple #[.int .i64 S.wt, .int .i64 S.on, .bool true]) ∧ Touch [] w w' := by
  have c5 := cell_at (j := 5) (v := .int .i64 S.wt) h.bl rfl
  have c6 := cell_at (j := 6) (v := .int .i64 S.on) h.bl rfl
  have hz : (S.wt == 0) = false := by simpa using e
  clear h e
  generalize S.wt = x at *
  generalize S.on = y at *
  go_enter Tryd.func14, Tryd.ntmps14
  go_wp2
  go_quiet (fail)
  go_wp2
  exact bodyPost_ret (v := .tuple #[.int .i64 x, .int .i64 y, .bool true]) (by simp [results, Tryd.results14, go_sem]) rfl ⟨rfl, (Touch.refl _ _).drewN _⟩
theorem at_ok (h : Lq w b r S vr vl) (hi : Iv S) : Calls Tryd.prog 17 #[.pointer (some ⟨b, 0, none⟩)] w fun e w' => e = .returned (.int .i64 (S.at_ : Nat)) ∧ Touch [] w w' := by
  obtain ⟨a, c, rfl, hc⟩ := h.vform
  obtain ⟨cr, rfl⟩ := h.vr
  have c1 := cell_at (j := 1) (v := .slice (some ⟨r, 0, none⟩) S.res.length cr) h.bl rfl
  have c2 := cell_at (j := 2) (v := .slice a S.left.length c) h.bl rfl
  have h1 := hi.len
  have h2 := hi.big
  have hw : IntKind.i64.wrap ((S.res.length : Int) - (S.left.length : Int)) = ((S.at_ : Nat) : Int) := by
    unfold Ld.at_
    rw [IntKind.wrap_i64]; omega
  clear h hc hi h1 h2
  generalize S.at_ = k at *
  generalize S.left.length = n at *
  generalize S.res.length = m at *
  go_enter Tryd.func17, Tryd.ntmps17
  go_wp2
  go_quiet (fail)
  go_wp2
  go_ret
  exact ⟨rfl, (Touch.refl _ _).drewN _⟩
theorem number_ok (h : Lq w b r S vr vl) : Calls Tryd.prog 18 #[.pointer (some ⟨b, 0, none⟩)] w fun e w' => e = .returned (.int .i64 S.num) ∧ w' = w := by
  have c0 := cell_at (j := 0) (v := .int .i64 S.num) h.bl rfl
  clear h
  generalize S.num = x at *
  go_enter Tryd.func18, Tryd.ntmps18
  go_wp2
  go_ret
  exact ⟨rfl, rfl⟩
/-- the load is let go on -/
theorem Lq.set3 (h : Lq w b r S vr vl) (tm : Int) : Lq (((w.setCell ⟨b, 5, none⟩ (.int .i64 0)).setCell ⟨b, 6, none⟩ (.int .i64 0)).setCell ⟨b, 7, none⟩ (.int .i64 tm)) b r (goS S S.p S.n 0 0 tm) vr vl ∧ Touch [b] w (((w.setCell ⟨b, 5, none⟩ (.int .i64 0)).setCell ⟨b, 6, none⟩ (.int .i64 0)).setCell ⟨b, 7, none⟩ (.int .i64 tm)) := by
  have T : Touch [b] w (((w.setCell ⟨b, 5, none⟩ (.int .i64 0)).setCell ⟨b, 6, none⟩ (.int .i64 0)).setCell ⟨b, 7, none⟩ (.int .i64 tm)) := (((Touch.refl _ _).setCell (Or.inl (by simp)) _).setCell (Or.inl (by simp)) _).setCell (Or.inl (by simp)) _
  refine ⟨⟨?_, own_touch h.row T (fun q hq e' => ?_), h.vr, h.lf.keep T (fun k hk => Or.inr (by simp only [List.mem_singleton] at hk; omega)), h.rb⟩, T⟩
  · have := bset (i := 7) (bset (i := 6) (bset (i := 5) h.bl (.int .i64 0)) (.int .i64 0)) (.int .i64 tm)
    simpa [lc, goS] using this
  · obtain ⟨c, e⟩ := h.vr
    rw [e] at hq
    simp only [Value.ownBlock, Option.some.injEq] at hq
    subst hq
    have := h.rb
    simp at e'
    omega
theorem wake_ok (h : Lq w b r S vr vl) {q : Ip} {l : List Ip} (e : S.left = q :: l) (e1 : S.wt ≠ 0) : Calls Tryd.prog 15 #[.pointer (some ⟨b, 0, none⟩)] w fun e w' => e = .returned (.int .i64 0) ∧ Lq w' b r (goS S S.p S.n 0 0 0) vr vl ∧ Touch [b] w w' := by
  have HO := hid (over_no h e)
  have HW := hid (waits_yes h e1)
  have HL : Hid (∀ w', Touch [] w w' → (w'.cell? ⟨b, 5, none⟩ = some (.int .i64 S.wt) ∧ w'.cell? ⟨b, 6, none⟩ = some (.int .i64 S.on) ∧ w'.cell? ⟨b, 7, none⟩ = some (.int .i64 S.tm) ∧ (∀ i, w'.frozen? ⟨b, i, none⟩ = false) ∧ b < w'.heap.size) ∧ Lq (((w'.setCell ⟨b, 5, none⟩ (.int .i64 0)).setCell ⟨b, 6, none⟩ (.int .i64 0)).setCell ⟨b, 7, none⟩ (.int .i64 0)) b r (goS S S.p S.n 0 0 0) vr vl ∧ Touch [b] w (((w'.setCell ⟨b, 5, none⟩ (.int .i64 0)).setCell ⟨b, 6, none⟩ (.int .i64 0)).setCell ⟨b, 7, none⟩ (.int .i64 0))) := hid (fun w' T => by
    have h2 := h.keep0 T
    obtain ⟨k1, k2⟩ := h2.set3 0
    exact ⟨⟨cell_at h2.bl rfl, cell_at h2.bl rfl, cell_at h2.bl rfl, froz_at h2.bl, block_lt h2.bl⟩, k1, (T.mono (fun _ e => by cases e)).trans' k2⟩)
  clear h e e1
  generalize goS S S.p S.n 0 0 0 = S' at *
  generalize S.wt = x at *
  generalize S.on = y at *
  generalize S.tm = z at *
  go_enter Tryd.func15, Tryd.ntmps15
  go_wp2_with (first
    | (go_at_call 11; refine HO.out.mono ?_; rintro e w2 ⟨rfl, rfl⟩)
    | (go_at_call 14; refine HW.out.mono ?_; rintro e w3 ⟨rfl, t3⟩; obtain ⟨⟨d5, d6, d7, df, dl⟩, R⟩ := HL.out w3 t3; have RR := hid R; clear t3 R)
    | fail)
  go_ret
  exact ⟨rfl, RR.out.1, RR.out.2⟩
end
/-- which key may be -/
theorem kcheck_ (w : World) (sp : Int) (nm : ByteArray) : Calls Tryd.prog 42 #[.agg #[.int .u16 sp, .string nm]] w fun e w' => e = .returned (.int .i64 (if 64 < nm.size then 20 else 0)) ∧ Touch [] w w' := by
  by_cases h : 64 < nm.size
  · have h' : (64 : Int) < (nm.size : Int) := by omega
    rw [if_pos h]
    clear h
    go_enter Tryd.func42, Tryd.ntmps42
    go_wp2
    go_ret
    exact ⟨rfl, (Touch.refl _ _).alloc _⟩
  · have h' : ¬ (64 : Int) < (nm.size : Int) := by omega
    rw [if_neg h]
    clear h
    go_enter Tryd.func42, Tryd.ntmps42
    go_wp2
    go_ret
    exact ⟨rfl, (Touch.refl _ _).alloc _⟩
/-- which item may stand behind a run -/
def mayE (ahead : Int) (x : It) : Int := if x.run ≤ ahead ∨ x.tok < 0 then 140 else if 64 < x.nm.size then 20 else (Rc.chkS x.L).2
theorem mayE_ok {ahead : Int} {x : It} (h : mayE ahead x = 0) (ha : 0 ≤ ahead) (hw : x.wf) : x.ok ∧ ahead < x.run := by
  unfold mayE at h
  split at h
  · cases h
  · rename_i h1
    split at h
    · cases h
    · rename_i h2
      have h3 : ahead < x.run := by
        rcases Int.lt_or_le ahead x.run with e | e
        · exact e
        · exact absurd (Or.inl e) h1
      have h4 : 0 ≤ x.tok := by
        rcases Int.lt_or_le x.tok 0 with e | e
        · exact absurd (Or.inr e) h1
        · exact e
      exact ⟨⟨hw, by omega, by omega, h4, Rc.chk_good.1 h⟩, h3⟩
theorem Kd.touch {w w' : World} (h : Rc.Kd w) (T : Touch [] w w') : Rc.Kd w' := h.gr (T.below (fun k hk => by cases hk) (Nat.le_refl _))
theorem Gr.touch {w w' : World} (h : Rc.Gr w w') : Touch [] w w' := Touch.of_below h
set_option maxHeartbeats 2000000 in
theorem may_ (w : World) (ahead : Int) (q : Ip) (hk : Rc.Kd w) (hs : Sv w q.2 q.1.L) (hw : q.1.wf) : Calls Tryd.prog 26 #[.int .i64 ahead, .agg (iv q).toArray] w fun e w' => e = .returned (.int .i64 (mayE ahead q.1)) ∧ Touch [] w w' := by
  obtain ⟨⟨run, sp, nm, tok, L⟩, v⟩ := q
  obtain ⟨a, c, e, _⟩ := Rv.form hs
  dsimp only at e hs hw
  subst e
  show Calls Tryd.prog 26 #[.int .i64 ahead, .agg #[.int .i64 run, .int .u16 sp, .string nm, .int .i64 tok, .slice a L.length c]] w _
  have HR : Hid (∀ w', Touch [] w w' → Calls Tryd.prog 43 #[.slice a L.length c] w' fun e w2 => e = .returned (.tuple #[.int .i64 (Rc.chkS L).1, .int .i64 (Rc.chkS L).2]) ∧ Touch [] w w2) := hid (fun w' T => by
    refine (Rc.check8 L a c w' (Kd.touch hk T) (hs.keep0 T).sl.2 hw.L).mono ?_
    rintro e w2 ⟨rfl, g⟩
    exact ⟨rfl, T.trans' (Gr.touch g)⟩)
  have HK : Hid (∀ w', Touch [] w w' → Calls Tryd.prog 42 #[.agg #[.int .u16 sp, .string nm]] w' fun e w2 => e = .returned (.int .i64 (if 64 < nm.size then 20 else 0)) ∧ Touch [] w w2) := hid (fun w' T => by
    refine (kcheck_ w' sp nm).mono ?_
    rintro e w2 ⟨rfl, g⟩
    exact ⟨rfl, T.trans' g⟩)
  clear hk hs hw
  have HE : Hid (mayE ahead ⟨run, sp, nm, tok, L⟩ = if run ≤ ahead ∨ tok < 0 then 140 else if 64 < nm.size then 20 else (Rc.chkS L).2) := hid rfl
  generalize mayE ahead ⟨run, sp, nm, tok, L⟩ = E at *
  generalize (Rc.chkS L).1 = k1 at *
  generalize (Rc.chkS L).2 = k2 at *
  by_cases h1 : run ≤ ahead
  · rw [if_pos (Or.inl h1)] at HE
    go_enter Tryd.func26, Tryd.ntmps26
    go_wp2
    go_ret
    exact ⟨by rw [HE.out]; rfl, (Touch.refl _ _).alloc _⟩
  · by_cases h2 : tok < 0
    · rw [if_pos (Or.inr h2)] at HE
      go_enter Tryd.func26, Tryd.ntmps26
      go_wp2
      go_ret
      exact ⟨by rw [HE.out]; rfl, (Touch.refl _ _).alloc _⟩
    · rw [if_neg (fun e => e.elim h1 h2)] at HE
      by_cases h3 : 64 < nm.size
      · rw [if_pos h3] at HE HK
        go_enter Tryd.func26, Tryd.ntmps26
        go_wp2_with (go_at_call 42; refine (HK.out _ ((Touch.refl _ _).alloc _)).mono ?_; rintro e w2 ⟨rfl, t2⟩; have T2 := hid t2; clear t2)
        go_ret
        exact ⟨by rw [HE.out]; rfl, T2.out⟩
      · rw [if_neg h3] at HE HK
        have HB : Hid (∀ w', Touch [] (w.alloc (.cells #[.int .i64 run, .int .u16 sp, .string nm, .int .i64 tok, .slice a L.length c] 33)) w' → w'.cell? ⟨w.heap.size, 4, none⟩ = some (.slice a L.length c)) := hid (fun w' T => cell_at (T.keep (heap_alloc_new w _) (by simp)) rfl)
        have HK2 : Hid (Calls Tryd.prog 42 #[.agg #[.int .u16 sp, .string nm]] (w.alloc (.cells #[.int .i64 run, .int .u16 sp, .string nm, .int .i64 tok, .slice a L.length c] 33)) fun e w2 => e = .returned (.int .i64 0) ∧ Touch [] w w2 ∧ w2.cell? ⟨w.heap.size, 4, none⟩ = some (.slice a L.length c)) := hid (by
          have hk := kcheck_ (w.alloc (.cells #[.int .i64 run, .int .u16 sp, .string nm, .int .i64 tok, .slice a L.length c] 33)) sp nm
          rw [if_neg h3] at hk
          refine hk.mono ?_
          rintro e w2 ⟨rfl, g⟩
          exact ⟨rfl, ((Touch.refl _ _).alloc _).trans' g, HB.out w2 g⟩)
        clear HK HB h3
        go_enter Tryd.func26, Tryd.ntmps26
        go_wp2_with (first
          | (go_at_call 42; refine HK2.out.mono ?_; rintro e w2 ⟨rfl, t2, c2⟩; have T2 := hid t2; clear t2)
          | (go_at_call 43; refine (HR.out _ T2.out).mono ?_; rintro e w3 ⟨rfl, t3⟩; have T3 := hid t3; clear t3)
          | fail)
        go_ret
        exact ⟨by rw [HE.out]; rfl, T3.out⟩
end Go.Proofs.YtcbckehdlbbbbaaDoor
/- A load whose recipe panicked ends each run with the one outcome: the program's panics; the conditions are those that it states. -/
namespace Go.Proofs.YtcbckehdlbbbbaaDoor
open Go.RowKit Go.Maps Go.ChangeMaps
set_option linter.unusedVariables false
set_option linter.unusedSimpArgs false
section
variable {w : World} {b r : Nat} {S : Ld} {vr vl : Value}
/-- results that were changed -/
def Ld.with_ (S : Ld) (res : List Rz) : Ld := ⟨S.num, res, S.left, S.p, S.n, S.wt, S.on, S.tm⟩
/-- the four cells of an outcome, written -/
def wrO (w : World) (g o : Nat) (x : Oc) : World := (((w.setCell ⟨g, o, none⟩ (.int .i64 x.1)).setCell ⟨g, o + 1, none⟩ (.int .i64 x.2.1)).setCell ⟨g, o + 2, none⟩ (.int .i64 x.2.2.1)).setCell ⟨g, o + 3, none⟩ (.int .i64 x.2.2.2)
theorem touch_wrO (w : World) (g o : Nat) (x : Oc) : Touch [g] w (wrO w g o x) := by
  unfold wrO
  exact ((((Touch.refl _ _).setCell (Or.inl (by simp)) _).setCell (Or.inl (by simp)) _).setCell (Or.inl (by simp)) _).setCell (Or.inl (by simp)) _
theorem set4_put {res : List Rz} {i : Nat} (hi : i < res.length) (x : Oc) : ((((res.flatMap rzc).set (i * 5 + 1) (.int .i64 x.1)).set (i * 5 + 1 + 1) (.int .i64 x.2.1)).set (i * 5 + 1 + 2) (.int .i64 x.2.2.1)).set (i * 5 + 1 + 3) (.int .i64 x.2.2.2) = (putO res i x).flatMap rzc := by
  have hg : res[i]? = some res[i] := List.getElem?_eq_getElem hi
  obtain ⟨n, v, k, c⟩ := x
  have e1 := flat_set rzc_len res hg (j := 1) (by decide) (v := .int .i64 n) (y := (res[i].1, n, res[i].2.2.1, res[i].2.2.2.1, res[i].2.2.2.2)) rfl
  rw [e1]
  have g1 : (res.set i (res[i].1, n, res[i].2.2.1, res[i].2.2.2.1, res[i].2.2.2.2))[i]? = some (res[i].1, n, res[i].2.2.1, res[i].2.2.2.1, res[i].2.2.2.2) := by simp [hi]
  have e2 := flat_set rzc_len _ g1 (j := 2) (by decide) (v := .int .i64 v) (y := (res[i].1, n, v, res[i].2.2.2.1, res[i].2.2.2.2)) rfl
  rw [show i * 5 + 1 + 1 = i * 5 + 2 by omega, e2, List.set_set]
  have g2 : (res.set i (res[i].1, n, v, res[i].2.2.2.1, res[i].2.2.2.2))[i]? = some (res[i].1, n, v, res[i].2.2.2.1, res[i].2.2.2.2) := by simp [hi]
  have e3 := flat_set rzc_len _ g2 (j := 3) (by decide) (v := .int .i64 k) (y := (res[i].1, n, v, k, res[i].2.2.2.2)) rfl
  rw [show i * 5 + 1 + 2 = i * 5 + 3 by omega, e3, List.set_set]
  have g3 : (res.set i (res[i].1, n, v, k, res[i].2.2.2.2))[i]? = some (res[i].1, n, v, k, res[i].2.2.2.2) := by simp [hi]
  have e4 := flat_set rzc_len _ g3 (j := 4) (by decide) (v := .int .i64 c) (y := (res[i].1, n, v, k, c)) rfl
  rw [show i * 5 + 1 + 3 = i * 5 + 4 by omega, e4, List.set_set]
  unfold putO
  rw [List.getD_eq_getElem?_getD, hg]
  rfl
theorem Lq.put (h : Lq w b r S vr vl) {i : Nat} (hi : i < S.res.length) (x : Oc) : Lq (wrO w r (i * 5 + 1) x) b r (S.with_ (putO S.res i x)) vr vl := by
  obtain ⟨c, rfl⟩ := h.vr
  have T := touch_wrO w r (i * 5 + 1) x
  refine ⟨T.keep h.bl (by simp; have := h.rb; omega), ?_, ⟨c, by simp [Ld.with_, putO_len]⟩, h.lf.keep T (fun k hk => Or.inl (by simpa using hk)), h.rb⟩
  have := own_set (own_set (own_set (own_set h.row (i * 5 + 1) (.int .i64 x.1)) (i * 5 + 1 + 1) (.int .i64 x.2.1)) (i * 5 + 1 + 2) (.int .i64 x.2.2.1)) (i * 5 + 1 + 3) (.int .i64 x.2.2.2)
  rw [set4_put hi] at this
  show World.ownsRow _ _ _ _ _ (putO S.res i x).length ((putO S.res i x).flatMap rzc)
  rw [putO_len]
  exact this
/-- nothing is left of a load's items -/
theorem Lq.nil (h : Lq w b r S vr vl) : Lq (w.setCell ⟨b, 2, none⟩ (.slice none 0 0)) b r ⟨S.num, S.res, [], S.p, S.n, S.wt, S.on, S.tm⟩ vr (.slice none 0 0) ∧ Touch [b] w (w.setCell ⟨b, 2, none⟩ (.slice none 0 0)) := by
  have T : Touch [b] w (w.setCell ⟨b, 2, none⟩ (.slice none 0 0)) := (Touch.refl _ _).setCell (Or.inl (by simp)) _
  refine ⟨⟨?_, own_touch h.row T (fun q hq e' => ?_), h.vr, Lf.nil _ _ _, h.rb⟩, T⟩
  · have := bset (i := 2) h.bl (.slice none 0 0)
    simpa [lc] using this
  · obtain ⟨c, e⟩ := h.vr
    rw [e] at hq
    simp only [Value.ownBlock, Option.some.injEq] at hq
    subst hq
    have := h.rb
    simp at e'
    omega
end
/-- the first so many have the one outcome -/
def partO (res : List Rz) (j : Nat) (o : Oc) : List Rz := allO (res.take j) o ++ res.drop j
theorem partO_len (res : List Rz) (j : Nat) (o : Oc) : (partO res j o).length = res.length := by
  simp [partO, allO]
  omega
theorem partO_step {res : List Rz} {j : Nat} (h : j < res.length) (o : Oc) : putO (partO res j o) j o = partO res (j + 1) o := by
  have e1 : (partO res j o).getD j (0, 0, 0, 0, 0) = res[j] := by
    unfold partO
    rw [List.getD_eq_getElem?_getD, List.getElem?_append_right (by simp [allO]; omega)]
    simp [allO, Nat.min_eq_left (Nat.le_of_lt h), h]
  unfold putO
  rw [e1]
  unfold partO
  rw [List.set_append_right _ _ (by simp [allO]; omega), List.take_succ_eq_append_getElem h]
  have e2 : j - (allO (res.take j) o).length = 0 := by simp [allO]; omega
  rw [e2, List.drop_eq_getElem_cons h, List.set_cons_zero]
  simp only [allO, List.map_append, List.map_cons, List.map_nil, List.append_assoc, List.cons_append, List.nil_append]
theorem partO_all (res : List Rz) (o : Oc) : partO res res.length o = allO res o := by simp [partO]
section
variable {w : World} {b r : Nat} {S : Ld} {vr vl : Value}
set_option maxHeartbeats 4000000 in
theorem panics_ (h : Lq w b r S vr vl) (hb : S.res.length ≤ 1024) (o : Oc) : Calls Tryd.prog 47 #[.pointer (some ⟨b, 0, none⟩), .agg #[.int .i64 o.1, .int .i64 o.2.1, .int .i64 o.2.2.1, .int .i64 o.2.2.2]] w fun e w' => e = .returned (.tuple #[]) ∧ Lq w' b r ⟨S.num, allO S.res o, [], S.p, S.n, S.wt, S.on, S.tm⟩ vr (.slice none 0 0) ∧ Touch [b, r] w w' := by
  obtain ⟨cr, rfl⟩ := h.vr
  obtain ⟨V, hV⟩ : ∃ V, V = w.alloc (.cells #[.int .i64 o.1, .int .i64 o.2.1, .int .i64 o.2.2.1, .int .i64 o.2.2.2] 51) := ⟨_, rfl⟩
  have tv : Touch [] w V := by rw [hV]; exact (Touch.refl _ _).alloc _
  have hbx : V.heap[w.heap.size]? = some (.cells #[.int .i64 o.1, .int .i64 o.2.1, .int .i64 o.2.2.1, .int .i64 o.2.2.2] 51 (0, 0)) := by rw [hV]; exact heap_alloc_new w _
  have hbw : b < w.heap.size := block_lt h.bl
  have hv := h.keep0 tv
  obtain ⟨k1, k2⟩ := hv.nil
  have d2 := froz_at hv.bl 2
  have d2c : ∃ a c, V.cell? ⟨b, 2, none⟩ = some (.slice a S.left.length c) := by
    obtain ⟨a, c, e, _⟩ := h.vform
    subst e
    exact ⟨a, c, cell_at hv.bl rfl⟩
  obtain ⟨al, cl, d2c⟩ := d2c
  have dl := block_lt hv.bl
  have HI : Hid (∀ wr j, Lq wr b r ⟨S.num, partO S.res j o, [], S.p, S.n, S.wt, S.on, S.tm⟩ (.slice (some ⟨r, 0, none⟩) S.res.length cr) (.slice none 0 0) → Touch [b, r] V wr → j < S.res.length →
      (wr.cell? ⟨b, 1, none⟩ = some (.slice (some ⟨r, 0, none⟩) S.res.length cr) ∧ wr.cell? ⟨w.heap.size, 0, none⟩ = some (.int .i64 o.1) ∧ wr.cell? ⟨w.heap.size, 1, none⟩ = some (.int .i64 o.2.1) ∧ wr.cell? ⟨w.heap.size, 2, none⟩ = some (.int .i64 o.2.2.1) ∧ wr.cell? ⟨w.heap.size, 3, none⟩ = some (.int .i64 o.2.2.2))
      ∧ ((∃ x0 x1 x2 x3 : Int, wr.cell? ⟨r, j * 5 + 1, none⟩ = some (.int .i64 x0) ∧ wr.cell? ⟨r, j * 5 + 2, none⟩ = some (.int .i64 x1) ∧ wr.cell? ⟨r, j * 5 + 3, none⟩ = some (.int .i64 x2) ∧ wr.cell? ⟨r, j * 5 + 4, none⟩ = some (.int .i64 x3)) ∧ ∀ i, wr.frozen? ⟨r, i, none⟩ = false)
      ∧ Lq (wrO wr.drew r (j * 5 + 1) o) b r ⟨S.num, partO S.res (j + 1) o, [], S.p, S.n, S.wt, S.on, S.tm⟩ (.slice (some ⟨r, 0, none⟩) S.res.length cr) (.slice none 0 0) ∧ Touch [b, r] V (wrO wr.drew r (j * 5 + 1) o)) := hid (fun wr j hq T hj => by
    have hrb := h.rb
    have hx := T.keep hbx (by simp; omega)
    have hlen := partO_len S.res j o
    have hq0 := hq
    have hget : (partO S.res j o)[j]? = some ((partO S.res j o)[j]'(by omega)) := List.getElem?_eq_getElem _
    have hq1 : Lq wr b r ⟨S.num, partO S.res j o, [], S.p, S.n, S.wt, S.on, S.tm⟩ (.slice (some ⟨r, 0, none⟩) (partO S.res j o).length cr) (.slice none 0 0) := by rw [hlen]; exact hq
    obtain ⟨z0, z1, z2, z3, z4⟩ := Lq.res hq1 hget
    refine ⟨⟨cell_at hq.bl rfl, cell_at hx rfl, cell_at hx rfl, cell_at hx rfl, cell_at hx rfl⟩, ⟨⟨_, _, _, _, z1, z2, z3, z4⟩, fun i => ?_⟩, ?_, ?_⟩
    · have := own_frozen hq1.row
      exact this i
    · have := (hq.keep0 (Touch.refl [] wr).drew).put (i := j) (by show j < (partO S.res j o).length; omega) o
      rw [show (⟨S.num, partO S.res (j + 1) o, [], S.p, S.n, S.wt, S.on, S.tm⟩ : Ld) = (⟨S.num, partO S.res j o, [], S.p, S.n, S.wt, S.on, S.tm⟩ : Ld).with_ (putO (partO S.res j o) j o) by rw [partO_step hj]; rfl]
      exact this
    · exact (T.trans' (Touch.refl _ _).drew).trans (touch_wrO wr.drew r (j * 5 + 1) o) (fun k hk => Or.inl (by simp at hk; simp [hk])))
  have HD : Hid (∀ wr, Lq wr b r ⟨S.num, partO S.res S.res.length o, [], S.p, S.n, S.wt, S.on, S.tm⟩ (.slice (some ⟨r, 0, none⟩) S.res.length cr) (.slice none 0 0) → Touch [b, r] V wr → Lq wr b r ⟨S.num, allO S.res o, [], S.p, S.n, S.wt, S.on, S.tm⟩ (.slice (some ⟨r, 0, none⟩) S.res.length cr) (.slice none 0 0) ∧ Touch [b, r] w wr) := hid (fun wr q T => by
    rw [partO_all] at q
    exact ⟨q, (tv.mono (fun _ e => by cases e)).trans' T⟩)
  have H0 : Hid (Lq (V.setCell ⟨b, 2, none⟩ (.slice none 0 0)) b r ⟨S.num, partO S.res 0 o, [], S.p, S.n, S.wt, S.on, S.tm⟩ (.slice (some ⟨r, 0, none⟩) S.res.length cr) (.slice none 0 0) ∧ Touch [b, r] V (V.setCell ⟨b, 2, none⟩ (.slice none 0 0))) := hid ⟨k1, k2.mono (fun k hk => by simp at hk; simp [hk])⟩
  have c1 : (V.setCell ⟨b, 2, none⟩ (.slice none 0 0)).cell? ⟨b, 1, none⟩ = some (.slice (some ⟨r, 0, none⟩) S.res.length cr) := cell_at k1.bl rfl
  have hle : (S.res.length : Int) ≤ 1024 := by omega
  clear h hv k1 k2 tv hbx hb hbw
  generalize (⟨S.num, allO S.res o, [], S.p, S.n, S.wt, S.on, S.tm⟩ : Ld) = S' at *
  generalize S.res.length = n at *
  go_enter Tryd.func47, Tryd.ntmps47
  go_upto_region 1 with fail
  rw [← hV]
  clear hV
  go_wp2
  generalize V.setCell ⟨b, 2, none⟩ (.slice none 0 0) = V1 at *
  clear d2 d2c dl
  go_loopw [13] (fun i wr => ∃ j : Nat, i = .int .i64 j ∧ j ≤ n ∧ Hid (Lq wr b r ⟨S.num, partO S.res j o, [], S.p, S.n, S.wt, S.on, S.tm⟩ (.slice (some ⟨r, 0, none⟩) n cr) (.slice none 0 0) ∧ Touch [b, r] V wr)) (fun i _ => n - (intOf i).toNat)
  case atStart => exact ⟨0, rfl, Nat.zero_le _, H0.out⟩
  case round =>
    obtain ⟨j, rfl, hj, HR⟩ := hrel
    by_cases hlt : j < n
    · have zk : (j : Int) < (n : Int) := by omega
      obtain ⟨⟨y1, p0, p1, p2, p3⟩, ⟨⟨x0, x1, x2, x3, z0, z1, z2, z3⟩, zf⟩, R⟩ := HI.out wr j HR.out.1 HR.out.2 hlt
      have RR := hid R
      clear R HI HD c1 H0
      unfold wrO at RR
      go_wp2
      go_region
      go_wp2
      go_roundw
      case rel => exact ⟨j + 1, by go_num, by omega, RR.out⟩
      case measure => simp [intOf]; omega
    · have e : j = n := by omega
      subst e
      have HX := hid (HD.out wr HR.out.1 HR.out.2)
      clear HD HI
      go_wp2
      go_end0
      exact ⟨rfl, HX.out⟩
end
end Go.Proofs.YtcbckehdlbbbbaaDoor
