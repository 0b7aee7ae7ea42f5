/- A load's Step by what its recipe's next step is, with gates at which nobody waits, a clock, or none of them; the conditions are those that each states. -/
import Derived.Test.YtcbckehdlbbbbaaDoorMcLst
import Derived.Test.YtcbckehdlbbbbaaDoorMc04
import Derived.Test.YtcbckehdlbbbbaaDoorMc02
namespace Go.Proofs.YtcbckehdlbbbbaaDoor
open Go.RowKit Go.Maps Go.ChangeMaps
set_option linter.unusedVariables false
set_option linter.unusedSimpArgs false
section
variable {w : World} {b r : Nat} {S : Ld} {vr vl : Value} {q : Ip} {l : List Ip} {vg vc vt : Value} {k : Nat} {m on : Int}
theorem step_none (h : Lq w b r S vr vl) (hk : Rc.Kd w) (hi : Iv S) (e : S.left = q :: l) (hwt : S.wt = 0) (ht : Tk w vt) (hf : q.1.f S.p S.n = .go k m 0 on) :
    Calls Tryd.prog 12 #[.pointer (some ⟨b, 0, none⟩), vg, vc, vt] w fun e w' => e = .returned (.tuple #[.agg #[.int .i64 1, .int .i64 q.1.run, .int .i64 0, .int .i64 0], .int .i64 0]) ∧ Lq w' b r (goS S k m 0 on 0) vr vl ∧ Touch [b] w w' := by
  have hb := block_lt h.bl
  refine (step_go h hk hi e hwt vg vc vt ht hf (fun w1 w2 y0 y1 y2 y3 er => (y0 = 1 ∧ y1 = q.1.run ∧ y2 = 0 ∧ y3 = 0 ∧ er = 0) ∧ Lq w2 b r (goS S k m 0 on 0) vr vl ∧ Touch [b] w1 w2) (fun w1 T1 => ?_)).mono ?_
  · refine (goOn_none (h.keep0 T1) e k m on vg vc).mono ?_
    rintro e' w2 ⟨rfl, x1, x2⟩
    exact ⟨_, _, _, _, _, [b], rfl, x2, by simp; omega, ⟨rfl, rfl, rfl, rfl, rfl⟩, x1, x2⟩
  · rintro e' w' ⟨y0, y1, y2, y3, er, w1, w2, rfl, T1, z1, ⟨⟨rfl, rfl, rfl, rfl, rfl⟩, x1, x2⟩, T2⟩
    exact ⟨rfl, x1.keep T2 (fun k hk => by simp at hk; omega), ((T1.mono (fun _ e => by cases e)).trans' x2).trans T2 (fun k hk => Or.inr (by simp at hk; omega))⟩
theorem step_open {g : Nat} {op : Nat → Bool} (h : Lq w b r S vr vl) (hk : Rc.Kd w) (hi : Iv S) (e : S.left = q :: l) (hwt : S.wt = 0) (ht : Tk w vt) (hf : q.1.f S.p S.n = .go k m 1 on) (hg : Gn w g op) (hop : ∀ i, i < 256 → op i = true) :
    Calls Tryd.prog 12 #[.pointer (some ⟨b, 0, none⟩), .pointer (some ⟨g, 0, none⟩), vc, vt] w fun e w' => e = .returned (.tuple #[.agg #[.int .i64 1, .int .i64 q.1.run, .int .i64 0, .int .i64 0], .int .i64 0]) ∧ Lq w' b r (goS S k m 0 0 0) vr vl ∧ Touch [b] w w' := by
  have hb := block_lt h.bl
  have hq : q.1.ok := hi.ok q (by rw [e]; simp)
  have ho := ((It.f_kind hq hf).1 rfl).1
  refine (step_go h hk hi e hwt (.pointer (some ⟨g, 0, none⟩)) vc vt ht hf (fun w1 w2 y0 y1 y2 y3 er => (y0 = 1 ∧ y1 = q.1.run ∧ y2 = 0 ∧ y3 = 0 ∧ er = 0) ∧ Lq w2 b r (goS S k m 0 0 0) vr vl ∧ Touch [b] w1 w2) (fun w1 T1 => ?_)).mono ?_
  · refine (goOn_open (h.keep0 T1) e k m on (.pointer (some ⟨g, 0, none⟩)) vc (FG := []) (fun _ e => by cases e) (fun w2 T2 => ?_)).mono ?_
    · refine (gcome_open ((hg.keep (T1.trans' T2) (by simp))) on S.num hi.num ho.1 ho.2 (hop _ (by omega))).mono ?_
      rintro e' w3 ⟨rfl, rfl⟩
      exact ⟨rfl, Touch.refl _ _⟩
    · rintro e' w2 ⟨rfl, x1, x2⟩
      exact ⟨_, _, _, _, _, [b], rfl, x2, by simp; omega, ⟨rfl, rfl, rfl, rfl, rfl⟩, x1, x2⟩
  · rintro e' w' ⟨y0, y1, y2, y3, er, w1, w2, rfl, T1, z1, ⟨⟨rfl, rfl, rfl, rfl, rfl⟩, x1, x2⟩, T2⟩
    exact ⟨rfl, x1.keep T2 (fun k hk => by simp at hk; omega), ((T1.mono (fun _ e => by cases e)).trans' x2).trans T2 (fun k hk => Or.inr (by simp at hk; omega))⟩
theorem step_shut {g : Nat} {op : Nat → Bool} (h : Lq w b r S vr vl) (hk : Rc.Kd w) (hi : Iv S) (e : S.left = q :: l) (hwt : S.wt = 0) (ht : Tk w vt) (hf : q.1.f S.p S.n = .go k m 1 on) (hg : Gn w g op) (hop : ∀ i, i < 256 → op i = false) (hgb : b < g) :
    Calls Tryd.prog 12 #[.pointer (some ⟨b, 0, none⟩), .pointer (some ⟨g, 0, none⟩), vc, vt] w fun e w' => e = .returned (.tuple #[.agg #[.int .i64 2, .int .i64 q.1.run, .int .i64 on, .int .i64 0], .int .i64 0]) ∧ Lq w' b r (goS S k m 1 on 0) vr vl ∧ Touch [b, g] w w' := by
  have hb := block_lt h.bl
  have hgl := block_lt hg
  have hq : q.1.ok := hi.ok q (by rw [e]; simp)
  have ho := ((It.f_kind hq hf).1 rfl).1
  refine (step_go h hk hi e hwt (.pointer (some ⟨g, 0, none⟩)) vc vt ht hf (fun w1 w2 y0 y1 y2 y3 er => (y0 = 2 ∧ y1 = q.1.run ∧ y2 = on ∧ y3 = 0 ∧ er = 0) ∧ Lq w2 b r (goS S k m 1 on 0) vr vl ∧ Touch [b, g] w1 w2) (fun w1 T1 => ?_)).mono ?_
  · refine (goOn_shut (h.keep0 T1) e k m on (.pointer (some ⟨g, 0, none⟩)) vc (FG := [g]) (fun k hk => by simp at hk; have := T1.size; subst hk; omega) (fun w2 T2 => ?_)).mono ?_
    · refine (gcome_shut ((hg.keep (T1.trans' T2) (by simp))) on S.num hi.num ho.1 ho.2 (hop _ (by omega))).mono ?_
      rintro e' w3 ⟨rfl, t3⟩
      exact ⟨rfl, t3⟩
    · rintro e' w2 ⟨rfl, x1, x2⟩
      exact ⟨_, _, _, _, _, [b, g], rfl, x2, by simp; omega, ⟨rfl, rfl, rfl, rfl, rfl⟩, x1, x2⟩
  · rintro e' w' ⟨y0, y1, y2, y3, er, w1, w2, rfl, T1, z1, ⟨⟨rfl, rfl, rfl, rfl, rfl⟩, x1, x2⟩, T2⟩
    exact ⟨rfl, x1.keep T2 (fun k hk => by simp at hk; omega), ((T1.mono (fun _ e => by cases e)).trans' x2).trans T2 (fun k hk => Or.inr (by simp at hk; omega))⟩
theorem step_gnil (h : Lq w b r S vr vl) (hk : Rc.Kd w) (hi : Iv S) (e : S.left = q :: l) (hwt : S.wt = 0) (ht : Tk w vt) (hf : q.1.f S.p S.n = .go k m 1 on) :
    Calls Tryd.prog 12 #[.pointer (some ⟨b, 0, none⟩), .pointer none, vc, vt] w fun e w' => e = .returned (.tuple #[.agg #[.int .i64 0, .int .i64 0, .int .i64 0, .int .i64 0], .int .i64 1]) ∧ Lq w' b r S vr vl ∧ Touch [] w w' := by
  have hb := block_lt h.bl
  refine (step_go h hk hi e hwt (.pointer none) vc vt ht hf (fun w1 w2 y0 y1 y2 y3 er => (y0 = 0 ∧ y1 = 0 ∧ y2 = 0 ∧ y3 = 0 ∧ er = 1) ∧ Lq w2 b r S vr vl ∧ Touch [] w1 w2) (fun w1 T1 => ?_)).mono ?_
  · refine (goOn_gerr (h.keep0 T1) e k m on 1 (by decide) (.pointer none) vc (FG := []) (fun k hk => by cases hk) (fun w2 T2 => ?_)).mono ?_
    · refine (gcome_nil w2 on S.num).mono ?_
      rintro e' w3 ⟨rfl, rfl⟩
      exact ⟨rfl, Touch.refl _ _⟩
    · rintro e' w2 ⟨rfl, x1, x2⟩
      exact ⟨_, _, _, _, _, [], rfl, x2, by simp, ⟨rfl, rfl, rfl, rfl, rfl⟩, x1, x2⟩
  · rintro e' w' ⟨y0, y1, y2, y3, er, w1, w2, rfl, T1, z1, ⟨⟨rfl, rfl, rfl, rfl, rfl⟩, x1, x2⟩, T2⟩
    exact ⟨rfl, x1.keep T2 (fun k hk => by simp at hk; omega), (T1.trans' x2).trans T2 (fun k hk => Or.inr (by simp at hk; omega))⟩
theorem cin_nil (w : World) (t : Int) : Calls Tryd.prog 50 #[.pointer none, .int .i64 t] w fun e w' => e = .returned (.tuple #[.int .i64 0, .int .i64 1]) ∧ w' = w := by
  go_enter Tryd.func50, Tryd.ntmps50
  go_wp2
  exact bodyPost_ret (v := .tuple #[.int .i64 0, .int .i64 1]) (by simp [results, Tryd.results50, go_sem]) rfl ⟨rfl, rfl⟩
theorem step_snil (h : Lq w b r S vr vl) (hk : Rc.Kd w) (hi : Iv S) (e : S.left = q :: l) (hwt : S.wt = 0) (ht : Tk w vt) (hf : q.1.f S.p S.n = .go k m 2 on) :
    Calls Tryd.prog 12 #[.pointer (some ⟨b, 0, none⟩), vg, .pointer none, vt] w fun e w' => e = .returned (.tuple #[.agg #[.int .i64 0, .int .i64 0, .int .i64 0, .int .i64 0], .int .i64 1]) ∧ Lq w' b r S vr vl ∧ Touch [] w w' := by
  have hb := block_lt h.bl
  refine (step_go h hk hi e hwt vg (.pointer none) vt ht hf (fun w1 w2 y0 y1 y2 y3 er => (y0 = 0 ∧ y1 = 0 ∧ y2 = 0 ∧ y3 = 0 ∧ er = 1) ∧ Lq w2 b r S vr vl ∧ Touch [] w1 w2) (fun w1 T1 => ?_)).mono ?_
  · refine (goOn_serr (h.keep0 T1) e k m on 1 (by decide) vg (.pointer none) (FG := []) (fun k hk => by cases hk) (fun w2 T2 => ?_)).mono ?_
    · refine (cin_nil w2 on).mono ?_
      rintro e' w3 ⟨rfl, rfl⟩
      exact ⟨rfl, Touch.refl _ _⟩
    · rintro e' w2 ⟨rfl, x1, x2⟩
      exact ⟨_, _, _, _, _, [], rfl, x2, by simp, ⟨rfl, rfl, rfl, rfl, rfl⟩, x1, x2⟩
  · rintro e' w' ⟨y0, y1, y2, y3, er, w1, w2, rfl, T1, z1, ⟨⟨rfl, rfl, rfl, rfl, rfl⟩, x1, x2⟩, T2⟩
    exact ⟨rfl, x1.keep T2 (fun k hk => by simp at hk; omega), (T1.trans' x2).trans T2 (fun k hk => Or.inr (by simp at hk; omega))⟩
theorem i64_w {n : Int} (h : Rc.I64 n) : W64 n := W64.mk h.1 h.2
theorem step_slp {c : Nat} {F : List Nat} {s : Cl.Cs} (h : Lq w b r S vr vl) (hk : Rc.Kd w) (hi : Iv S) (e : S.left = q :: l) (hwt : S.wt = 0) (ht : Tk w vt) (hf : q.1.f S.p S.n = .go k m 2 on) (hck : Cl.Ck w c F s) (hF : ∀ i ∈ F, b < i) (hl : s.last < 4611686018427387904) (he : Cl.inE s on = 0) :
    Calls Tryd.prog 12 #[.pointer (some ⟨b, 0, none⟩), vg, .pointer (some ⟨c, 0, none⟩), vt] w fun e w' => e = .returned (.tuple #[.agg #[.int .i64 3, .int .i64 q.1.run, .int .i64 on, .int .i64 (Cl.inN s on)], .int .i64 0]) ∧ Lq w' b r (goS S k m 2 on (Cl.inN s on)) vr vl ∧ ∃ F', Cl.Ck w' c F' (Cl.inS s on) ∧ Nf w F F' ∧ Touch (b :: F) w w' := by
  have hb := block_lt h.bl
  have hq : q.1.ok := hi.ok q (by rw [e]; simp)
  have hon : W64 on := i64_w (It.f_go hq hi.n hf).2.2.2.2.2.1
  have hlt := hck.lt
  refine (step_go h hk hi e hwt vg (.pointer (some ⟨c, 0, none⟩)) vt ht hf (fun w1 w2 y0 y1 y2 y3 er => (y0 = 3 ∧ y1 = q.1.run ∧ y2 = on ∧ y3 = Cl.inN s on ∧ er = 0) ∧ Lq w2 b r (goS S k m 2 on (Cl.inN s on)) vr vl ∧ ∃ F', Cl.Ck w2 c F' (Cl.inS s on) ∧ Nf w1 F F' ∧ Touch (b :: F) w1 w2) (fun w1 T1 => ?_)).mono ?_
  · refine (goOn_slp (h.keep0 T1) e k m on vg rfl (hck.keep0 T1) hF hl hon he).mono ?_
    rintro e' w2 ⟨rfl, x1, F', x2, x3, x4⟩
    exact ⟨_, _, _, _, _, b :: F, rfl, x4, fun e => by rcases List.mem_cons.1 e with e | e; omega; have := hlt _ e; omega, ⟨rfl, rfl, rfl, rfl, rfl⟩, x1, F', x2, x3, x4⟩
  · rintro e' w' ⟨y0, y1, y2, y3, er, w1, w2, rfl, T1, z1, ⟨⟨rfl, rfl, rfl, rfl, rfl⟩, x1, F', x2, x3, x4⟩, T2⟩
    refine ⟨rfl, x1.keep T2 (fun k hk => by simp at hk; omega), F', x2.keep T2 (fun i hi e => ?_), fun i hi => (x3 i hi).elim Or.inl (fun e => Or.inr (Nat.le_trans T1.size e)), ((T1.mono (fun _ e => by cases e)).trans' x4).trans T2 (fun k hk => Or.inr (by simp at hk; omega))⟩
    simp at e
    rcases x3 i hi with e' | e'
    · have := hlt _ e'; omega
    · omega
end
end Go.Proofs.YtcbckehdlbbbbaaDoor
/- Items are copied, their recipes too: the program's copied; the conditions are those that it states. -/
namespace Go.Proofs.YtcbckehdlbbbbaaDoor
open Go.RowKit Go.Maps Go.ChangeMaps
set_option linter.unusedVariables false
set_option linter.unusedSimpArgs false
theorem one_iv {w : World} {ps : List Ip} (h : ∀ q ∈ ps, Sv w q.2 q.1.L) : ∀ y ∈ ps.flatMap iv, y.oneCell' = true := fun y hy => by
  rw [List.mem_flatMap] at hy
  obtain ⟨q, hq, hx⟩ := hy
  have := (h q hq).one
  simp [iv] at hx
  rcases hx with rfl | rfl | rfl | rfl | rfl
  · rfl
  · rfl
  · rfl
  · rfl
  · exact this
/-- how the copies stand ahead of a round -/
structure CpI (w wr : World) (a : Option Addr) (c : Nat) (ps ps' : List Ip) (j : Nat) : Prop where
  row : wr.ownsRow w.heap.size 33 5 (.slice a ps.length c) ps.length (ps'.flatMap iv)
  fst : ps'.map (·.1) = ps.map (·.1)
  new : ∀ i q, i < j → ps'[i]? = some q → Sv wr q.2 q.1.L ∧ Off (fun k => (w.heap.size ≤ k ∧ k < wr.heap.size) ∧ a ≠ some ⟨k, 0, none⟩) q.2
  old : ∀ i, j ≤ i → ps'[i]? = ps[i]?
  tc : Touch [] w wr
theorem CpI.len {w wr : World} {a : Option Addr} {c : Nat} {ps ps' : List Ip} {j : Nat} (h : CpI w wr a c ps ps' j) : ps'.length = ps.length := by
  have := congrArg List.length h.fst
  simpa using this
theorem CpI.step {w wr w5 : World} {a a5 : Option Addr} {c c5 g : Nat} {ps ps' : List Ip} {j : Nat} {q : Ip} (h : CpI w wr a c ps ps' j) (ha : a = some ⟨g, 0, none⟩) (hj : j < ps.length) (hq : ps[j]? = some q)
    (ho : w5.ownsRow wr.heap.size 35 3 (.slice a5 q.1.L.length c5) q.1.L.length (q.1.L.flatMap sc)) (ht : Touch [] wr w5) :
    (w5.cell? ⟨g, j * 5 + 4, none⟩ = some q.2 ∧ w5.frozen? ⟨g, j * 5 + 4, none⟩ = false) ∧ CpI w (w5.setCell ⟨g, j * 5 + 4, none⟩ (.slice a5 q.1.L.length c5)) a c ps (ps'.set j (q.1, .slice a5 q.1.L.length c5)) (j + 1) := by
  subst ha
  have hq' : ps'[j]? = some q := (h.old j (Nat.le_refl _)).trans hq
  have hr5 := own_touch h.row ht (fun _ _ e => by cases e)
  have hg := h.row.lt g rfl
  have e4 : (ps'.flatMap iv)[j * 5 + 4]? = some q.2 := flat_at iv_len ps' j 4 q hq' (by decide)
  have TS : Touch [g] w5 (w5.setCell ⟨g, j * 5 + 4, none⟩ (.slice a5 q.1.L.length c5)) := (Touch.refl _ _).setCell (Or.inl (by simp)) _
  have hs5 := own_off ho
  have hz := ht.size
  refine ⟨⟨own_cell hr5 e4, own_frozen hr5 _⟩, ?_, ?_, fun i z hi hz' => ?_, fun i hi => ?_, ?_⟩
  · have := own_set hr5 (j * 5 + 4) (.slice a5 q.1.L.length c5)
    rw [flat_set iv_len ps' hq' (by decide) (y := (q.1, .slice a5 q.1.L.length c5)) rfl] at this
    exact this
  · rw [List.map_set, h.fst]
    have : (ps.map (·.1))[j]? = some q.1 := by simp [hq]
    obtain ⟨h1, h2⟩ := List.getElem?_eq_some_iff.1 this
    rw [← h2]
    exact List.set_getElem_self _
  · by_cases e : i = j
    · subst e
      rw [List.getElem?_set_self (by rw [h.len]; exact hj)] at hz'
      simp only [Option.some.injEq] at hz'
      subst hz'
      refine ⟨(Sv.keep (F := [g]) (Rv.of_own ho) TS (hs5.mono (fun k hk e => ?_))), hs5.mono (fun k hk => ⟨⟨Nat.le_trans h.tc.size hk.1, by simpa [World.setCell] using hk.2⟩, fun e => ?_⟩)⟩
      · simp only [List.mem_singleton] at e
        have := hg.2
        have := hk.1
        omega
      · simp only [Option.some.injEq, Addr.mk.injEq, and_true] at e
        have := hg.2
        have := hk.1
        omega
    · rw [List.getElem?_set_ne (fun e' => e e'.symm)] at hz'
      obtain ⟨s1, s2⟩ := h.new i z (by omega) hz'
      refine ⟨(s1.keep0 ht).keep TS (s2.mono (fun k hk e => hk.2 (by simp only [List.mem_singleton] at e; rw [e]))), s2.mono (fun k hk => ⟨⟨hk.1.1, by simp only [World.setCell, Array.size_modify]; have := hk.1.2; omega⟩, hk.2⟩)⟩
  · rw [List.getElem?_set_ne (by omega)]
    exact h.old i (by omega)
  · exact (h.tc.trans' ht).setCell (Or.inr hg.1) _
/-- a copy of items -/
def CcE (e : Ending) (w w' : World) (ps : List Ip) : Prop := ∃ a c ps', e = .returned (.slice a ps.length c) ∧ ps'.map (·.1) = ps.map (·.1) ∧ Its w' (.slice a ps.length c) ps' ∧ Off (fun k => w.heap.size ≤ k ∧ k < w'.heap.size) (.slice a ps.length c) ∧ (∀ q ∈ ps', Off (fun k => w.heap.size ≤ k ∧ k < w'.heap.size) q.2) ∧ Touch [] w w'
theorem CpI.done {w wr : World} {a : Option Addr} {c : Nat} {ps ps' : List Ip} (h : CpI w wr a c ps ps' ps.length) : CcE (.returned (.slice a ps.length c)) w wr ps := by
  have hall : ∀ q ∈ ps', Sv wr q.2 q.1.L ∧ Off (fun k => (w.heap.size ≤ k ∧ k < wr.heap.size) ∧ a ≠ some ⟨k, 0, none⟩) q.2 := fun q hq => by
    obtain ⟨i, hi, rfl⟩ := List.getElem_of_mem hq
    exact h.new i _ (by rw [h.len] at hi; exact hi) (List.getElem?_eq_getElem hi)
  refine ⟨a, c, ps', rfl, h.fst, ⟨?_, fun q hq => (hall q hq).1⟩, own_off h.row, fun q hq => (hall q hq).2.mono (fun k hk => hk.1), h.tc⟩
  rw [h.len]
  exact Rv.of_own h.row
set_option maxHeartbeats 4000000 in
theorem copied_ (w : World) (v : Value) (ps : List Ip) (h : Its w v ps) (hl : ps.length ≤ 1024) (hL : ∀ q ∈ ps, q.1.L.length ≤ 256) : Calls Tryd.prog 27 #[v] w fun e w' => CcE e w w' ps := by
  have HC := hid (clone_items w v ps.length (ps.flatMap iv) h.rv (one_iv h.sv) hl)
  obtain ⟨a0, c0, rfl, _⟩ := h.form
  have HS : Hid (∀ w2 a c, w2.ownsRow w.heap.size 33 5 (.slice a ps.length c) ps.length (ps.flatMap iv) → Touch [] w w2 → CpI w w2 a c ps ps 0) := hid (fun w2 a c r t => ⟨r, rfl, fun i q hi => absurd hi (by omega), fun _ _ => rfl, t⟩)
  have HN : Hid (∀ wr a c ps' j, CpI w wr a c ps ps' j → j < ps.length → ∃ g q ad cd, a = some ⟨g, 0, none⟩ ∧ ps[j]? = some q ∧ q.2 = .slice ad q.1.L.length cd ∧ wr.cell? ⟨g, j * 5 + 4, none⟩ = some (.slice ad q.1.L.length cd) ∧ Calls Tryd.prog 45 #[.slice ad q.1.L.length cd] wr fun e w5 => ∃ a5 c5, e = .returned (.slice a5 q.1.L.length c5) ∧ (w5.cell? ⟨g, j * 5 + 4, none⟩ = some (.slice ad q.1.L.length cd) ∧ w5.frozen? ⟨g, j * 5 + 4, none⟩ = false) ∧ CpI w (w5.setCell ⟨g, j * 5 + 4, none⟩ (.slice a5 q.1.L.length c5)) a c ps (ps'.set j (q.1, .slice a5 q.1.L.length c5)) (j + 1)) := hid (fun wr a c ps' j hI hj => by
    obtain ⟨g, cg, e, _⟩ := own_some hI.row (by omega)
    cases e
    have hq : ps[j]? = some ps[j] := List.getElem?_eq_getElem hj
    have hm : ps[j] ∈ ps := List.getElem_mem hj
    obtain ⟨ad, cd, e2, _⟩ := Rv.form (h.sv _ hm)
    have hq' : ps'[j]? = some ps[j] := (hI.old j (Nat.le_refl _)).trans hq
    refine ⟨g, ps[j], ad, cd, rfl, hq, e2, ?_, ?_⟩
    · rw [← e2]
      exact own_cell hI.row (flat_at iv_len ps' j 4 _ hq' (by decide))
    · have hs := (h.sv _ hm).keep0 hI.tc
      unfold Sv at hs
      rw [e2] at hs
      refine (clone_steps wr _ _ _ hs (one_sc _) (by have := hL _ hm; omega)).mono ?_
      rintro e w5 ⟨a5, c5, rfl, r5, t5⟩
      obtain ⟨s1, s2⟩ := hI.step rfl hj hq r5 t5
      rw [e2] at s1
      exact ⟨a5, c5, rfl, s1, s2⟩)
  have HD : Hid (∀ wr a c ps', CpI w wr a c ps ps' ps.length → CcE (.returned (.slice a ps.length c)) w wr ps) := hid (fun wr a c ps' h => h.done)
  have hl' : (ps.length : Int) ≤ 1024 := by omega
  clear h hL hl
  go_enter Tryd.func27, Tryd.ntmps27
  go_wp2_with (go_at_call 44; refine HC.out.mono ?_; rintro e w2 ⟨a, c, rfl, r2, t2⟩; have I0 := hid (HS.out w2 a c r2 t2); clear r2 t2)
  go_loopw [9] (fun i wr => ∃ (j : Nat) (ps' : List Ip), i = .int .i64 j ∧ j ≤ ps.length ∧ Hid (CpI w wr a c ps ps' j)) (fun i _ => ps.length - (intOf i).toNat)
  case atStart => exact ⟨0, ps, rfl, Nat.zero_le _, I0.out⟩
  case round =>
    obtain ⟨j, ps', rfl, hj, HI⟩ := hrel
    by_cases hlt : j < ps.length
    · have hz : (j : Int) < (ps.length : Int) := by omega
      obtain ⟨g, q, ad, cd, rfl, hq, e2, y1, hc⟩ := HN.out _ _ _ _ _ HI.out hlt
      have HC2 := hid hc
      clear hc hq e2
      generalize q.1.L.length = m at *
      go_wp2_with (go_at_call 45; refine HC2.out.mono ?_; rintro e w5 ⟨a5, c5, rfl, ⟨y5, yf⟩, i5⟩; have I5 := hid i5; clear i5)
      go_roundw
      case rel => exact ⟨j + 1, _, by go_num, by omega, I5.out⟩
      case measure => simp [intOf]; omega
    · have hz : ¬ (j : Int) < (ps.length : Int) := by omega
      have HX : Hid (CcE (.returned (.slice a ps.length c)) w wr ps) := by
        have ej : j = ps.length := by omega
        have HI2 := HI.out
        rw [ej] at HI2
        exact HD.out wr a c ps' HI2
      go_wp2
      go_ret
      exact HX.out
end Go.Proofs.YtcbckehdlbbbbaaDoor
/- A load is made: the program's New; the conditions are those that it states. -/
namespace Go.Proofs.YtcbckehdlbbbbaaDoor
open Go.RowKit Go.Maps Go.ChangeMaps
set_option linter.unusedVariables false
set_option linter.unusedSimpArgs false
/-- the run ahead of a place -/
def aheadL (ps : List Ip) : Nat → Int
  | 0 => 0
  | k + 1 => (ps[k]?.map (·.1.run)).getD 0
/-- which loads may be -/
structure NewOk (num : Int) (ps : List Ip) : Prop where
  num : 1 ≤ num
  one : 1 ≤ ps.length
  most : ps.length ≤ 1024
  all : ∀ j q, ps[j]? = some q → mayE (aheadL ps j) q.1 = 0
theorem ahead_step {ps : List Ip} {j : Nat} {q : Ip} (h : ps[j]? = some q) : aheadL ps (j + 1) = q.1.run := by simp [aheadL, h]
theorem ahead_pos {ps : List Ip} (hw : ∀ q ∈ ps, q.1.wf) : ∀ j, j ≤ ps.length → (∀ i q, i < j → ps[i]? = some q → mayE (aheadL ps i) q.1 = 0) → 0 ≤ aheadL ps j
  | 0, _, _ => Int.le_refl _
  | k + 1, hk, h => by
    have hg : ps[k]? = some ps[k] := List.getElem?_eq_getElem (by omega)
    have ih := ahead_pos hw k (by omega) (fun i q hi => h i q (by omega))
    rw [ahead_step hg]
    have := (mayE_ok (h k _ (by omega) hg) ih (hw _ (List.getElem_mem _))).2
    omega
theorem NewOk.ok {num : Int} {ps : List Ip} (h : NewOk num ps) (hw : ∀ q ∈ ps, q.1.wf) : ∀ q ∈ ps, q.1.ok := fun q hq => by
  obtain ⟨j, hj, rfl⟩ := List.getElem_of_mem hq
  have hg : ps[j]? = some ps[j] := List.getElem?_eq_getElem hj
  exact (mayE_ok (h.all j _ hg) (ahead_pos hw j (by omega) (fun i q hi => h.all i q)) (hw _ hq)).1
def rz0 (q : Ip) : Rz := (q.1.run, 0, 0, 0, 0)
/-- a load that was made -/
def newS (num : Int) (ps ps' : List Ip) : Ld := ⟨num, ps.map rz0, ps', 0, 0, 0, 0, 0⟩
theorem newS_iv {num : Int} {ps ps' : List Ip} (h : NewOk num ps) (hn : W64 num) (hw : ∀ q ∈ ps, q.1.wf) (he : ps'.map (·.1) = ps.map (·.1)) : Iv (newS num ps ps') := by
  have hz : Rc.I64 0 := by unfold Rc.I64; omega
  have hl : ps'.length = ps.length := by
    have := congrArg List.length he
    simpa using this
  refine ⟨hn, by simp [newS, hl], by simp [newS]; exact h.most, fun q hq => ?_, hz, fun q hq => Nat.zero_le _, hz⟩
  have h1 : q.1 ∈ ps'.map (·.1) := List.mem_map_of_mem hq
  rw [he] at h1
  obtain ⟨z, hz1, hz2⟩ := List.mem_map.1 h1
  rw [← hz2]
  exact h.ok hw z hz1
/-- all that a load keeps lies behind a place -/
def Lo (n : Nat) (vl : Value) (ps : List Ip) : Prop := Off (fun k => n ≤ k) vl ∧ ∀ q ∈ ps, Off (fun k => n ≤ k) q.2
/-- what New answers -/
def NwE (e : Ending) (w w' : World) (num : Int) (ps : List Ip) : Prop :=
  (∃ k er : Int, er ≠ 0 ∧ e = .returned (.tuple #[.pointer none, .int .i64 k, .int .i64 er]) ∧ Touch [] w w' ∧ ¬ NewOk num ps)
  ∨ ∃ b r vr vl ps', e = .returned (.tuple #[.pointer (some ⟨b, 0, none⟩), .int .i64 0, .int .i64 0]) ∧ Lq w' b r (newS num ps ps') vr vl ∧ ps'.map (·.1) = ps.map (·.1) ∧ NewOk num ps ∧ w.heap.size ≤ r ∧ Touch [] w w' ∧ Lo w.heap.size vl ps'
theorem info_r5 : (Tryd.prog.info? 53).map (fun i => (i.zero, i.size, i.bytes)) = some (some (.agg #[.int .i64 0, .int .i64 0, .int .i64 0, .int .i64 0, .int .i64 0]), 5, 40) := by kernel_rfl
theorem rv_new5 (w : World) (x : Int) : Rv 5 (w.alloc (.cells #[.int .i64 x, .int .i64 0, .int .i64 0, .int .i64 0, .int .i64 0] 53)) (.slice (some ⟨w.heap.size, 0, none⟩) 1 1) 1 [.int .i64 x, .int .i64 0, .int .i64 0, .int .i64 0, .int .i64 0] := by
  refine ⟨rfl, _, 1, rfl, Nat.le_refl _, fun e => (by cases e), fun _ => ⟨w.heap.size, 0, rfl, fun j u hu => ?_⟩⟩
  rw [Nat.zero_add]
  refine cell_at (heap_alloc_new w _) ?_
  rw [← hu]
  simp
theorem take_rz {ps : List Ip} {j : Nat} {q : Ip} (h : ps[j]? = some q) : ((ps.take (j + 1)).map rz0).flatMap rzc = ((ps.take j).map rz0).flatMap rzc ++ [.int .i64 q.1.run, .int .i64 0, .int .i64 0, .int .i64 0, .int .i64 0] := by
  obtain ⟨hj, e⟩ := List.getElem?_eq_some_iff.1 h
  rw [List.take_succ_eq_append_getElem hj, List.map_append, List.flatMap_append, e]
  rfl
set_option maxHeartbeats 8000000 in
set_option maxRecDepth 100000 in
theorem new_ (w : World) (num : Int) (v : Value) (ps : List Ip) (hk : Rc.Kd w) (h : Its w v ps) (hw : ∀ q ∈ ps, q.1.wf) : Calls Tryd.prog 6 #[.int .i64 num, v] w fun e w' => NwE e w w' num ps := by
  obtain ⟨a0, c0, rfl, _⟩ := h.form
  by_cases h1 : num < 1
  · have HX : Hid (NwE (.returned (.tuple #[.pointer none, .int .i64 0, .int .i64 140])) w w num ps) := Or.inl ⟨0, 140, by decide, rfl, Touch.refl _ _, fun e => by have := e.num; omega⟩
    clear h hw hk
    go_enter Tryd.func6, Tryd.ntmps6
    go_wp2
    exact bodyPost_ret (v := .tuple #[.pointer none, .int .i64 0, .int .i64 140]) (by simp [results, Tryd.results6, go_sem]) rfl HX.out
  by_cases h2 : ps.length < 1
  · have HX : Hid (NwE (.returned (.tuple #[.pointer none, .int .i64 0, .int .i64 140])) w w num ps) := Or.inl ⟨0, 140, by decide, rfl, Touch.refl _ _, fun e => by have := e.one; omega⟩
    have h2' : (ps.length : Int) < 1 := by omega
    clear h hw hk h2
    go_enter Tryd.func6, Tryd.ntmps6
    go_wp2
    exact bodyPost_ret (v := .tuple #[.pointer none, .int .i64 0, .int .i64 140]) (by simp [results, Tryd.results6, go_sem]) rfl HX.out
  by_cases h3 : 1024 < ps.length
  · have HX : Hid (NwE (.returned (.tuple #[.pointer none, .int .i64 0, .int .i64 140])) w w num ps) := Or.inl ⟨0, 140, by decide, rfl, Touch.refl _ _, fun e => by have := e.most; omega⟩
    have h2' : ¬ (ps.length : Int) < 1 := by omega
    have h3' : (1024 : Int) < (ps.length : Int) := by omega
    clear h hw hk h2 h3
    go_enter Tryd.func6, Tryd.ntmps6
    go_wp2
    exact bodyPost_ret (v := .tuple #[.pointer none, .int .i64 0, .int .i64 140]) (by simp [results, Tryd.results6, go_sem]) rfl HX.out
  obtain ⟨i5, hi, hz0, hz1, hz2⟩ := info_parts info_r5
  have HM : Hid (∀ wr j q, Touch [] w wr → ps[j]? = some q → ∃ ad cd, (q.2 = .slice ad q.1.L.length cd) ∧ ∀ V, Touch [] wr V → Calls Tryd.prog 26 #[.int .i64 (aheadL ps j), .agg #[.int .i64 q.1.run, .int .u16 q.1.sp, .string q.1.nm, .int .i64 q.1.tok, .slice ad q.1.L.length cd]] V fun e w2 => e = .returned (.int .i64 (mayE (aheadL ps j) q.1)) ∧ Touch [] V w2) := hid (fun wr j q T hq => by
    have hm : q ∈ ps := List.mem_of_getElem? hq
    obtain ⟨ad, cd, e2, _⟩ := Rv.form (h.sv q hm)
    refine ⟨ad, cd, e2, fun V TV => ?_⟩
    have := may_ V (aheadL ps j) q (Kd.touch hk (T.trans' TV)) ((h.sv q hm).keep0 (T.trans' TV)) (hw q hm)
    rw [show iv q = [.int .i64 q.1.run, .int .u16 q.1.sp, .string q.1.nm, .int .i64 q.1.tok, .slice ad q.1.L.length cd] by rw [← e2]; rfl] at this
    exact this)
  have HI : Hid (∀ wr j, Touch [] w wr → (hj : j < ps.length) → ∃ g off q ad cd, a0 = some ⟨g, off, none⟩ ∧ ps[j]? = some q ∧ q.2 = .slice ad q.1.L.length cd ∧ ItAt wr g (off + j * 5) q) := hid (fun wr j T hj => by
    obtain ⟨g, off, rfl, hA⟩ := Its.item (h.keep0 T) hj
    obtain ⟨ad, cd, e2, _⟩ := Rv.form (h.sv _ (List.getElem_mem hj))
    exact ⟨g, off, ps[j], ad, cd, rfl, List.getElem?_eq_getElem hj, e2, hA⟩)
  have HBAD : Hid (∀ wr j q, Touch [] w wr → ps[j]? = some q → mayE (aheadL ps j) q.1 ≠ 0 → NwE (.returned (.tuple #[.pointer none, .int .i64 j, .int .i64 (mayE (aheadL ps j) q.1)])) w wr num ps) := hid (fun wr j q T hq hne => Or.inl ⟨j, _, hne, rfl, T, fun e => hne (e.all j q hq)⟩)
  have HEND : Hid (∀ wr a4 c4, Touch [] w wr → (∀ i q, i < ps.length → ps[i]? = some q → mayE (aheadL ps i) q.1 = 0) → wr.ownsRow w.heap.size 53 5 (.slice a4 ps.length c4) ps.length (((ps.take ps.length).map rz0).flatMap rzc) → Calls Tryd.prog 27 #[.slice a0 ps.length c0] wr fun e w5 => ∃ a5 c5, e = .returned (.slice a5 ps.length c5) ∧ NwE (.returned (.tuple #[.pointer (some ⟨w5.heap.size, 0, none⟩), .int .i64 0, .int .i64 0])) w (w5.alloc (.cells #[.int .i64 num, .slice a4 ps.length c4, .slice a5 ps.length c5, .int .i64 0, .int .i64 0, .int .i64 0, .int .i64 0, .int .i64 0] 78)) num ps) := hid (fun wr a4 c4 T hall hrow => by
    have hok : NewOk num ps := ⟨by omega, by omega, by omega, fun j q hq => hall j q (List.getElem?_eq_some_iff.1 hq).1 hq⟩
    have oks := hok.ok hw
    refine (copied_ wr _ ps (h.keep0 T) (by omega) (fun q hq => (oks q hq).good.1)).mono ?_
    rintro e w5 ⟨a5, c5, ps', rfl, f1, f2, f3, f4, f5⟩
    obtain ⟨r, cr, e4, hr1, hr2⟩ := own_some hrow (by omega)
    cases e4
    have hz := f5.size
    refine ⟨a5, c5, rfl, Or.inr ⟨w5.heap.size, r, _, _, ps', rfl, ⟨heap_alloc_new _ _, ?_, ⟨c4, by simp [newS]⟩, ?_, by omega⟩, f1, hok, hr1, (T.trans' f5).alloc _, f3.mono (fun k hk => Nat.le_trans T.size hk.1), fun q hq => (f4 q hq).mono (fun k hk => Nat.le_trans T.size hk.1)⟩⟩
    · have x := own_base (own_touch hrow (f5.alloc (.cells #[.int .i64 num, .slice (some ⟨r, 0, none⟩) ps.length c4, .slice a5 ps.length c5, .int .i64 0, .int .i64 0, .int .i64 0, .int .i64 0, .int .i64 0] 78)) (fun _ _ e => by cases e)) (Nat.zero_le _)
      rw [List.take_length] at x
      simpa [newS] using x
    · exact ⟨f2.keep0 ((Touch.refl [] _).alloc _), f3.mono (fun k hk => ⟨hk.2, by omega⟩), fun q hq => (f4 q hq).mono (fun k hk => ⟨hk.2, by omega⟩)⟩)
  have h2' : ¬ (ps.length : Int) < 1 := by omega
  have h3' : ¬ (1024 : Int) < (ps.length : Int) := by omega
  have HLe : Hid (ps.length ≤ 1024) := hid (by omega)
  have hle : (ps.length : Int) ≤ 1024 := by omega
  clear h hw hk h2 h3
  go_enter Tryd.func6, Tryd.ntmps6
  go_wp2_with (at_make; refine wpList_make_own _ rfl _ _ 46 rfl w.heap.size 53 i5 (.agg #[.int .i64 0, .int .i64 0, .int .i64 0, .int .i64 0, .int .i64 0]) 5 Tryd.underlying46 hi hz0 hz1 .i64 .i64 _ ps.length rfl rfl rfl (by rw [hz2]; have := HLe.out; omega) (by have := HLe.out; unfold maxLen; omega) (Nat.le_refl _) ?_; intro w3 o3 g3)
  have O3 := hid o3
  have T3 : Hid (Touch [] w w3) := Touch.grown (Touch.refl _ _) g3 (fun k hk => by cases hk)
  clear o3 g3
  go_loopw [7, 8, 29] (fun s7 s8 i wr => ∃ a4 k c4, s7 = .slice a4 k c4 ∧ s8 = .int .i64 (aheadL ps k) ∧ i = .int .i64 k ∧ k ≤ ps.length ∧ Hid (wr.ownsRow w.heap.size 53 5 (.slice a4 k c4) k (((ps.take k).map rz0).flatMap rzc) ∧ Touch [] w wr ∧ ∀ i q, i < k → ps[i]? = some q → mayE (aheadL ps i) q.1 = 0)) (fun _ _ i _ => ps.length - (intOf i).toNat)
  case atStart => exact ⟨_, 0, _, rfl, rfl, rfl, Nat.zero_le _, O3.out, T3.out, fun i q hi => absurd hi (by omega)⟩
  case round =>
    obtain ⟨a4, k, c4, rfl, rfl, rfl, hk, HR⟩ := hrel
    by_cases hlt : k < ps.length
    · have zk : (k : Int) < (ps.length : Int) := by omega
      obtain ⟨g, off, q, ad, cd, rfl, hq, e2, hA⟩ := HI.out wr k HR.out.2.1 hlt
      obtain ⟨ad', cd', e3, hm⟩ := HM.out wr k q HR.out.2.1 hq
      rw [e2] at e3
      cases e3
      have y0 := hA.c0
      have y1 := hA.c1
      have y2 := hA.c2
      have y3 := hA.c3
      have y4 := hA.c4
      rw [e2] at y4
      have HB : Hid (∀ w5, Touch [] w w5 → mayE (aheadL ps k) q.1 ≠ 0 → NwE (.returned (.tuple #[.pointer none, .int .i64 k, .int .i64 (mayE (aheadL ps k) q.1)])) w w5 num ps) := hid (fun w5 T hne => HBAD.out w5 k q T hq hne)
      have HNX : Hid (mayE (aheadL ps k) q.1 = 0 → ∀ i z, i < k + 1 → ps[i]? = some z → mayE (aheadL ps i) z.1 = 0) := hid (fun e0 i z hi hz => by
        rcases (by omega : i < k ∨ i = k) with e | rfl
        · exact HR.out.2.2 i z e hz
        · rw [hq] at hz
          cases hz
          exact e0)
      have HQ := hid (take_rz hq)
      have HA2 := hid (ahead_step hq)
      have hbr := HR.out.2.1.size
      clear hA e2 hq HI HM HBAD
      obtain ⟨V, hV⟩ : ∃ V, V = wr.alloc (.cells #[.int .i64 q.1.run, .int .u16 q.1.sp, .string q.1.nm, .int .i64 q.1.tok, .slice ad q.1.L.length cd] 33) := ⟨_, rfl⟩
      have TV : Hid (Touch [] wr V) := hid (by rw [hV]; exact (Touch.refl _ _).alloc _)
      have HVB : Hid (V.heap[wr.heap.size]? = some (.cells #[.int .i64 q.1.run, .int .u16 q.1.sp, .string q.1.nm, .int .i64 q.1.tok, .slice ad q.1.L.length cd] 33 (0, 0))) := hid (by rw [hV]; exact heap_alloc_new wr _)
      have HVc : Hid (∀ w', Touch [] V w' → w'.cell? ⟨wr.heap.size, 0, none⟩ = some (.int .i64 q.1.run)) := hid (fun w' T => cell_at (T.keep HVB.out (by simp)) rfl)
      have v0 := cell_at (j := 0) (v := .int .i64 q.1.run) HVB.out rfl
      have v1 := cell_at (j := 1) (v := .int .u16 q.1.sp) HVB.out rfl
      have v2 := cell_at (j := 2) (v := .string q.1.nm) HVB.out rfl
      have v3 := cell_at (j := 3) (v := .int .i64 q.1.tok) HVB.out rfl
      have v4 := cell_at (j := 4) (v := .slice ad q.1.L.length cd) HVB.out rfl
      have HMc := hid (hm V TV.out)
      clear hm HVB
      have HE : Hid (mayE (aheadL ps k) q.1 = 0 ∨ mayE (aheadL ps k) q.1 ≠ 0) := hid (Decidable.em _)
      generalize mayE (aheadL ps k) q.1 = E at *
      generalize aheadL ps k = ah at *
      generalize q.1.run = run at *
      generalize q.1.sp = sp at *
      generalize q.1.nm = nm at *
      generalize q.1.tok = tok at *
      generalize q.1.L.length = m at *
      go_upto_region 8 with fail
      rw [← hV]
      clear hV y0 y1 y2 y3 y4
      rcases HE.out with e0 | e0
      · subst e0
        have HNX2 := hid (HNX.out rfl)
        clear HB HNX HE HEND
        go_wp2_with (first
          | (go_at_call 26; refine HMc.out.mono ?_; rintro e w5 ⟨rfl, t5⟩; have T5 := hid t5; have z0 := HVc.out w5 t5; clear t5 v0 v1 v2 v3 v4)
          | (at_builtin; refine wpList_append_rv rfl _ _ _ 53 rfl (.agg #[.int .i64 0, .int .i64 0, .int .i64 0, .int .i64 0, .int .i64 0]) 5 40 info_r5 Tryd.underlying46 rfl (by decide) w.heap.size (.slice a4 k c4) k (((ps.take k).map rz0).flatMap rzc) rfl (own_touch HR.out.1 ((TV.out.trans' T5.out).alloc _) (fun _ _ e => by cases e)) _ 1 [.int .i64 run, .int .i64 0, .int .i64 0, .int .i64 0, .int .i64 0] rfl (rv_new5 _ _) (fun y hy => by simp at hy; rcases hy with rfl | rfl <;> rfl) (by have := HLe.out; unfold maxLen; omega) (by have := HLe.out; omega) (by have := T5.out.size; have := TV.out.size; simp; omega) ?_; intro v6 w6 o6 g6 e6; have O6 := hid (And.intro o6 g6); obtain ⟨a6, c6, rfl⟩ := own_form o6; clear o6 g6 e6)
          | fail)
        go_roundw
        case rel =>
          refine ⟨a6, k + 1, c6, rfl, by rw [HA2.out], by go_num, by omega, ?_, ?_, HNX2.out⟩
          · rw [HQ.out]; exact O6.out.1
          · exact touch_grown (HR.out.2.1.trans' ((TV.out.trans' T5.out).alloc _)) O6.out.2 (own_touch HR.out.1 ((TV.out.trans' T5.out).alloc _) (fun _ _ e => by cases e)) (Nat.le_refl _)
        case measure => simp [intOf]; omega
      · have HBX := hid (fun w5 T => HB.out w5 T e0)
        have e1 : (E != 0) = true := by simpa using e0
        clear HB HNX HE HEND e0
        go_wp2_with (go_at_call 26; refine HMc.out.mono ?_; rintro e w5 ⟨rfl, t5⟩; have T5 := hid t5; clear t5)
        exact bodyPost_ret (v := .tuple #[.pointer none, .int .i64 k, .int .i64 E]) (by simp [results, Tryd.results6, go_sem]) rfl (HBX.out w5 ((HR.out.2.1.trans' TV.out).trans' T5.out))
    · have e : k = ps.length := by omega
      subst e
      have HC := hid (HEND.out wr a4 c4 HR.out.2.1 HR.out.2.2 HR.out.1)
      clear HEND HI HM HBAD
      go_wp2_with (go_at_call 27; refine HC.out.mono ?_; rintro e w5 ⟨a5, c5, rfl, x5⟩; have X5 := hid x5; clear x5)
      exact bodyPost_ret (v := .tuple #[.pointer (some ⟨w5.heap.size, 0, none⟩), .int .i64 0, .int .i64 0]) (by simp [results, Tryd.results6, go_sem]) rfl X5.out
end Go.Proofs.YtcbckehdlbbbbaaDoor
/- A load of one run with one step; the law's awake; the conditions are those that each states. -/
namespace Go.Proofs.YtcbckehdlbbbbaaDoor
open Go.RowKit Go.Maps Go.ChangeMaps
set_option linter.unusedVariables false
set_option linter.unusedSimpArgs false
def itO (op a c : Int) : It := ⟨1, 0, ⟨#[]⟩, 0, [(op, a, c)]⟩
theorem itO_wf {op a c : Int} (h1 : Rc.I64 op) (h2 : Rc.I64 a) (h3 : Rc.I64 c) : (itO op a c).wf := ⟨by show Rc.I64 1; unfold Rc.I64; omega, ⟨by show (0 : Int) ≤ 0; omega, by show (0 : Int) ≤ 65535; omega⟩, by show Rc.I64 0; unfold Rc.I64; omega, fun x hx => by
  have e : x = (op, a, c) := by simpa [itO] using hx
  subst e
  exact ⟨h1, h2, h3⟩⟩
theorem itO_may {op a c : Int} (hm : Rc.may3 op a c) : mayE 0 (itO op a c) = 0 := by
  unfold mayE
  rw [if_neg (show ¬ ((itO op a c).run ≤ 0 ∨ (itO op a c).tok < 0) from (by omega : ¬ ((1 : Int) ≤ 0 ∨ (0 : Int) < 0))), if_neg (show ¬ 64 < (itO op a c).nm.size from (by decide : ¬ 64 < (⟨#[]⟩ : ByteArray).size))]
  rw [Rc.chk_fst (L := (itO op a c).L) ⟨by simp [itO], fun x hx => by
    have e : x = (op, a, c) := by simpa [itO] using hx
    subst e
    exact hm⟩]
theorem newok_one {op a c : Int} (hm : Rc.may3 op a c) (v : Value) : NewOk 1 [(itO op a c, v)] := by
  refine ⟨by decide, by simp, by simp, fun j q hq => ?_⟩
  cases j with
  | zero =>
    simp at hq
    subst hq
    exact itO_may hm
  | succ j => simp at hq
/-- a slice of one item whose recipe is of one step, laid just now -/
theorem its_one (w : World) (op a c : Int) : Its ((w.alloc (.cells #[.int .i64 op, .int .i64 a, .int .i64 c] 35)).alloc (.cells #[.int .i64 1, .int .u16 0, .string ⟨#[]⟩, .int .i64 0, .slice (some ⟨w.heap.size, 0, none⟩) 1 1] 33)) (.slice (some ⟨w.heap.size + 1, 0, none⟩) 1 1) [(itO op a c, .slice (some ⟨w.heap.size, 0, none⟩) 1 1)] := by
  have hb0 : ((w.alloc (.cells #[.int .i64 op, .int .i64 a, .int .i64 c] 35)).alloc (.cells #[.int .i64 1, .int .u16 0, .string ⟨#[]⟩, .int .i64 0, .slice (some ⟨w.heap.size, 0, none⟩) 1 1] 33)).heap[w.heap.size]? = some (.cells #[.int .i64 op, .int .i64 a, .int .i64 c] 35 (0, 0)) := ((Touch.refl [] _).alloc _).keep (heap_alloc_new w _) (by simp)
  have hb1 : ((w.alloc (.cells #[.int .i64 op, .int .i64 a, .int .i64 c] 35)).alloc (.cells #[.int .i64 1, .int .u16 0, .string ⟨#[]⟩, .int .i64 0, .slice (some ⟨w.heap.size, 0, none⟩) 1 1] 33)).heap[w.heap.size + 1]? = some (.cells #[.int .i64 1, .int .u16 0, .string ⟨#[]⟩, .int .i64 0, .slice (some ⟨w.heap.size, 0, none⟩) 1 1] 33 (0, 0)) := by
    have := heap_alloc_new (w.alloc (.cells #[.int .i64 op, .int .i64 a, .int .i64 c] 35)) (.cells #[.int .i64 1, .int .u16 0, .string ⟨#[]⟩, .int .i64 0, .slice (some ⟨w.heap.size, 0, none⟩) 1 1] 33)
    rw [World.size_alloc] at this
    exact this
  refine ⟨⟨rfl, _, 1, rfl, Nat.le_refl _, fun e => (by cases e), fun _ => ⟨w.heap.size + 1, 0, rfl, fun j u hu => ?_⟩⟩, fun q hq => ?_⟩
  · rw [Nat.zero_add]
    refine cell_at hb1 ?_
    rw [← hu]
    simp [iv, itO]
  · simp only [List.mem_singleton] at hq
    subst hq
    refine ⟨rfl, _, 1, rfl, Nat.le_refl _, fun e => (by cases e), fun _ => ⟨w.heap.size, 0, rfl, fun j u hu => ?_⟩⟩
    rw [Nat.zero_add]
    refine cell_at hb0 ?_
    rw [← hu]
    simp [sc, itO]
/-- what is written ahead of all that a load keeps, or behind the load, changes nothing of it -/
theorem Lq.keepLo {w w' : World} {b r : Nat} {S : Ld} {vr vl : Value} {F : List Nat} {lo : Nat} (h : Lq w b r S vr vl) (hlo : Lo lo vl S.left) (hr : lo ≤ r) (T : Touch F w w') (hF : ∀ k ∈ F, k < lo ∨ b < k) : Lq w' b r S vr vl := by
  obtain ⟨c, e⟩ := h.vr
  have hrb := h.rb
  have hn : ∀ k, lo ≤ k → Cn b r k → ¬ k ∈ F := fun k h1 h2 h3 => by
    rcases hF k h3 with e | e
    · omega
    · have := h2.1; omega
  have both : ∀ v, Off (fun k => lo ≤ k) v → Off (Cn b r) v → Off (fun k => ¬ k ∈ F) v := fun v h1 h2 g off n c e => hn g (h1 g off n c e) (h2 g off n c e)
  refine ⟨T.keep h.bl (fun e => by rcases hF _ e with e | e <;> omega), own_touch h.row T (fun q hq e' => ?_), h.vr, ⟨h.lf.its.keep T (both _ hlo.1 h.lf.off) (fun q hq => both _ (hlo.2 q hq) (h.lf.offs q hq)), h.lf.off, h.lf.offs⟩, h.rb⟩
  rw [e] at hq
  simp only [Value.ownBlock, Option.some.injEq] at hq
  subst hq
  rcases hF _ e' with e | e
  · have e : r < lo := e
    omega
  · have e : b < r := e
    omega
def oneS (op a c : Int) (v : Value) : Ld := ⟨1, [(1, 0, 0, 0, 0)], [(itO op a c, v)], 0, 0, 0, 0, 0⟩
/-- a load of one step -/
def OneE (e : Ending) (w w' : World) (op a c : Int) : Prop := ∃ b r vr vl v, e = .returned (.tuple #[.pointer (some ⟨b, 0, none⟩), .int .i64 0, .int .i64 0]) ∧ Lq w' b r (oneS op a c v) vr vl ∧ Iv (oneS op a c v) ∧ w.heap.size ≤ r ∧ Touch [] w w' ∧ Lo w.heap.size vl [(itO op a c, v)]
theorem one_new (w : World) (op a c : Int) (hk : Rc.Kd w) (hm : Rc.may3 op a c) (h1 : Rc.I64 op) (h2 : Rc.I64 a) (h3 : Rc.I64 c) : Calls Tryd.prog 6 #[.int .i64 1, .slice (some ⟨w.heap.size + 1, 0, none⟩) 1 1] ((w.alloc (.cells #[.int .i64 op, .int .i64 a, .int .i64 c] 35)).alloc (.cells #[.int .i64 1, .int .u16 0, .string ⟨#[]⟩, .int .i64 0, .slice (some ⟨w.heap.size, 0, none⟩) 1 1] 33)) fun e w' => OneE e w w' op a c := by
  have T : Touch [] w ((w.alloc (.cells #[.int .i64 op, .int .i64 a, .int .i64 c] 35)).alloc (.cells #[.int .i64 1, .int .u16 0, .string ⟨#[]⟩, .int .i64 0, .slice (some ⟨w.heap.size, 0, none⟩) 1 1] 33)) := ((Touch.refl _ _).alloc _).alloc _
  have hwf : ∀ q ∈ [(itO op a c, Value.slice (some ⟨w.heap.size, 0, none⟩) 1 1)], q.1.wf := fun q hq => by
    simp only [List.mem_singleton] at hq
    subst hq
    exact itO_wf h1 h2 h3
  refine (new_ _ 1 _ _ (Kd.touch hk T) (its_one w op a c) hwf).mono ?_
  rintro e w' (⟨k, er, _, _, _, hn⟩ | ⟨b, r, vr, vl, ps', rfl, x1, x2, x3, x4, x5, x6⟩)
  · exact absurd (newok_one hm _) hn
  · obtain ⟨v, rfl⟩ : ∃ v, ps' = [(itO op a c, v)] := by
      match ps', x2 with
      | [(i, v)], x2 =>
        simp at x2
        exact ⟨v, by rw [x2]⟩
      | [], x2 => simp at x2
      | _ :: _ :: _, x2 => simp at x2
    exact ⟨b, r, vr, vl, v, rfl, x1, newS_iv x3 (W64.mk (by omega) (by omega)) hwf x2, Nat.le_trans T.size x4, T.trans' x5, x6.1.mono (fun k hk => Nat.le_trans T.size hk), fun q hq => (x6.2 q hq).mono (fun k hk => Nat.le_trans T.size hk)⟩
theorem f_add : (itO 1 3 0).f 0 0 = .go 1 3 0 0 := by
  unfold It.f Rc.Ar.f
  rw [Rc.stepS_at (op := 1) (a := 3) (b := 0) rfl, Rc.stepO_1]
  rfl
theorem f_gate (a : Int) : (itO 6 a 0).f 0 0 = .go 1 0 1 a := by
  unfold It.f Rc.Ar.f
  rw [Rc.stepS_at (op := 6) (a := a) (b := 0) rfl, Rc.stepO_6]
theorem f_sleep (a : Int) : (itO 7 a 0).f 0 0 = .go 1 0 2 a := by
  unfold It.f Rc.Ar.f
  rw [Rc.stepS_at (op := 7) (a := a) (b := 0) rfl, Rc.stepO_7]
theorem may_add : Rc.may3 1 3 0 := by unfold Rc.may3; omega
/-- a load that stands with its number -/
def AwE (e : Ending) (w w' : World) (b : Nat) (S : Ld) : Prop := e = .returned (.tuple #[.agg #[.int .i64 1, .int .i64 1, .int .i64 0, .int .i64 0], .int .i64 0]) ∧ (∃ r vr vl, Lq w' b r S vr vl) ∧ Touch [] w w'
set_option maxHeartbeats 4000000 in
theorem awake_ (w : World) (hk : Rc.Kd w) : Calls Tryd.prog 7 #[] w fun e w' => e = .returned (.bool true) ∧ Touch [] w w' := by
  have HN := hid (one_new w 1 3 0 hk may_add (by unfold Rc.I64; omega) (by unfold Rc.I64; omega) (by unfold Rc.I64; omega))
  have HS : Hid (∀ w1 w4 b r vr vl v g c t, Lq w1 b r (oneS 1 3 0 v) vr vl → Iv (oneS 1 3 0 v) → w.heap.size ≤ r → Touch [] w w1 → Touch [] w1 w4 → w4.heap[t]? = some (.cells #[.slice none 0 0] 92 (0, 0)) → Calls Tryd.prog 12 #[.pointer (some ⟨b, 0, none⟩), .pointer (some ⟨g, 0, none⟩), .pointer (some ⟨c, 0, none⟩), .pointer (some ⟨t, 0, none⟩)] w4 fun e w' => AwE e w w' b (goS (oneS 1 3 0 v) 1 3 0 0 0)) := hid (fun w1 w4 b r vr vl v g c t hq hiv hr t1 t4 ht => by
    have hb := hq.rb
    refine (step_none (hq.keep0 t4) (Kd.touch hk (t1.trans' t4)) hiv rfl rfl (Or.inr ⟨t, rfl, ht⟩) f_add).mono ?_
    rintro e w' ⟨rfl, x1, x2⟩
    exact ⟨rfl, ⟨_, _, _, x1⟩, (t1.trans' t4).trans x2 (fun k hk => Or.inr (by simp at hk; omega))⟩)
  have HM : Hid (∀ w' b S, (∃ r vr vl, Lq w' b r S vr vl) → Calls Tryd.prog 18 #[.pointer (some ⟨b, 0, none⟩)] w' fun e w2 => e = .returned (.int .i64 S.num) ∧ w2 = w') := hid (fun w' b S ⟨r, vr, vl, h⟩ => number_ok h)
  have HG : Hid (∀ w', Calls Tryd.prog 8 #[] w' fun e w2 => ∃ g, e = .returned (.pointer (some ⟨g, 0, none⟩)) ∧ Touch [] w' w2) := hid (fun w' => (gnew_ w').mono (by
    rintro e w2 ⟨rfl, _, t⟩
    exact ⟨_, rfl, t⟩))
  have HC : Hid (∀ w', Calls Tryd.prog 9 #[] w' fun e w2 => ∃ g, e = .returned (.pointer (some ⟨g, 0, none⟩)) ∧ Touch [] w' w2) := hid (fun w' => (Cl.new7 w').mono (by
    rintro e w2 ⟨c, F, rfl, _, t, _⟩
    exact ⟨_, rfl, t⟩))
  have HT : Hid (∀ w', Calls Tryd.prog 10 #[] w' fun e w2 => ∃ g, e = .returned (.pointer (some ⟨g, 0, none⟩)) ∧ w2.heap[g]? = some (.cells #[.slice none 0 0] 92 (0, 0)) ∧ Touch [] w' w2) := hid (fun w' => (tnew_ w').mono (by
    rintro e w2 ⟨rfl, h, t⟩
    exact ⟨_, rfl, h, t⟩))
  clear hk
  go_enter Tryd.func7, Tryd.ntmps7
  go_wp2_with (first
    | (go_at_call 6; refine HN.out.mono ?_; rintro e w1 ⟨b, r, vr, vl, v, rfl, q1, q2, q3, q4, _⟩; have Q1 := hid (And.intro q1 (And.intro q2 (And.intro q3 q4))); clear q1 q2 q3 q4)
    | (go_at_call 8; refine (HG.out _).mono ?_; rintro e w2 ⟨g, rfl, t2⟩; have T2 := hid t2; clear t2)
    | (go_at_call 9; refine (HC.out _).mono ?_; rintro e w3 ⟨c, rfl, t3⟩; have T3 := hid t3; clear t3)
    | (go_at_call 10; refine (HT.out _).mono ?_; rintro e w4 ⟨t, rfl, h4, t4⟩; have T4 := hid (And.intro h4 t4); clear h4 t4)
    | (go_at_call 12; refine (HS.out _ _ _ _ _ _ _ _ _ _ Q1.out.1 Q1.out.2.1 Q1.out.2.2.1 Q1.out.2.2.2 ((T2.out.trans' T3.out).trans' T4.out.2) T4.out.1).mono ?_; rintro e w5 ⟨rfl, l5, t5⟩; have L5 := hid (And.intro l5 t5); clear l5 t5)
    | (go_at_call 18; refine (HM.out _ _ _ (by obtain ⟨r', vr', vl', x⟩ := L5.out.1; exact ⟨r', vr', vl', x.keep0 ((Touch.refl _ _).alloc _)⟩)).mono ?_; rintro e w6 ⟨rfl, rfl⟩)
    | fail)
  go_ret
  exact ⟨rfl, L5.out.2.alloc _⟩
end Go.Proofs.YtcbckehdlbbbbaaDoor
/- A load without gates and sleeps: what holds of it at every point, and its Step; the conditions are those that each states. -/
namespace Go.Proofs.YtcbckehdlbbbbaaDoor
open Go.RowKit Go.Maps Go.ChangeMaps
set_option linter.unusedVariables false
set_option linter.unusedSimpArgs false
/-- a recipe without gates and sleeps -/
def Nw (L : List Rc.Sp) : Prop := ∀ x ∈ L, x.1 ≠ 6 ∧ x.1 ≠ 7
structure En (ps : List Ip) (S : Ld) : Prop where
  iv : Iv S
  wt : S.wt = 0
  fst : S.res.map (·.1) = ps.map (·.1.run)
  nw : ∀ q ∈ S.left, Nw q.1.L
  pn : (∀ z ∈ S.res, z.2.2.1 ≠ 2) ∨ (S.left = [] ∧ ∃ o : Oc, ∀ z ∈ S.res, z.2 = o)
theorem mem_putO {res : List Rz} {i : Nat} {o : Oc} {z : Rz} (h : z ∈ putO res i o) : z ∈ res ∨ z.2 = o := by
  unfold putO at h
  rcases List.mem_or_eq_of_mem_set h with e | e
  · exact Or.inl e
  · subst e; exact Or.inr rfl
theorem En.end_ {ps : List Ip} {S : Ld} (h : En ps S) {q : Ip} {l : List Ip} (e : S.left = q :: l) (o : Oc) : En ps (endS S o) := by
  refine ⟨h.iv.end_ o, ?_, by rw [endS_fst]; exact h.fst, ?_, ?_⟩
  · unfold endS; split <;> rfl
  · unfold endS
    split
    · intro q hq; simp at hq
    · exact fun q hq => h.nw q (List.mem_of_mem_tail hq)
  · unfold endS
    split
    · refine Or.inr ⟨rfl, o, fun z hz => ?_⟩
      simp only [allO, List.mem_map] at hz
      obtain ⟨y, _, rfl⟩ := hz
      rfl
    · rename_i hk
      rcases h.pn with hp | ⟨hp, _⟩
      · refine Or.inl (fun z hz => ?_)
        rcases mem_putO hz with e' | e'
        · exact hp z e'
        · rw [e']; exact hk
      · rw [e] at hp; cases hp
theorem En.go {ps : List Ip} {S : Ld} (h : En ps S) {q : Ip} {l : List Ip} (e : S.left = q :: l) {k : Nat} {m wt on : Int} (hf : q.1.f S.p S.n = .go k m wt on) (tm : Int) : wt = 0 ∧ on = 0 ∧ En ps (goS S k m 0 0 tm) := by
  have hq : q.1.ok := h.iv.ok q (by rw [e]; simp)
  have hnw := h.nw q (by rw [e]; simp)
  obtain ⟨k1, k2⟩ := It.f_kind hq hf
  obtain ⟨_, _, _, h4, _, _, h7⟩ := It.f_go hq h.iv.n hf
  have hw : wt = 0 := by
    rcases h4 with e' | e' | e'
    · exact e'
    · obtain ⟨_, z, hz, hz6⟩ := k1 e'
      exact absurd hz6 (hnw z hz).1
    · obtain ⟨z, hz, hz7⟩ := k2 e'
      exact absurd hz7 (hnw z hz).2
  have hon := h7 hw
  exact ⟨hw, hon, h.iv.go e hf 0 0 tm (by unfold Rc.I64; omega), rfl, h.fst, h.nw, h.pn.elim Or.inl (fun p => by rw [p.1] at e; cases e)⟩
theorem En.start {ps ps' : List Ip} (h : NewOk 1 ps) (hw : ∀ q ∈ ps, q.1.wf) (he : ps'.map (·.1) = ps.map (·.1)) (hn : ∀ q ∈ ps, Nw q.1.L) : En ps (newS 1 ps ps') := by
  refine ⟨newS_iv h (W64.mk (by omega) (by omega)) hw he, rfl, ?_, fun q hq => ?_, Or.inl (fun z hz => ?_)⟩
  · simp [newS, rz0]
  · have h1 : q.1 ∈ ps'.map (·.1) := List.mem_map_of_mem hq
    rw [he] at h1
    obtain ⟨z, hz1, hz2⟩ := List.mem_map.1 h1
    rw [← hz2]
    exact hn z hz1
  · simp only [newS, List.mem_map] at hz
    obtain ⟨y, _, rfl⟩ := hz
    show (0 : Int) ≠ 2
    decide
theorem remL_map {l l' : List Ip} (h : l.map (·.1) = l'.map (·.1)) : remL l = remL l' := by
  have e : ∀ l : List Ip, remL l = ((l.map (·.1)).map (fun x => x.L.length + 1)).sum := fun l => by simp [remL, Function.comp_def]
  rw [e, e, h]
/-- a Step where nothing waits -/
def SeE (e : Ending) (w w' : World) (b r : Nat) (ps : List Ip) (S : Ld) (vr : Value) : Prop := ∃ S' vl' x0 x1, e = .returned (.tuple #[.agg #[.int .i64 x0, .int .i64 x1, .int .i64 0, .int .i64 0], .int .i64 0]) ∧ Lq w' b r S' vr vl' ∧ En ps S' ∧ rem S' < rem S ∧ S'.res.length = S.res.length ∧ Touch [b, r] w w'
theorem step_ends {w : World} {b r : Nat} {S : Ld} {vr vl : Value} {q : Ip} {l : List Ip} {vg vc vt : Value} {ps : List Ip} (h : Lq w b r S vr vl) (hk : Rc.Kd w) (he : En ps S) (e : S.left = q :: l) (ht : Tk w vt) :
    Calls Tryd.prog 12 #[.pointer (some ⟨b, 0, none⟩), vg, vc, vt] w fun e w' => SeE e w w' b r ps S vr := by
  rcases hR0 : q.1.f S.p S.n with ⟨k, m, wt, on⟩ | ⟨v, kd, c, u⟩
  · have hR : q.1.f S.p S.n = .go k m wt on := hR0
    obtain ⟨rfl, rfl, h2⟩ := he.go e hR 0
    refine (step_none h hk he.iv e he.wt ht hR).mono ?_
    rintro e' w' ⟨rfl, x1, x2⟩
    exact ⟨_, _, _, _, rfl, x1, h2, rem_go he.iv e hR 0 0 0, rfl, x2.mono (fun k hk => by simp at hk; simp [hk])⟩
  · have hR : q.1.f S.p S.n = .fin v kd c u := hR0
    refine (step_fin h hk he.iv e he.wt vg vc vt ht hR).mono ?_
    rintro e' w' ⟨rfl, vl', x1, x2⟩
    exact ⟨_, _, _, _, rfl, x1, he.end_ e _, rem_end he.iv e _, endS_len _ _, x2⟩
/-- what its results tell, behind its end: none panicked, or all are the one -/
theorem En.told {ps : List Ip} {S : Ld} (h : En ps S) : (∀ z ∈ S.res, z.2.2.1 ≠ 2) ∨ ∃ o : Oc, o.2.1 = 2 ∧ ∀ z ∈ S.res, z.2 = o := by
  rcases h.pn with hp | ⟨_, o, ho⟩
  · exact Or.inl hp
  · by_cases h2 : o.2.1 = 2
    · exact Or.inr ⟨o, h2, ho⟩
    · exact Or.inl (fun z hz => by rw [ho z hz]; exact h2)
/-- how many steps some items have, and one for each -/
def sumI (ps : List Ip) (j : Nat) : Nat := ps.length + ((ps.take j).map (fun q => q.1.L.length)).sum
theorem sumI_zero (ps : List Ip) : sumI ps 0 = ps.length := by simp [sumI]
theorem sumI_step {ps : List Ip} {j : Nat} {q : Ip} (h : ps[j]? = some q) : sumI ps (j + 1) = sumI ps j + q.1.L.length := by
  obtain ⟨hj, e⟩ := List.getElem?_eq_some_iff.1 h
  unfold sumI
  rw [List.take_succ_eq_append_getElem hj, List.map_append, List.sum_append, e]
  simp
  omega
theorem sum_succ (l : List Ip) : (l.map (fun q => q.1.L.length + 1)).sum = l.length + (l.map (fun q => q.1.L.length)).sum := by
  induction l with
  | nil => rfl
  | cons a l ih => simp only [List.map_cons, List.sum_cons, List.length_cons, ih]; omega
theorem sumI_all (ps : List Ip) : sumI ps ps.length = remL ps := by
  unfold sumI remL
  rw [List.take_length, sum_succ]
theorem sumI_le {ps : List Ip} (h : ∀ q ∈ ps, q.1.L.length ≤ 256) : ∀ j, j ≤ ps.length → sumI ps j ≤ ps.length + j * 256
  | 0, _ => by rw [sumI_zero]; omega
  | j + 1, hj => by
    have hg : ps[j]? = some ps[j] := List.getElem?_eq_getElem (by omega)
    have := sumI_le h j (by omega)
    have := h ps[j] (List.getElem_mem _)
    rw [sumI_step hg]
    omega
end Go.Proofs.YtcbckehdlbbbbaaDoor
/- A load whose gates are open and whose clock leaps: what holds of it at every point, in plain words; no conditions. -/
namespace Go.Proofs.YtcbckehdlbbbbaaDoor
open Go.RowKit Go.Maps Go.ChangeMaps
set_option linter.unusedVariables false
set_option linter.unusedSimpArgs false
/-- times added up, to the greatest tick at most -/
def sat (a c : Int) : Int := if 4611686018427387904 - a < c then 4611686018427387904 else a + c
theorem sat_in {a c : Int} (h0 : 0 ≤ a) (h1 : a ≤ 4611686018427387904) (h2 : 0 ≤ c) : 0 ≤ sat a c ∧ sat a c ≤ 4611686018427387904 := by
  unfold sat
  split <;> omega
theorem sat_zero {a : Int} (h1 : a ≤ 4611686018427387904) : sat a 0 = a := by
  unfold sat
  split <;> omega
theorem sat_assoc {a c d : Int} (h0 : 0 ≤ a) (h1 : a ≤ 4611686018427387904) (h2 : 0 ≤ c) (h3 : c ≤ 4611686018427387904) (h4 : 0 ≤ d) : sat (sat a c) d = sat a (sat c d) := by
  unfold sat
  split <;> split <;> (try split) <;> omega
theorem capS_sat {s on : Int} (h1 : s ≤ 4611686018427387904) (h4 : 0 ≤ on) : Rc.capS s on = sat s on := by
  unfold Rc.capS sat
  split <;> omega
/-- what each run came to, and how long it slept -/
abbrev Hs := List (Oc × Int)
def satsum (H : Hs) : Int := H.foldl (fun a h => sat a h.2) 0
theorem satsum_snoc (H : Hs) (h : Oc × Int) : satsum (H ++ [h]) = sat (satsum H) h.2 := by simp [satsum]
theorem satsum_in {H : Hs} (h : ∀ x ∈ H, 0 ≤ x.2) : 0 ≤ satsum H ∧ satsum H ≤ 4611686018427387904 := by
  have g : ∀ (H : Hs) (a : Int), (∀ x ∈ H, 0 ≤ x.2) → 0 ≤ a → a ≤ 4611686018427387904 → 0 ≤ H.foldl (fun a h => sat a h.2) a ∧ H.foldl (fun a h => sat a h.2) a ≤ 4611686018427387904 := by
    intro H
    induction H with
    | nil => exact fun a _ h0 h1 => ⟨h0, h1⟩
    | cons x H ih =>
      intro a hx h0 h1
      obtain ⟨k0, k1⟩ := sat_in h0 h1 (hx x (by simp))
      exact ih _ (fun y hy => hx y (by simp [hy])) k0 k1
  exact g H 0 h (Int.le_refl _) (by decide)
/-- a recipe comes to this by itself -/
def Comes (x : It) (h : Oc × Int) : Prop := Rc.Al x.f 0 0 0 (h.1.1, h.1.2.1, h.1.2.2.1, h.1.2.2.2, h.2) ∧ 0 ≤ h.2 ∧ h.2 ≤ 4611686018427387904
theorem Comes.eq {x : It} {h h' : Oc × Int} (a : Comes x h) (c : Comes x h') : h = h' := by
  have := Rc.Al.eq a.1 c.1
  obtain ⟨⟨v, k, d, u⟩, s⟩ := h
  obtain ⟨⟨v', k', d', u'⟩, s'⟩ := h'
  simp only [Prod.mk.injEq] at this
  obtain ⟨rfl, rfl, rfl, rfl, rfl⟩ := this
  rfl
theorem al_step {f : Nat → Int → Rc.Rs} {p : Nat} {n : Int} {k : Nat} {m on s : Int} {Z : Int × Int × Int × Int × Int} (hf : f p n = .go k m 0 on) (h : Rc.Al f k m s Z) : Rc.Al f p n s Z := by
  rcases Rc.Al.inv h with ⟨v, kk, c, r, h1, rfl⟩ | ⟨q, m', wt, on', h1, h2⟩
  · exact Rc.Al.fin (Rc.On.step hf h1)
  · exact Rc.Al.go (Rc.On.step hf h1) h2
/-- while it goes on -/
structure Ag (xs : List It) (S : Ld) (H : Hs) (s now : Int) : Prop where
  iv : Iv S
  wt : S.wt = 0
  len : S.res.length = xs.length
  run : S.res.map (·.1) = xs.map (·.run)
  al : ∀ (i : Nat) (x : It) (h : Oc × Int), xs[i]? = some x → H[i]? = some h → Comes x h
  nk : ∀ h ∈ H, h.1.2.1 ≠ 2
  lf : S.left.map (·.1) = xs.drop H.length
  hl : H.length ≤ xs.length
  rs : ∀ (i : Nat) (h : Oc × Int), H[i]? = some h → ∃ z, S.res[i]? = some z ∧ z.2 = h.1
  cu : ∀ q l, S.left = q :: l → ∀ Z, Rc.Al q.1.f S.p S.n s Z → Rc.Al q.1.f 0 0 0 Z
  s0 : 0 ≤ s
  s1 : s ≤ 4611686018427387904
  sz : S.left = [] → s = 0
  now : now = sat (satsum H) s
/-- behind a panic -/
structure Ap (xs : List It) (S : Ld) (H : Hs) (now : Int) : Prop where
  iv : Iv S
  left : S.left = []
  len : S.res.length = xs.length
  run : S.res.map (·.1) = xs.map (·.run)
  al : ∀ (i : Nat) (x : It) (h : Oc × Int), xs[i]? = some x → H[i]? = some h → Comes x h
  hl : H.length ≤ xs.length
  last : ∃ H0 h, H = H0 ++ [h] ∧ h.1.2.1 = 2 ∧ (∀ h' ∈ H0, h'.1.2.1 ≠ 2) ∧ ∀ z ∈ S.res, z.2 = h.1
  now : now = satsum H
section
variable {xs : List It} {S : Ld} {H : Hs} {s now : Int}
theorem Ag.pos (h : Ag xs S H s now) : ∀ x ∈ H, 0 ≤ x.2 := fun x hx => by
  obtain ⟨i, hi, rfl⟩ := List.getElem_of_mem hx
  have hx : i < xs.length := by have := h.hl; omega
  exact (h.al i _ _ (List.getElem?_eq_getElem hx) (List.getElem?_eq_getElem hi)).2.1
theorem Ag.cur (h : Ag xs S H s now) {q : Ip} {l : List Ip} (e : S.left = q :: l) : H.length < xs.length ∧ xs[H.length]? = some q.1 ∧ l.map (·.1) = xs.drop (H.length + 1) := by
  have h1 := h.lf
  rw [e] at h1
  have hlt : H.length < xs.length := by
    rcases Nat.lt_or_ge H.length xs.length with e' | e'
    · exact e'
    · rw [List.drop_of_length_le e'] at h1; cases h1
  rw [List.drop_eq_getElem_cons hlt, List.map_cons, List.cons.injEq] at h1
  exact ⟨hlt, by rw [List.getElem?_eq_getElem hlt, h1.1], h1.2⟩
theorem Ag.left_len (h : Ag xs S H s now) : S.left.length = xs.length - H.length := by
  have := congrArg List.length h.lf
  simpa using this
theorem Ag.at_eq (h : Ag xs S H s now) : S.at_ = H.length := by
  unfold Ld.at_
  rw [h.len, h.left_len]
  have := h.hl
  omega
theorem al_snoc {h : Oc × Int} (ha : ∀ (i : Nat) (x : It) (h : Oc × Int), xs[i]? = some x → H[i]? = some h → Comes x h) {x : It} (hx : xs[H.length]? = some x) (hc : Comes x h) : ∀ (i : Nat) (x' : It) (h' : Oc × Int), xs[i]? = some x' → (H ++ [h])[i]? = some h' → Comes x' h' := fun i x' h' h1 h2 => by
  rcases Nat.lt_trichotomy i H.length with e | e | e
  · rw [List.getElem?_append_left e] at h2
    exact ha i x' h' h1 h2
  · subst e
    rw [hx] at h1
    cases h1
    simp at h2
    subst h2
    exact hc
  · rw [List.getElem?_eq_none (by simp; omega)] at h2
    cases h2
/-- a recipe ends, not by a panic -/
theorem Ag.fin (h : Ag xs S H s now) {q : Ip} {l : List Ip} (e : S.left = q :: l) {v k c u : Int} (hf : q.1.f S.p S.n = .fin v k c u) (hk : k ≠ 2) : Ag xs (endS S (v, k, c, u)) (H ++ [((v, k, c, u), s)]) 0 now := by
  obtain ⟨h1, h2, h3⟩ := h.cur e
  have hc : Comes q.1 ((v, k, c, u), s) := ⟨h.cu q l e _ (Rc.Al.fin (Rc.On.fin hf)), h.s0, h.s1⟩
  have es : endS S (v, k, c, u) = ⟨S.num, putO S.res S.at_ (v, k, c, u), S.left.tail, 0, 0, 0, 0, S.tm⟩ := by unfold endS; rw [if_neg hk]
  have hsum := satsum_in h.pos
  refine ⟨h.iv.end_ _, by rw [es], by rw [endS_len]; exact h.len, by rw [endS_fst]; exact h.run, al_snoc h.al h2 hc, fun x hx => ?_, ?_, by simp; omega, fun i x hx => ?_, fun q' l' e' Z hZ => ?_, Int.le_refl _, by decide, fun _ => rfl, ?_⟩
  · simp only [List.mem_append, List.mem_singleton] at hx
    rcases hx with hx | rfl
    · exact h.nk x hx
    · exact hk
  · rw [es, e]
    simpa using h3
  · have ea := h.at_eq
    rw [es]
    show ∃ z, (putO S.res S.at_ (v, k, c, u))[i]? = some z ∧ _
    rw [ea]
    rcases Nat.lt_trichotomy i H.length with e' | e' | e'
    · rw [List.getElem?_append_left e'] at hx
      obtain ⟨z, hz1, hz2⟩ := h.rs i x hx
      exact ⟨z, by unfold putO; rw [List.getElem?_set_ne (by omega)]; exact hz1, hz2⟩
    · subst e'
      simp at hx
      subst hx
      unfold putO
      exact ⟨_, List.getElem?_set_self (by rw [h.len]; exact h1), rfl⟩
    · rw [List.getElem?_eq_none (by simp; omega)] at hx
      cases hx
  · rw [es] at hZ
    exact hZ
  · rw [satsum_snoc]
    show now = sat (sat (satsum H) s) 0
    rw [sat_zero (sat_in hsum.1 hsum.2 h.s0).2]
    exact h.now
/-- a recipe ends by a panic -/
theorem Ag.panic (h : Ag xs S H s now) {q : Ip} {l : List Ip} (e : S.left = q :: l) {v k c u : Int} (hf : q.1.f S.p S.n = .fin v k c u) (hk : k = 2) : Ap xs (endS S (v, k, c, u)) (H ++ [((v, k, c, u), s)]) now := by
  obtain ⟨h1, h2, h3⟩ := h.cur e
  have hc : Comes q.1 ((v, k, c, u), s) := ⟨h.cu q l e _ (Rc.Al.fin (Rc.On.fin hf)), h.s0, h.s1⟩
  have es : endS S (v, k, c, u) = ⟨S.num, allO S.res (v, k, c, u), [], 0, 0, 0, 0, S.tm⟩ := by unfold endS; rw [if_pos hk]
  refine ⟨h.iv.end_ _, by rw [es], by rw [endS_len]; exact h.len, by rw [endS_fst]; exact h.run, al_snoc h.al h2 hc, by simp; omega, ⟨H, _, rfl, hk, h.nk, fun z hz => ?_⟩, ?_⟩
  · rw [es] at hz
    simp only [allO, List.mem_map] at hz
    obtain ⟨y, _, rfl⟩ := hz
    rfl
  · rw [satsum_snoc]
    exact h.now
/-- it goes on, and does not sleep -/
theorem Ag.go (h : Ag xs S H s now) {q : Ip} {l : List Ip} (e : S.left = q :: l) {k : Nat} {m wt on : Int} (hf : q.1.f S.p S.n = .go k m wt on) (hw : wt ≠ 2) : Ag xs (goS S k m 0 0 0) H s now := by
  have hq : q.1.ok := h.iv.ok q (by rw [e]; simp)
  obtain ⟨_, _, _, h4, _, _, h7⟩ := It.f_go hq h.iv.n hf
  refine ⟨h.iv.go e hf 0 0 0 (by unfold Rc.I64; omega), rfl, h.len, h.run, h.al, h.nk, h.lf, h.hl, h.rs, fun q' l' e' Z hZ => ?_, h.s0, h.s1, h.sz, h.now⟩
  have e'' : S.left = q' :: l' := e'
  rw [e] at e''
  cases e''
  refine h.cu q l e Z ?_
  by_cases h0 : wt = 0
  · subst h0
    exact al_step hf hZ
  · refine Rc.Al.go (Rc.On.wait hf h0) ?_
    rw [if_neg hw]
    exact hZ
/-- it sleeps, and wakes -/
theorem Ag.slp (h : Ag xs S H s now) {q : Ip} {l : List Ip} (e : S.left = q :: l) {k : Nat} {m on : Int} (hf : q.1.f S.p S.n = .go k m 2 on) : Ag xs (goS S k m 0 0 0) H (sat s on) (sat now on) := by
  have hq : q.1.ok := h.iv.ok q (by rw [e]; simp)
  obtain ⟨_, _, _, h4, h5, _, h7⟩ := It.f_go hq h.iv.n hf
  obtain ⟨o0, o1⟩ := h5 rfl
  have hsum := satsum_in h.pos
  have hs := sat_in h.s0 h.s1 o0
  refine ⟨h.iv.go e hf 0 0 0 (by unfold Rc.I64; omega), rfl, h.len, h.run, h.al, h.nk, h.lf, h.hl, h.rs, fun q' l' e' Z hZ => ?_, hs.1, hs.2, fun e' => ?_, ?_⟩
  · have e'' : S.left = q' :: l' := e'
    rw [e] at e''
    cases e''
    refine h.cu q l e Z (Rc.Al.go (Rc.On.wait hf (by decide)) ?_)
    rw [if_pos rfl, capS_sat h.s1 o0]
    exact hZ
  · have e'' : S.left = [] := e'
    rw [e] at e''
    cases e''
  · rw [h.now, sat_assoc hsum.1 hsum.2 h.s0 h.s1 o0]
theorem Ag.start {ps ps' : List Ip} (h : NewOk 3 ps) (hw : ∀ q ∈ ps, q.1.wf) (he : ps'.map (·.1) = ps.map (·.1)) : Ag (ps.map (·.1)) (newS 3 ps ps') [] 0 0 := by
  refine ⟨newS_iv h (W64.mk (by omega) (by omega)) hw he, rfl, by simp [newS], by simp [newS, rz0], fun i x h _ h' => by simp at h', fun h hh => by simp at hh, by simpa [newS] using he, Nat.zero_le _, fun i h h' => by simp at h', fun q l e Z hZ => hZ, Int.le_refl _, by decide, fun _ => rfl, rfl⟩
end
/-- how a load stands at its end -/
structure Ae (xs : List It) (S : Ld) (H : Hs) (now : Int) (pk : Option Oc) : Prop where
  len : S.res.length = xs.length
  run : S.res.map (·.1) = xs.map (·.run)
  al : ∀ (i : Nat) (x : It) (h : Oc × Int), xs[i]? = some x → H[i]? = some h → Comes x h
  hl : H.length ≤ xs.length
  now : now = satsum H
  none_ : pk = none → H.length = xs.length ∧ (∀ h ∈ H, h.1.2.1 ≠ 2) ∧ ∀ (i : Nat) (h : Oc × Int), H[i]? = some h → ∃ z, S.res[i]? = some z ∧ z.2 = h.1
  some_ : ∀ o, pk = some o → o.2.1 = 2 ∧ (∃ H0 s, H = H0 ++ [(o, s)] ∧ ∀ h' ∈ H0, h'.1.2.1 ≠ 2) ∧ ∀ z ∈ S.res, z.2 = o
theorem Ag.done {xs : List It} {S : Ld} {H : Hs} {s now : Int} (h : Ag xs S H s now) (e : S.left = []) : Ae xs S H now none := by
  have hl : H.length = xs.length := by
    have := h.left_len
    rw [e] at this
    have h1 := h.hl
    simp at this
    omega
  refine ⟨h.len, h.run, h.al, h.hl, ?_, fun _ => ⟨hl, h.nk, h.rs⟩, fun o ho => by cases ho⟩
  rw [h.now, h.sz e]
  exact sat_zero (satsum_in h.pos).2
theorem Ap.done {xs : List It} {S : Ld} {H : Hs} {now : Int} (h : Ap xs S H now) : ∃ o, Ae xs S H now (some o) := by
  obtain ⟨H0, ⟨o, s⟩, e1, e2, e3, e4⟩ := h.last
  exact ⟨o, h.len, h.run, h.al, h.hl, h.now, fun e => (by cases e), fun o' ho => by
    cases ho
    exact ⟨e2, ⟨H0, s, e1, e3⟩, e4⟩⟩
end Go.Proofs.YtcbckehdlbbbbaaDoor
/- No load, no gates and no clock: the walk of the law LoadNil; the condition is that the listed table holds what the start lays. -/
namespace Go.Proofs.YtcbckehdlbbbbaaDoor
open Go.RowKit Go.Maps Go.ChangeMaps
set_option linter.unusedVariables false
set_option linter.unusedSimpArgs false
theorem and_le (x : Int) (M : Nat) (hM : (BitVec.ofInt 64 (M : Int)).toNat = M) (h : M < 9223372036854775808) : 0 ≤ bits .and .i64 x M ∧ bits .and .i64 x M ≤ M := by
  have e : bits .and .i64 x M = IntKind.i64.wrap ((BitVec.ofInt 64 x &&& BitVec.ofInt 64 (M : Int)).toNat : Int) := rfl
  have h1 : (BitVec.ofInt 64 x &&& BitVec.ofInt 64 (M : Int)).toNat ≤ M := by
    rw [BitVec.toNat_and, hM]
    exact Nat.and_le_right
  rw [e, IntKind.wrap_i64]
  omega
theorem and255 (x : Int) : 0 ≤ bits .and .i64 x 255 ∧ bits .and .i64 x 255 ≤ 255 := and_le x 255 rfl (by omega)
theorem and62 (x : Int) : 0 ≤ bits .and .i64 x 4611686018427387903 ∧ bits .and .i64 x 4611686018427387903 ≤ 4611686018427387903 := and_le x 4611686018427387903 rfl (by omega)
section
variable (w : World)
theorem gnew' : Calls Tryd.prog 8 #[] w fun e w2 => ∃ g, e = .returned (.pointer (some ⟨g, 0, none⟩)) ∧ Gn w2 g (fun _ => false) ∧ w.heap.size ≤ g ∧ Touch [] w w2 := (gnew_ w).mono (by
  rintro e w2 ⟨rfl, h, t⟩
  exact ⟨_, rfl, h, Nat.le_refl _, t⟩)
theorem cnew' : Calls Tryd.prog 9 #[] w fun e w2 => ∃ c F, e = .returned (.pointer (some ⟨c, 0, none⟩)) ∧ Cl.Ck w2 c F ⟨0, 0, []⟩ ∧ (∀ k ∈ F, w.heap.size ≤ k) ∧ Touch [] w w2 := (Cl.new7 w).mono (by
  rintro e w2 ⟨c, F, rfl, h, t, hF⟩
  exact ⟨_, F, rfl, h, hF, t⟩)
theorem tnew' : Calls Tryd.prog 10 #[] w fun e w2 => ∃ t, e = .returned (.pointer (some ⟨t, 0, none⟩)) ∧ Tk w2 (.pointer (some ⟨t, 0, none⟩)) ∧ Touch [] w w2 := (tnew_ w).mono (by
  rintro e w2 ⟨rfl, h, t⟩
  exact ⟨_, rfl, Or.inr ⟨_, rfl, h⟩, t⟩)
end
/-- a load of one step, that is kept so -/
structure Ok1 (w0 w : World) (b r : Nat) (vr vl v : Value) (op a c : Int) : Prop where
  q : Lq w b r (oneS op a c v) vr vl
  i : Iv (oneS op a c v)
  r : w0.heap.size ≤ r
  lo : Lo w0.heap.size vl [(itO op a c, v)]
theorem Ok1.keep {w0 w w' : World} {b r : Nat} {vr vl v : Value} {op a c : Int} {F : List Nat} (h : Ok1 w0 w b r vr vl v op a c) (T : Touch F w w') (hF : ∀ k ∈ F, k < w0.heap.size ∨ b < k) : Ok1 w0 w' b r vr vl v op a c := ⟨h.q.keepLo h.lo h.r T hF, h.i, h.r, h.lo⟩
theorem Ok1.keep0 {w0 w w' : World} {b r : Nat} {vr vl v : Value} {op a c : Int} (h : Ok1 w0 w b r vr vl v op a c) (T : Touch [] w w') : Ok1 w0 w' b r vr vl v op a c := h.keep T (fun _ e => by cases e)
theorem inE_ok {s : Cl.Cs} (h : Cl.Ok s) (hT : s.T.length < 65536) {d : Int} (h0 : 0 ≤ d) : Cl.inE s d = 0 := by
  have h1 := h.n0
  have h2 := h.n1
  have h3 : (0 ≤ Cl.inT s d ∧ Cl.inT s d ≤ 4611686018427387904) ∧ s.now ≤ Cl.inT s d := by
    unfold Cl.inT
    split <;> omega
  unfold Cl.inE
  rw [if_neg (by omega)]
  unfold Cl.armE
  rw [if_neg (by rw [Cl.isT_yes h3.1]; decide), if_neg (by omega), if_neg (by omega)]
set_option maxHeartbeats 16000000 in
set_option maxRecDepth 100000 in
theorem nil_ (w : World) (ga ti : Int) (hk : Rc.Kd w) : Calls Tryd.prog 4 #[.int .i64 ga, .int .i64 ti] w fun e w' => e = .returned (.bool true) ∧ Touch [] w w' := by
  obtain ⟨A0, A1⟩ := and255 ga
  obtain ⟨B0, B1⟩ := and62 ti
  have HK : Hid (∀ w', Touch [] w w' → Rc.Kd w') := hid (fun w' T => Kd.touch hk T)
  have HN1 : Hid (∀ w1, Touch [] w w1 → Calls Tryd.prog 6 #[.int .i64 1, .slice (some ⟨w1.heap.size + 1, 0, none⟩) 1 1] ((w1.alloc (.cells #[.int .i64 6, .int .i64 (bits .and .i64 ga 255), .int .i64 0] 35)).alloc (.cells #[.int .i64 1, .int .u16 0, .string ⟨#[]⟩, .int .i64 0, .slice (some ⟨w1.heap.size, 0, none⟩) 1 1] 33)) fun e w' => OneE e w1 w' 6 (bits .and .i64 ga 255) 0) := hid (fun w1 T => one_new w1 6 _ 0 (Kd.touch hk T) (by unfold Rc.may3; omega) (by unfold Rc.I64; omega) (by unfold Rc.I64; omega) (by unfold Rc.I64; omega))
  have HN2 : Hid (∀ w1, Touch [] w w1 → Calls Tryd.prog 6 #[.int .i64 1, .slice (some ⟨w1.heap.size + 1, 0, none⟩) 1 1] ((w1.alloc (.cells #[.int .i64 7, .int .i64 (bits .and .i64 ti 4611686018427387903), .int .i64 0] 35)).alloc (.cells #[.int .i64 1, .int .u16 0, .string ⟨#[]⟩, .int .i64 0, .slice (some ⟨w1.heap.size, 0, none⟩) 1 1] 33)) fun e w' => OneE e w1 w' 7 (bits .and .i64 ti 4611686018427387903) 0) := hid (fun w1 T => one_new w1 7 _ 0 (Kd.touch hk T) (by unfold Rc.may3; omega) (by unfold Rc.I64; omega) (by unfold Rc.I64; omega) (by unfold Rc.I64; omega))
  have HAW : Hid (∀ w1, Touch [] w w1 → Calls Tryd.prog 7 #[] w1 fun e w' => e = .returned (.bool true) ∧ Touch [] w1 w') := hid (fun w1 T => awake_ w1 (Kd.touch hk T))
  have HAB := hid (And.intro (And.intro A0 A1) (And.intro B0 B1))
  clear hk A0 A1 B0 B1
  go_enter Tryd.func4, Tryd.ntmps4
  go_upto_region 3 with (first
    | (go_at_call 8; refine (gnew' _).mono ?_; rintro e w1 ⟨g1, rfl, _, _, t1⟩; have T1 := hid t1; clear t1)
    | (go_at_call 9; refine (cnew' _).mono ?_; rintro e w2 ⟨c1, F1, rfl, _, _, t2⟩; have T2 := hid (T1.out.trans' t2); clear t2)
    | (go_at_call 10; refine (tnew' _).mono ?_; rintro e w3 ⟨k1, rfl, _, t3⟩; have T3 := hid (T2.out.trans' t3); clear t3)
    | (go_at_call 12; refine (step_nil _ _ _ _).mono ?_; rintro e w4 ⟨rfl, t4⟩; have T4 := hid (T3.out.trans' t4); clear t4)
    | fail)
  have hb6 : (w4.alloc (.cells #[.int .i64 0, .int .i64 0, .int .i64 0, .int .i64 0] 43)).heap[w4.heap.size]? = some (.cells #[.int .i64 0, .int .i64 0, .int .i64 0, .int .i64 0] 43 (0, 0)) := heap_alloc_new w4 _
  have TX : Hid (Touch [] w (w4.alloc (.cells #[.int .i64 0, .int .i64 0, .int .i64 0, .int .i64 0] 43))) := hid (T4.out.alloc _)
  have hbw : w.heap.size ≤ w4.heap.size := T4.out.size
  obtain ⟨B6, hB6⟩ : ∃ B6, B6 = w4.heap.size := ⟨_, rfl⟩
  rw [← hB6] at hb6 hbw ⊢
  generalize w4.alloc (.cells #[.int .i64 0, .int .i64 0, .int .i64 0, .int .i64 0] 43) = X at *
  clear T1 T2 T3 T4 hB6
  go_upto_region 4 with (go_at_call 14; refine (waits_nil _).mono ?_; rintro e w5 ⟨rfl, rfl⟩)
  have HB6 : Hid (∀ w', Touch [] w5 w' → w'.heap[B6]? = some (.cells #[.int .i64 0, .int .i64 0, .int .i64 0, .int .i64 0] 43 (0, 0))) := hid (fun w' T => T.keep hb6 (by simp))
  go_upto_region 6 with (first
    | (go_at_call 7; refine (HAW.out _ TX.out).mono ?_; rintro e w6 ⟨rfl, t6⟩; have T6 := hid t6; have b6 := HB6.out _ t6; have x0 := cell_at (j := 0) (v := .int .i64 0) b6 rfl; have x1 := cell_at (j := 1) (v := .int .i64 0) b6 rfl; have x2 := cell_at (j := 2) (v := .int .i64 0) b6 rfl; have x3 := cell_at (j := 3) (v := .int .i64 0) b6 rfl; clear t6)
    | (go_at_call 15; refine (wake_nil _).mono ?_; rintro e w7 ⟨rfl, rfl⟩)
    | (go_at_call 11; refine (over_nil _).mono ?_; rintro e w7 ⟨rfl, rfl⟩)
    | (go_at_call 16; refine (timer_nil _).mono ?_; rintro e w7 ⟨rfl, rfl⟩)
    | (go_at_call 17; refine (at_nil _).mono ?_; rintro e w7 ⟨rfl, rfl⟩)
    | (go_at_call 18; refine (number_nil _).mono ?_; rintro e w7 ⟨rfl, rfl⟩)
    | (go_at_call 19; refine (runs_nil _).mono ?_; rintro e w7 ⟨rfl, rfl⟩)
    | (go_at_call 13; refine (results_nil _).mono ?_; rintro e w7 ⟨rfl, rfl⟩)
    | (go_at_call 20; refine (clone_nil _).mono ?_; rintro e w7 ⟨rfl, rfl⟩)
    | fail)
  obtain ⟨a, ha⟩ : ∃ a, a = bits .and .i64 ga 255 := ⟨_, rfl⟩
  obtain ⟨d, hd⟩ : ∃ d, d = bits .and .i64 ti 4611686018427387903 := ⟨_, rfl⟩
  have HW7 : Hid (Touch [] w w7) := hid (TX.out.trans' T6.out)
  clear x0 x1 x2 x3 HB6 hb6 HAW
  go_upto_region 7 with (go_at_call 6; refine (HN1.out _ HW7.out).mono ?_; rintro e w8 ⟨ba, ra, var, vaf, va, rfl, q1, q2, q3, q4, q5⟩; have HA8 : Hid (Ok1 w7 w8 ba ra var vaf va 6 (bits .and .i64 ga 255) 0) := hid ⟨q1, q2, q3, q5⟩; have T8 := hid q4; clear q1 q2 q3 q4 q5)
  have HW8 : Hid (Touch [] w w8) := hid (HW7.out.trans' T8.out)
  go_upto_region 8 with (go_at_call 6; refine (HN2.out _ HW8.out).mono ?_; rintro e w9 ⟨bb, rb, vbr, vbf, vb, rfl, q1, q2, q3, q4, q5⟩; have HB9 : Hid (Ok1 w8 w9 bb rb vbr vbf vb 7 (bits .and .i64 ti 4611686018427387903) 0) := hid ⟨q1, q2, q3, q5⟩; have T9 := hid q4; clear q1 q2 q3 q4 q5)
  have HW9 : Hid (Touch [] w w9) := hid (HW8.out.trans' T9.out)
  have HA9 := hid (HA8.out.keep0 T9.out)
  have hba : ba < w8.heap.size := block_lt HA8.out.q.bl
  have hbb : w8.heap.size ≤ bb := by have := HB9.out.r; have := HB9.out.q.rb; omega
  have hba0 : w7.heap.size ≤ ba := by have := HA8.out.r; have := HA8.out.q.rb; omega
  have b9 : w9.heap[B6]? = some (.cells #[.int .i64 0, .int .i64 0, .int .i64 0, .int .i64 0] 43 (0, 0)) := (T8.out.trans' T9.out).keep b6 (by simp)
  have hb67 : B6 < w7.heap.size := block_lt b6
  have HB6' := hid b9
  clear b6 b9 HN1 HN2 HA8
  -- no gates
  go_upto_region 11 with (first
    | (go_at_call 9; refine (cnew' _).mono ?_; rintro e v1 ⟨c2, F2, rfl, _, _, t1⟩; have U1 := hid t1; clear t1)
    | (go_at_call 10; refine (tnew' _).mono ?_; rintro e v2 ⟨k2, rfl, tk2, t2⟩; have U2 := hid (U1.out.trans' t2); have TK2 := hid tk2; clear t2 tk2)
    | (go_at_call 12; refine (step_gnil (vc := .pointer (some ⟨c2, 0, none⟩)) (HA9.out.keep0 U2.out).q (HK.out _ (HW9.out.trans' U2.out)) HA9.out.i rfl rfl TK2.out (f_gate _)).mono ?_; rintro e v3 ⟨rfl, _, t3⟩; have U3 := hid (U2.out.trans' t3); have c6 := (U2.out.trans' t3).keep HB6'.out (by simp); have x0 := cell_at (j := 0) (v := .int .i64 0) c6 rfl; have x1 := cell_at (j := 1) (v := .int .i64 0) c6 rfl; have x2 := cell_at (j := 2) (v := .int .i64 0) c6 rfl; have x3 := cell_at (j := 3) (v := .int .i64 0) c6 rfl; have xf := froz_at c6; have xl := block_lt c6; clear t3)
    | fail)
  have T4 : Touch [B6] v3 ((((v3.setCell ⟨B6, 0, none⟩ (.int .i64 0)).setCell ⟨B6, 1, none⟩ (.int .i64 0)).setCell ⟨B6, 2, none⟩ (.int .i64 0)).setCell ⟨B6, 3, none⟩ (.int .i64 0)) := ((((Touch.refl _ _).setCell (Or.inl (by simp)) _).setCell (Or.inl (by simp)) _).setCell (Or.inl (by simp)) _).setCell (Or.inl (by simp)) _
  have c7 : ((((v3.setCell ⟨B6, 0, none⟩ (.int .i64 0)).setCell ⟨B6, 1, none⟩ (.int .i64 0)).setCell ⟨B6, 2, none⟩ (.int .i64 0)).setCell ⟨B6, 3, none⟩ (.int .i64 0)).heap[B6]? = some (.cells #[.int .i64 0, .int .i64 0, .int .i64 0, .int .i64 0] 43 (0, 0)) := by
    have := bset (i := 3) (bset (i := 2) (bset (i := 1) (bset (i := 0) c6 (.int .i64 0)) (.int .i64 0)) (.int .i64 0)) (.int .i64 0)
    simpa using this
  generalize (((v3.setCell ⟨B6, 0, none⟩ (.int .i64 0)).setCell ⟨B6, 1, none⟩ (.int .i64 0)).setCell ⟨B6, 2, none⟩ (.int .i64 0)).setCell ⟨B6, 3, none⟩ (.int .i64 0) = v4 at *
  have HV4 : Hid (Touch [] w v4) := hid ((HW9.out.trans' U3.out).trans T4 (fun k hk => Or.inr (by simp at hk; omega)))
  have HAV := hid ((HA9.out.keep0 U3.out).keep T4 (fun k hk => Or.inl (by simp at hk; omega)))
  have HBV := hid ((HB9.out.keep0 U3.out).keep T4 (fun k hk => Or.inl (by simp at hk; have := T8.out.size; omega)))
  have HC7 := hid c7
  clear x0 x1 x2 x3 xf xl c6 c7 T4 U1 U2 U3 HA9 HB9 HB6'
  -- no clock
  go_upto_region 12 with (first
    | (go_at_call 8; refine (gnew' _).mono ?_; rintro e u1 ⟨g2, rfl, _, _, t1⟩; have U1 := hid t1; clear t1)
    | (go_at_call 10; refine (tnew' _).mono ?_; rintro e u2 ⟨k3, rfl, tk2, t2⟩; have U2 := hid (U1.out.trans' t2); have TK3 := hid tk2; clear t2 tk2)
    | (go_at_call 12; refine (step_snil (vg := .pointer (some ⟨g2, 0, none⟩)) (HBV.out.keep0 U2.out).q (HK.out _ (HV4.out.trans' U2.out)) HBV.out.i rfl rfl TK3.out (f_sleep _)).mono ?_; rintro e u3 ⟨rfl, _, t3⟩; have U3 := hid (U2.out.trans' t3); clear t3)
    | fail)
  have hb16 : (u3.alloc (.cells #[.int .i64 0, .int .i64 0, .int .i64 0, .int .i64 0] 43)).heap[u3.heap.size]? = some (.cells #[.int .i64 0, .int .i64 0, .int .i64 0, .int .i64 0] 43 (0, 0)) := heap_alloc_new u3 _
  have U4 : Touch [] v4 (u3.alloc (.cells #[.int .i64 0, .int .i64 0, .int .i64 0, .int .i64 0] 43)) := U3.out.alloc _
  have hbv : bb < u3.heap.size := Nat.lt_of_lt_of_le (block_lt HBV.out.q.bl) U3.out.size
  obtain ⟨C6, hC6⟩ : ∃ C6, C6 = u3.heap.size := ⟨_, rfl⟩
  rw [← hC6] at hb16 hbv ⊢
  generalize u3.alloc (.cells #[.int .i64 0, .int .i64 0, .int .i64 0, .int .i64 0] 43) = u4 at *
  have HU4 := hid (HV4.out.trans' U4)
  have HAU := hid (HAV.out.keep0 U4)
  have HBU := hid (HBV.out.keep0 U4)
  have HC8 := hid (U4.keep HC7.out (by simp))
  have HD8 := hid hb16
  clear hC6 U1 U2 U3 U4 HAV HBV HC7 hb16
  have x0 := cell_at (j := 0) (v := .int .i64 0) HC8.out rfl
  have x1 := cell_at (j := 1) (v := .int .i64 0) HC8.out rfl
  have x2 := cell_at (j := 2) (v := .int .i64 0) HC8.out rfl
  have x3 := cell_at (j := 3) (v := .int .i64 0) HC8.out rfl
  have y0 := cell_at (j := 0) (v := .int .i64 0) HD8.out rfl
  have y1 := cell_at (j := 1) (v := .int .i64 0) HD8.out rfl
  have y2 := cell_at (j := 2) (v := .int .i64 0) HD8.out rfl
  have y3 := cell_at (j := 3) (v := .int .i64 0) HD8.out rfl
  go_upto_region 14 with fail
  clear x0 x1 x2 x3 y0 y1 y2 y3
  -- gates alone
  go_upto_region 15 with (first
    | (go_at_call 8; refine (gnew' _).mono ?_; rintro e s1 ⟨g3, rfl, gn3, gl3, t1⟩; have U1 := hid t1; have GN := hid gn3; have GL := hid gl3; clear t1 gn3 gl3)
    | (go_at_call 12; refine (step_shut (HAU.out.keep0 U1.out).q (HK.out _ (HU4.out.trans' U1.out)) HAU.out.i rfl rfl (Or.inl rfl) (f_gate _) GN.out (fun _ _ => rfl) (by have := GL.out; have := block_lt HAU.out.q.bl; omega)).mono ?_; rintro e s2 ⟨rfl, _, t3⟩; have U2 := hid t3; have hs1 := GL.out; have c6 := t3.keep (U1.out.keep HC8.out (by simp)) (by have := block_lt HC8.out; simp; omega); have x0 := cell_at (j := 0) (v := .int .i64 0) c6 rfl; have x1 := cell_at (j := 1) (v := .int .i64 0) c6 rfl; have x2 := cell_at (j := 2) (v := .int .i64 0) c6 rfl; have x3 := cell_at (j := 3) (v := .int .i64 0) c6 rfl; have xf := froz_at c6; have xl := block_lt c6; clear t3)
    | fail)
  obtain ⟨s3, hs3⟩ : ∃ s3, s3 = (((s2.setCell ⟨B6, 0, none⟩ (.int .i64 2)).setCell ⟨B6, 1, none⟩ (.int .i64 (itO 6 (bits .and .i64 ga 255) 0).run)).setCell ⟨B6, 2, none⟩ (.int .i64 (bits .and .i64 ga 255))).setCell ⟨B6, 3, none⟩ (.int .i64 0) := ⟨_, rfl⟩
  rw [← hs3]
  have T3 : Touch [B6] s2 s3 := by rw [hs3]; exact ((((Touch.refl _ _).setCell (Or.inl (by simp)) _).setCell (Or.inl (by simp)) _).setCell (Or.inl (by simp)) _).setCell (Or.inl (by simp)) _
  have c7 : ∃ z1 z2 z3, s3.heap[B6]? = some (.cells #[.int .i64 2, z1, z2, z3] 43 (0, 0)) := by
    rw [hs3]
    have := bset (i := 3) (bset (i := 2) (bset (i := 1) (bset (i := 0) c6 (.int .i64 2)) (.int .i64 (itO 6 (bits .and .i64 ga 255) 0).run)) (.int .i64 (bits .and .i64 ga 255))) (.int .i64 0)
    exact ⟨_, _, _, by simpa using this⟩
  obtain ⟨z1, z2, z3, c7⟩ := c7
  have hus := U1.out.size
  have hcl := block_lt HD8.out
  have hw78 := T8.out.size
  have HBS := hid (((HBU.out.keep0 U1.out).keep U2.out (fun k hk => by simp at hk; rcases hk with rfl | rfl <;> omega)).keep T3 (fun k hk => Or.inl (by simp at hk; omega)))
  have HDS := hid (T3.keep (U2.out.keep (U1.out.keep HD8.out (by simp)) (by simp; omega)) (by simp; omega))
  have HS3 : Hid (Touch [] w s3) := hid (((HU4.out.trans' U1.out).trans U2.out (fun k hk => Or.inr (by have := HW7.out.size; have := HU4.out.size; simp at hk; rcases hk with rfl | rfl <;> omega))).trans T3 (fun k hk => Or.inr (by simp at hk; omega)))
  have HC7 := hid c7
  clear hs3 T3 c7 x0 x1 x2 x3 xf xl c6 U1 U2 GN GL HAU HBU HC8 HD8
  go_upto_region 16 with (first
    | (go_at_call 9; refine (cnew' _).mono ?_; rintro e r1 ⟨c3, F3, rfl, ck3, cf3, t1⟩; have U1 := hid t1; have CK := hid ck3; have CF := hid cf3; clear t1 ck3 cf3)
    | (go_at_call 12; refine (step_slp (HBS.out.keep0 U1.out).q (HK.out _ (HS3.out.trans' U1.out)) HBS.out.i rfl rfl (Or.inl rfl) (f_sleep _) CK.out (fun k hk => by have := CF.out k hk; have := block_lt HBS.out.q.bl; omega) (by decide) (inE_ok Cl.Ok.start (by decide) HAB.out.2.1)).mono ?_; rintro e r2 ⟨rfl, _, F4, _, nf4, t3⟩; have U2 := hid t3; have hF3 := hid CF.out; have hbs := block_lt HBS.out.q.bl; have c8 := t3.keep (U1.out.keep HC7.out (by simp)) (fun e => by have := block_lt HC7.out; rcases List.mem_cons.1 e with e | e; omega; have := CF.out _ e; omega); have d8 := t3.keep (U1.out.keep HDS.out (by simp)) (fun e => by have := block_lt HDS.out; rcases List.mem_cons.1 e with e | e; omega; have := CF.out _ e; omega); have x0 := cell_at (j := 0) (v := .int .i64 2) c8 rfl; have y0 := cell_at (j := 0) (v := .int .i64 0) d8 rfl; have y1 := cell_at (j := 1) (v := .int .i64 0) d8 rfl; have y2 := cell_at (j := 2) (v := .int .i64 0) d8 rfl; have y3 := cell_at (j := 3) (v := .int .i64 0) d8 rfl; have yf := froz_at d8; have yl := block_lt d8; have hBC : B6 ≠ C6 := (by omega); clear t3 nf4 c8 d8)
    | fail)
  go_wp2
  go_ret
  refine ⟨rfl, ?_⟩
  have hz := HS3.out.size
  have hz2 := U1.out.size
  have hw7 := HW7.out.size
  have T5 : Touch [] w r2 := (HS3.out.trans' U1.out).trans U2.out (fun k hk => Or.inr (by rcases List.mem_cons.1 hk with e | e; omega; have := hF3.out _ e; omega))
  exact (((T5.setCell (Or.inr (by show w.heap.size ≤ C6; omega)) _).setCell (Or.inr (by show w.heap.size ≤ C6; omega)) _).setCell (Or.inr (by show w.heap.size ≤ C6; omega)) _).setCell (Or.inr (by show w.heap.size ≤ C6; omega)) _
end Go.Proofs.YtcbckehdlbbbbaaDoor
/- A load whose gates are open and whose clock leaps: its Step, the clock's Leap and its Wake, with what holds between them; the conditions are those that each states. -/
namespace Go.Proofs.YtcbckehdlbbbbaaDoor
open Go.RowKit Go.Maps Go.ChangeMaps
set_option linter.unusedVariables false
set_option linter.unusedSimpArgs false
theorem in_slp {cs : Cl.Cs} (h : Cl.Ok cs) (hT : cs.T = []) {on : Int} (h0 : 0 ≤ on) : Cl.inE cs on = 0 ∧ Cl.inS cs on = ⟨cs.now, cs.last + 1, [⟨sat cs.now on, cs.last + 1⟩]⟩ := by
  have e0 := inE_ok h (by rw [hT]; decide) h0
  refine ⟨e0, ?_⟩
  have e1 : Cl.armE cs (Cl.inT cs on) = 0 := by
    unfold Cl.inE at e0
    rw [if_neg (by omega)] at e0
    exact e0
  unfold Cl.inS
  rw [if_neg (by omega)]
  unfold Cl.armS
  rw [if_pos e1, hT]
  rfl
theorem leap_slp (now last t : Int) : Cl.leapS ⟨now, last, [⟨t, last⟩]⟩ = ⟨t, last, []⟩ := by
  unfold Cl.leapS Cl.goS Cl.dueT
  simp
/-- what stands between two rounds -/
structure Ab (w wr : World) (ps : List Ip) (b r g c t : Nat) (vr : Value) (S : Ld) (vl : Value) (F : List Nat) (cs : Cl.Cs) (N : Nat) : Prop where
  q : Lq wr b r S vr vl
  a : (∃ H s, Ag (ps.map (·.1)) S H s cs.now) ∨ ∃ H, Ap (ps.map (·.1)) S H cs.now
  tk : wr.heap[t]? = some (.cells #[.slice none 0 0] 92 (0, 0))
  gn : ∃ op, (∀ i, i < 256 → op i = true) ∧ Gn wr g op
  ck : Cl.Ck wr c F cs
  cT : cs.T = []
  la : cs.last ≤ (N : Int)
  gb : b < g
  tb : b < t
  cf : ∀ k ∈ F, b < k
  gf : ¬ g ∈ F
  tf : ¬ t ∈ F
  cw : Touch [] w wr
  rw_ : w.heap.size ≤ r
section
variable {w wr : World} {ps : List Ip} {b r g c t : Nat} {vr : Value} {S : Ld} {vl : Value} {F : List Nat} {cs : Cl.Cs} {N : Nat} {q : Ip} {l : List Ip}
theorem Ab.ag (h : Ab w wr ps b r g c t vr S vl F cs N) (e : S.left = q :: l) : ∃ H s, Ag (ps.map (·.1)) S H s cs.now := by
  rcases h.a with h1 | ⟨H, h1⟩
  · exact h1
  · have := h1.left
    rw [e] at this
    cases this
theorem Ab.keep0 {w' : World} (h : Ab w wr ps b r g c t vr S vl F cs N) (T : Touch [] wr w') : Ab w w' ps b r g c t vr S vl F cs N := by
  obtain ⟨op, h1, h2⟩ := h.gn
  exact ⟨h.q.keep0 T, h.a, T.keep h.tk (by simp), ⟨op, h1, h2.keep T (by simp)⟩, h.ck.keep0 T, h.cT, h.la, h.gb, h.tb, h.cf, h.gf, h.tf, h.cw.trans' T, h.rw_⟩
/-- the load alone has changed -/
theorem Ab.next {w' : World} {S' : Ld} {vl' : Value} (h : Ab w wr ps b r g c t vr S vl F cs N) (hq : Lq w' b r S' vr vl') (ha : (∃ H s, Ag (ps.map (·.1)) S' H s cs.now) ∨ ∃ H, Ap (ps.map (·.1)) S' H cs.now) (T : Touch [b, r] wr w') : Ab w w' ps b r g c t vr S' vl' F cs (N + 1) := by
  obtain ⟨op, h1, h2⟩ := h.gn
  have hrb := h.q.rb
  have hgb := h.gb
  have htb := h.tb
  have hr := h.rw_
  refine ⟨hq, ha, T.keep h.tk (by simp; omega), ⟨op, h1, h2.keep T (by simp; omega)⟩, h.ck.keep T (fun k hk e => ?_), h.cT, by have := h.la; omega, h.gb, h.tb, h.cf, h.gf, h.tf, h.cw.trans T (fun k hk => Or.inr (by simp at hk; omega)), h.rw_⟩
  have := h.cf k hk
  simp at e
  omega
/-- a Step that does not sleep -/
def SnE (e : Ending) (w w' : World) (ps : List Ip) (b r g c t : Nat) (vr : Value) (S : Ld) (F : List Nat) (cs : Cl.Cs) (N : Nat) : Prop := ∃ S' vl' x0 x1, e = .returned (.tuple #[.agg #[.int .i64 x0, .int .i64 x1, .int .i64 0, .int .i64 0], .int .i64 0]) ∧ (x0 == 3) = false ∧ Ab w w' ps b r g c t vr S' vl' F cs (N + 1) ∧ rem S' < rem S
theorem endW_ne (S : Ld) (o : Oc) : (endW S 5 o == 3) = false := by
  unfold endW
  split
  · rfl
  · split <;> rfl
theorem step_awake (h : Ab w wr ps b r g c t vr S vl F cs N) (hk : Rc.Kd wr) (e : S.left = q :: l) (hns : ∀ k m on, q.1.f S.p S.n ≠ .go k m 2 on) :
    Calls Tryd.prog 12 #[.pointer (some ⟨b, 0, none⟩), .pointer (some ⟨g, 0, none⟩), .pointer (some ⟨c, 0, none⟩), .pointer (some ⟨t, 0, none⟩)] wr fun e w' => SnE e w w' ps b r g c t vr S F cs N := by
  obtain ⟨H, s, ha⟩ := h.ag e
  obtain ⟨op, hop, hgn⟩ := h.gn
  have hq : q.1.ok := ha.iv.ok q (by rw [e]; simp)
  rcases hR0 : q.1.f S.p S.n with ⟨k, m, wt, on⟩ | ⟨v, kd, d, u⟩
  · have hR : q.1.f S.p S.n = .go k m wt on := hR0
    obtain ⟨_, _, _, h4, _, _, h7⟩ := It.f_go hq ha.iv.n hR
    have hw2 : wt ≠ 2 := fun e2 => hns k m on (by rw [hR, e2])
    rcases h4 with rfl | rfl | rfl
    · have hon := h7 rfl
      subst hon
      refine (step_none h.q hk ha.iv e ha.wt (Or.inr ⟨t, rfl, h.tk⟩) hR).mono ?_
      rintro e' w' ⟨rfl, x1, x2⟩
      exact ⟨_, _, _, _, rfl, rfl, h.next x1 (Or.inl ⟨H, s, ha.go e hR hw2⟩) (x2.mono (fun k hk => by simp at hk; simp [hk])), rem_go ha.iv e hR 0 0 0⟩
    · refine (step_open h.q hk ha.iv e ha.wt (Or.inr ⟨t, rfl, h.tk⟩) hR hgn hop).mono ?_
      rintro e' w' ⟨rfl, x1, x2⟩
      exact ⟨_, _, _, _, rfl, rfl, h.next x1 (Or.inl ⟨H, s, ha.go e hR hw2⟩) (x2.mono (fun k hk => by simp at hk; simp [hk])), rem_go ha.iv e hR 0 0 0⟩
    · exact absurd rfl hw2
  · have hR : q.1.f S.p S.n = .fin v kd d u := hR0
    refine (step_fin h.q hk ha.iv e ha.wt (.pointer (some ⟨g, 0, none⟩)) (.pointer (some ⟨c, 0, none⟩)) (.pointer (some ⟨t, 0, none⟩)) (Or.inr ⟨t, rfl, h.tk⟩) hR).mono ?_
    rintro e' w' ⟨rfl, vl', x1, x2⟩
    refine ⟨_, _, _, _, rfl, endW_ne _ _, h.next x1 ?_ x2, rem_end ha.iv e _⟩
    by_cases h2 : kd = 2
    · exact Or.inr ⟨_, ha.panic e hR h2⟩
    · exact Or.inl ⟨_, _, ha.fin e hR h2⟩
/-- it sleeps -/
structure Az (w w' : World) (ps : List Ip) (b r g c t : Nat) (vr : Value) (S S2 : Ld) (vl : Value) (F : List Nat) (cs : Cl.Cs) (N : Nat) : Prop where
  q : Lq w' b r S2 vr vl
  le : ∃ q l, S2.left = q :: l
  wt : S2.wt ≠ 0
  a : ∃ H s on, 0 ≤ on ∧ cs.T = [] ∧ Ag (ps.map (·.1)) (goS S2 S2.p S2.n 0 0 0) H s (sat cs.now on) ∧ Cl.Ck w' c F ⟨cs.now, cs.last + 1, [⟨sat cs.now on, cs.last + 1⟩]⟩
  re : rem (goS S2 S2.p S2.n 0 0 0) < rem S
  tk : w'.heap[t]? = some (.cells #[.slice none 0 0] 92 (0, 0))
  gn : ∃ op, (∀ i, i < 256 → op i = true) ∧ Gn w' g op
  la : cs.last ≤ (N : Int)
  gb : b < g
  tb : b < t
  cf : ∀ k ∈ F, b < k
  gf : ¬ g ∈ F
  tf : ¬ t ∈ F
  cw : Touch [] w w'
  rw_ : w.heap.size ≤ r
def SzE (e : Ending) (w w' : World) (ps : List Ip) (b r g c t : Nat) (vr : Value) (S : Ld) (vl : Value) (cs : Cl.Cs) (N : Nat) : Prop := ∃ S2 F x1 x2 x3, e = .returned (.tuple #[.agg #[.int .i64 3, .int .i64 x1, .int .i64 x2, .int .i64 x3], .int .i64 0]) ∧ Az w w' ps b r g c t vr S S2 vl F cs N
theorem step_sleeps (h : Ab w wr ps b r g c t vr S vl F cs N) (hk : Rc.Kd wr) (e : S.left = q :: l) {k : Nat} {m on : Int} (hf : q.1.f S.p S.n = .go k m 2 on) (hN : N ≤ 300001) :
    Calls Tryd.prog 12 #[.pointer (some ⟨b, 0, none⟩), .pointer (some ⟨g, 0, none⟩), .pointer (some ⟨c, 0, none⟩), .pointer (some ⟨t, 0, none⟩)] wr fun e w' => SzE e w w' ps b r g c t vr S vl cs N := by
  obtain ⟨H, s, ha⟩ := h.ag e
  obtain ⟨op, hop, hgn⟩ := h.gn
  have hq : q.1.ok := ha.iv.ok q (by rw [e]; simp)
  obtain ⟨_, _, _, _, h5, _, _⟩ := It.f_go hq ha.iv.n hf
  obtain ⟨i0, i1⟩ := in_slp h.ck.ok h.cT (h5 rfl).1
  have hla := h.la
  have hlt := h.ck.lt
  have hgl := block_lt hgn
  have htl := block_lt h.tk
  have hbl := block_lt h.q.bl
  have hgb := h.gb
  have htb := h.tb
  refine (step_slp h.q hk ha.iv e ha.wt (Or.inr ⟨t, rfl, h.tk⟩) hf h.ck h.cf (by omega) i0).mono ?_
  rintro e' w' ⟨rfl, x1, F', x2, x3, x4⟩
  rw [i1] at x2
  have hnf : ∀ k ∈ F', b < k := fun k hk => by
    rcases x3 k hk with e1 | e1
    · exact h.cf k e1
    · omega
  refine ⟨_, F', _, _, _, rfl, x1, ⟨q, l, e⟩, (by show (2 : Int) ≠ 0; decide), ⟨H, _, on, (h5 rfl).1, h.cT, ha.slp e hf, x2⟩, rem_go ha.iv e hf 0 0 0, x4.keep h.tk (fun e1 => ?_), ⟨op, hop, hgn.keep x4 (fun e1 => ?_)⟩, h.la, h.gb, h.tb, hnf, fun e1 => ?_, fun e1 => ?_, h.cw.trans x4 (fun k hk => Or.inr ?_), h.rw_⟩
  · rcases List.mem_cons.1 e1 with e2 | e2
    · omega
    · exact h.tf e2
  · rcases List.mem_cons.1 e1 with e2 | e2
    · omega
    · exact h.gf e2
  · rcases x3 g e1 with e2 | e2
    · exact h.gf e2
    · omega
  · rcases x3 t e1 with e2 | e2
    · exact h.tf e2
    · omega
  · have h1 := h.rw_
    have h2 := h.q.rb
    rcases List.mem_cons.1 hk with e2 | e2
    · omega
    · have := h.cf k e2; omega
theorem Az.keep0 {w' w2 : World} {S2 : Ld} (h : Az w w' ps b r g c t vr S S2 vl F cs N) (T : Touch [] w' w2) : Az w w2 ps b r g c t vr S S2 vl F cs N := by
  obtain ⟨op, h1, h2⟩ := h.gn
  obtain ⟨H, s, on, a1, a2, a3, a4⟩ := h.a
  exact ⟨h.q.keep0 T, h.le, h.wt, ⟨H, s, on, a1, a2, a3, a4.keep0 T⟩, h.re, T.keep h.tk (by simp), ⟨op, h1, h2.keep T (by simp)⟩, h.la, h.gb, h.tb, h.cf, h.gf, h.tf, h.cw.trans' T, h.rw_⟩
/-- the clock has leapt -/
structure Ay (w w' : World) (ps : List Ip) (b r g c t : Nat) (vr : Value) (S S2 : Ld) (vl : Value) (F : List Nat) (cs : Cl.Cs) (N : Nat) : Prop where
  q : Lq w' b r S2 vr vl
  le : ∃ q l, S2.left = q :: l
  wt : S2.wt ≠ 0
  ab : ∀ w2, Lq w2 b r (goS S2 S2.p S2.n 0 0 0) vr vl → Touch [b] w' w2 → Ab w w2 ps b r g c t vr (goS S2 S2.p S2.n 0 0 0) vl F cs (N + 1)
  re : rem (goS S2 S2.p S2.n 0 0 0) < rem S
def LyE (e : Ending) (w w' : World) (ps : List Ip) (b r g c t : Nat) (vr : Value) (S S2 : Ld) (vl : Value) (N : Nat) : Prop := ∃ a n m F cs, e = .returned (.tuple #[.slice a n m, .bool true]) ∧ Ay w w' ps b r g c t vr S S2 vl F cs N
theorem leap_al {w' : World} {S2 : Ld} (h : Az w w' ps b r g c t vr S S2 vl F cs N) : Calls Tryd.prog 22 #[.pointer (some ⟨c, 0, none⟩)] w' fun e w2 => LyE e w w2 ps b r g c t vr S S2 vl N := by
  obtain ⟨op, hop, hgn⟩ := h.gn
  obtain ⟨H, s, on, a1, a2, a3, a4⟩ := h.a
  have hgl := block_lt hgn
  have htl := block_lt h.tk
  have hbl := block_lt h.q.bl
  have hgb := h.gb
  have htb := h.tb
  refine (Cl.leap18 w' c F _ a4).mono ?_
  rintro e w2 ⟨a, n, m, rfl, _, F', x1, x2, x3⟩
  rw [leap_slp] at x1
  have hdec : decide (([⟨sat cs.now on, cs.last + 1⟩] : List Cl.Tm) ≠ []) = true := by simp
  have hnf : ∀ k ∈ F', b < k := fun k hk => by
    rcases x3 k hk with e1 | e1
    · exact h.cf k e1
    · omega
  refine ⟨a, n, m, F', ⟨sat cs.now on, cs.last + 1, []⟩, by rw [hdec], h.q.keep x2 h.cf, h.le, h.wt, fun w3 hq T3 => ?_, h.re⟩
  have hr := h.rw_
  have hrb := h.q.rb
  have T4 : Touch (b :: F) w' w3 := (x2.mono (fun k hk => List.mem_cons_of_mem _ hk)).trans T3 (fun k hk => Or.inl (by simp at hk; simp [hk]))
  have hk4 : ∀ z, b < z → ¬ z ∈ F → ¬ z ∈ b :: F := fun z h1 h2 e1 => by
    rcases List.mem_cons.1 e1 with e2 | e2
    · omega
    · exact h2 e2
  refine ⟨hq, Or.inl ⟨H, s, a3⟩, T4.keep h.tk (hk4 t h.tb h.tf), ⟨op, hop, hgn.keep T4 (hk4 g h.gb h.gf)⟩, x1.keep T3 (fun k hk e1 => ?_), rfl, by have := h.la; show cs.last + 1 ≤ _; omega, h.gb, h.tb, hnf, fun e1 => ?_, fun e1 => ?_, h.cw.trans T4 (fun k hk => Or.inr ?_), h.rw_⟩
  · have := hnf k hk
    simp at e1
    omega
  · rcases x3 g e1 with e2 | e2
    · exact h.gf e2
    · omega
  · rcases x3 t e1 with e2 | e2
    · exact h.tf e2
    · omega
  · rcases List.mem_cons.1 hk with e2 | e2
    · omega
    · have := h.cf k e2; omega
theorem wake_al {w' : World} {S2 : Ld} (h : Ay w w' ps b r g c t vr S S2 vl F cs N) : Calls Tryd.prog 15 #[.pointer (some ⟨b, 0, none⟩)] w' fun e w2 => e = .returned (.int .i64 0) ∧ Ab w w2 ps b r g c t vr (goS S2 S2.p S2.n 0 0 0) vl F cs (N + 1) ∧ rem (goS S2 S2.p S2.n 0 0 0) < rem S := by
  obtain ⟨q, l, e⟩ := h.le
  refine (wake_ok h.q e h.wt).mono ?_
  rintro e' w2 ⟨rfl, x1, x2⟩
  exact ⟨rfl, h.ab w2 x1 x2, h.re⟩
end
end Go.Proofs.YtcbckehdlbbbbaaDoor
/- What a recipe comes to by itself, and whether one of some recipes panics: the program's Alone and the law's panics; the conditions are those that each states. -/
namespace Go.Proofs.YtcbckehdlbbbbaaDoor
open Go.RowKit Go.Maps Go.ChangeMaps
set_option linter.unusedVariables false
set_option linter.unusedSimpArgs false
theorem alone_ok {w : World} {q : Ip} {ad : Option Addr} {cd : Nat} (hk : Rc.Kd w) (hs : Sv w q.2 q.1.L) (e2 : q.2 = .slice ad q.1.L.length cd) (ho : q.1.ok) : Calls Tryd.prog 23 #[.slice ad q.1.L.length cd, .agg #[.int .u16 q.1.sp, .string q.1.nm, .int .i64 q.1.run, .bool false]] w fun e w' => ∃ h : Oc × Int, Comes q.1 h ∧ e = .returned (.tuple #[.agg #[.int .i64 h.1.1, .int .i64 h.1.2.1, .int .i64 h.1.2.2.1, .int .i64 h.1.2.2.2], .int .i64 h.2, .int .i64 0]) ∧ Touch [] w w' := by
  rw [e2] at hs
  refine (Rc.alone20_ok q.1.L ad cd q.1.ar w hk hs.sl.2 ho.wf.L ho.good ho.ar).mono ?_
  rintro e w' ⟨⟨v, k, c, r, s, rfl, h1, h2, h3⟩, g⟩
  exact ⟨((v, k, c, r), s), ⟨h1, h2, h3⟩, rfl, Gr.touch g⟩
set_option maxHeartbeats 8000000 in
theorem panics25_ (w : World) (v : Value) (ps : List Ip) (hk : Rc.Kd w) (h : Its w v ps) (hlen : ps.length ≤ 1024) (ho : ∀ q ∈ ps, q.1.ok) (hp : ∃ q ∈ ps, ∃ x, Comes q.1 x ∧ x.1.2.1 = 2) : Calls Tryd.prog 25 #[v] w fun e w' => e = .returned (.bool true) ∧ Touch [] w w' := by
  obtain ⟨a0, c0, rfl, hc0⟩ := h.form
  have HIT : Hid (∀ wr j, Touch [] w wr → (hj : j < ps.length) → ∃ g off q ad cd, a0 = some ⟨g, off, none⟩ ∧ ps[j]? = some q ∧ q.2 = .slice ad q.1.L.length cd ∧ ItAt wr g (off + j * 5) q) := hid (fun wr j T hj => by
    obtain ⟨g, off, rfl, hA⟩ := Its.item (h.keep0 T) hj
    obtain ⟨ad, cd, e2, _⟩ := Rv.form (h.sv _ (List.getElem_mem hj))
    exact ⟨g, off, ps[j], ad, cd, rfl, List.getElem?_eq_getElem hj, e2, hA⟩)
  have HAL : Hid (∀ (wr : World) (j : Nat) (q : Ip) (ad : Option Addr) (cd : Nat), Touch [] w wr → ps[j]? = some q → q.2 = .slice ad q.1.L.length cd → Calls Tryd.prog 23 #[.slice ad q.1.L.length cd, .agg #[.int .u16 q.1.sp, .string q.1.nm, .int .i64 q.1.run, .bool false]] wr fun e w' => ∃ h : Oc × Int, Comes q.1 h ∧ e = .returned (.tuple #[.agg #[.int .i64 h.1.1, .int .i64 h.1.2.1, .int .i64 h.1.2.2.1, .int .i64 h.1.2.2.2], .int .i64 h.2, .int .i64 0]) ∧ Touch [] wr w') := hid (fun wr j q ad cd T hq e2 => by
    have hm : q ∈ ps := List.mem_of_getElem? hq
    exact alone_ok (w := wr) (q := q) (ad := ad) (cd := cd) (Kd.touch hk T) ((h.sv q hm).keep0 T) e2 (ho q hm))
  have HP : Hid (∀ (f : ∀ (i : Nat) (q : Ip) (x : Oc × Int), ps[i]? = some q → Comes q.1 x → x.1.2.1 ≠ 2), False) := hid (fun f => by
    obtain ⟨q, hq, x, hx, h2⟩ := hp
    obtain ⟨i, hi, rfl⟩ := List.getElem_of_mem hq
    exact f i _ x (List.getElem?_eq_getElem hi) hx h2)
  have hle : (ps.length : Int) ≤ 1024 := by omega
  clear h ho hp hk hlen
  go_enter Tryd.func25, Tryd.ntmps25
  go_wp2
  go_loopw [10] (fun i wr => ∃ j : Nat, i = .int .i64 j ∧ j ≤ ps.length ∧ Hid (Touch [] w wr ∧ ∀ (i : Nat) (q : Ip) (x : Oc × Int), i < j → ps[i]? = some q → Comes q.1 x → x.1.2.1 ≠ 2)) (fun i _ => ps.length - (intOf i).toNat)
  case atStart => exact ⟨0, rfl, Nat.zero_le _, Touch.refl _ _, fun i q x hi => absurd hi (by omega)⟩
  case round =>
    obtain ⟨j, rfl, hj, HR⟩ := hrel
    by_cases hlt : j < ps.length
    · have zj : (j : Int) < (ps.length : Int) := by omega
      obtain ⟨g, off, q, ad, cd, rfl, hq, e2, hA⟩ := HIT.out wr j HR.out.1 hlt
      have y0 := hA.c0
      have y1 := hA.c1
      have y2 := hA.c2
      have y3 := hA.c3
      have y4 := hA.c4
      rw [e2] at y4
      have HQ := hid hq
      have HC : Hid (∀ V, Touch [] wr V → Calls Tryd.prog 23 #[.slice ad q.1.L.length cd, .agg #[.int .u16 q.1.sp, .string q.1.nm, .int .i64 q.1.run, .bool false]] V fun e w' => ∃ h : Oc × Int, Comes q.1 h ∧ e = .returned (.tuple #[.agg #[.int .i64 h.1.1, .int .i64 h.1.2.1, .int .i64 h.1.2.2.1, .int .i64 h.1.2.2.2], .int .i64 h.2, .int .i64 0]) ∧ Touch [] V w') := hid (fun V TV => HAL.out V j q ad cd (HR.out.1.trans' TV) hq e2)
      clear hA e2 hq HIT HAL
      go_upto_region 5 with (go_at_call 23; refine (HC.out _ ((Touch.refl _ _).alloc _)).mono ?_; rintro e w2 ⟨x, hx, rfl, t2⟩; have HX := hid hx; have T2 := hid t2; clear hx t2)
      have HTr : Hid (Touch [] w w2) := hid ((HR.out.1.trans' ((Touch.refl _ _).alloc _)).trans' T2.out)
      by_cases h2 : x.1.2.1 = 2
      · have e2 : (x.1.2.1 == 2) = true := by simpa using h2
        clear h2 HC y0 y1 y2 y3 y4
        go_wp2
        go_ret
        exact ⟨rfl, HTr.out.alloc _⟩
      · have e2 : (x.1.2.1 == 2) = false := by simpa using h2
        have HN : Hid (∀ (i : Nat) (q : Ip) (x : Oc × Int), i < j + 1 → ps[i]? = some q → Comes q.1 x → x.1.2.1 ≠ 2) := hid (fun i q' x' hi hq' hx' => by
          rcases (by omega : i < j ∨ i = j) with e | rfl
          · exact HR.out.2 i q' x' e hq' hx'
          · rw [HQ.out] at hq'
            cases hq'
            rw [← Comes.eq HX.out hx']
            exact h2)
        clear h2 HC y0 y1 y2 y3 y4
        go_wp2
        go_roundw
        case rel => exact ⟨j + 1, by go_num, by omega, HTr.out.alloc _, HN.out⟩
        case measure => simp [intOf]; omega
    · have zj : ¬ (j : Int) < (ps.length : Int) := by omega
      exact (HP.out (fun i q x hq hx => HR.out.2 i q x (by have := (List.getElem?_eq_some_iff.1 hq).1; omega) hq hx)).elim
end Go.Proofs.YtcbckehdlbbbbaaDoor
