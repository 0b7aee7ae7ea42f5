/- Both sides between the acts of the law; what each act makes of them. -/
import Derived.Test.YtmbjjkdocmcpdaaSay
import Derived.Test.YtmbjjkdocmcpdaaOnb
import Derived.Test.YtmbjjkdocmcpdaaOnc
import Derived.Test.YtmbjjkdocmcpdaaOnd
namespace Go.Proofs.Ytmbjjkdocmcpdaa
open Go.RowKit Go.Maps Go.ChangeMaps
set_option linter.unusedVariables false
/-- The gates, the document's box, and gates that nobody comes to. -/
structure Lz (w wr : World) (g o bm n : Nat) (F : List Nat) (c : Array Value) (A B : Value) (op : Nat → Bool) (W : Nat → List Int) (ps : List (Int × Int)) : Prop where
  gs : Gs wr g F op W
  fr : ∀ k, k ∈ F → w.heap.size ≤ k
  tc : Touch [] w wr
  hb : wr.heap[bm]? = some (.cells c 29 (0, 0))
  nb : w.heap.size ≤ bm
  ds : Ds wr c op ps A B
  iv : Iv op W ps
  go : Gs wr o [o] (fun _ => false) (fun _ => [])
  no : w.heap.size ≤ o
  of : ¬ o ∈ F
  le : ps.length ≤ n
def Lw (w wr : World) (g o bm n : Nat) : Prop := ∃ F c A B op W ps, Lz w wr g o bm n F c A B op W ps
section
variable {w wr w' : World} {g o bm n : Nat} {F : List Nat} {c : Array Value} {A B : Value} {op : Nat → Bool} {W : Nat → List Int} {ps : List (Int × Int)}
theorem Lz.quiet (h : Lz w wr g o bm n F c A B op W ps) (T : Touch [] wr w') : Lz w w' g o bm n F c A B op W ps :=
  ⟨h.gs.keep0 T, h.fr, h.tc.trans' T, T.keep h.hb (by simp), h.nb, h.ds.keep0 T, h.iv, h.go.keep0 T, h.no, h.of, h.le⟩
theorem Lz.more (h : Lz w wr g o bm n F c A B op W ps) {m : Nat} (hm : n ≤ m) : Lz w wr g o bm m F c A B op W ps :=
  ⟨h.gs, h.fr, h.tc, h.hb, h.nb, h.ds, h.iv, h.go, h.no, h.of, Nat.le_trans h.le hm⟩
theorem o_lt (h : Lz w wr g o bm n F c A B op W ps) : o < wr.heap.size := h.go.lt o (by simp)
theorem o_bm (h : Lz w wr g o bm n F c A B op W ps) : o ≠ bm := fun e => h.go.away (b := bm) h.hb (by decide) (by simp [e])
/-- One act on both, and the document's box written. -/
theorem Lz.act {w4 w5 : World} (h : Lz w wr g o bm n F c A B op W ps) {c' : Array Value} {op' : Nat → Bool} {W' : Nat → List Int} {ps' : List (Int × Int)} {A' B' : Value} (wa : WaE wr w4 g F op' W') (ds : Ds w4 c' op' ps' A' B') (iv : Iv op' W' ps') (hl : ps'.length ≤ ps.length + 1) (h5 : w5.heap[bm]? = some (.cells c' 29 (0, 0))) (t5 : Touch [bm] w4 w5) : Lw w w5 g o bm (n + 1) := by
  obtain ⟨F', g4, t4, nf⟩ := wa
  have hbF : ¬ bm ∈ F := h.gs.away h.hb (by decide)
  have hb4 := t4.keep h.hb hbF
  have q0 := h.ds.cells.2.2 0 (by omega)
  have hol := o_lt h
  refine ⟨F', c', A', B', op', W', ps', g4.keep t5 (fun k hk e => by simp only [List.mem_singleton] at e; subst e; exact g4.away hb4 (by decide) hk), fun k hk => ?_, (h.tc.trans t4 (fun i hi => Or.inr (h.fr i hi))).trans t5 (fun i hi => Or.inr (by simp only [List.mem_singleton] at hi; rw [hi]; exact h.nb)), h5, h.nb, ds.keepB t5 hb4 q0, iv, (h.go.keep t4 (fun k hk e => by simp only [List.mem_singleton] at hk; subst hk; exact h.of e)).keep t5 (fun k hk e => by simp only [List.mem_singleton] at hk e; exact o_bm h (hk.symm.trans e)), h.no, fun e => ?_, by have := h.le; omega⟩
  · rcases nf k hk with e | e
    · exact h.fr k e
    · exact Nat.le_trans h.tc.size e
  · rcases nf o e with e1 | e1
    · exact h.of e1
    · omega
/-- A copy is taken, and the old ones let be. -/
theorem Lz.copy {w1 w2 w3 : World} {t : Nat} {F2 F3 : List Nat} {op3 : Nat → Bool} {W3 : Nat → List Int} (h : Lz w wr g o bm n F c A B op W ps) (cl : Cl wr w1 t F2 op W) (t2 : Touch F w1 w2) (g2 : Gs w2 g F3 op3 W3) (n2 : Nf w1 F F3) (t3 : Touch F3 w2 w3) : Lw w w3 t o bm (n + 1) := by
  have h1 := h.quiet cl.tc
  have hbF := h1.gs.away h1.hb (by decide)
  have hb2 := t2.keep h1.hb hbF
  have hb3 := t3.keep hb2 (g2.away hb2 (by decide))
  have hlt := h.gs.lt
  have hz1 := cl.tc.size
  have hol := o_lt h
  have hz2 := t2.size
  have d2 := h1.ds.keepG h1.gs t2
  have d3 := d2.keepG g2 t3
  have o3 : ¬ o ∈ F3 := fun e => by
    rcases n2 o e with e1 | e1
    · exact h.of e1
    · omega
  have c2 := cl.gs.keep t2 (fun k hk e => by have := cl.fr k hk; have := hlt k e; omega)
  have c3 := c2.keep t3 (fun k hk e => by
    rcases n2 k e with e1 | e1
    · have := cl.fr k hk; have := hlt k e1; omega
    · have := cl.gs.lt k hk; omega)
  have T2 : Touch [] w w2 := h1.tc.trans t2 (fun i hi => Or.inr (h.fr i hi))
  have T3 : Touch [] w w3 := T2.trans t3 (fun i hi => by
    rcases n2 i hi with e1 | e1
    · exact Or.inr (h.fr i e1)
    · exact Or.inr (Nat.le_trans h1.tc.size e1))
  exact ⟨F2, c, A, B, op, W, ps, c3, fun k hk => Nat.le_trans h.tc.size (cl.fr k hk), T3, hb3, h.nb, d3, h.iv, (h1.go.keep t2 (fun k hk e => by simp only [List.mem_singleton] at hk; subst hk; exact h.of e)).keep t3 (fun k hk e => by simp only [List.mem_singleton] at hk; subst hk; exact o3 e), h.no, fun e => by have := cl.fr o e; omega, by have := h.le; omega⟩
theorem one10 (h : Lz w wr g o bm n F c A B op W ps) (a : Act) (ha : WfA a) (hl : n ≤ 4398046511103) : Calls Try.prog 10 #[.pointer (some ⟨g, 0, none⟩), .agg c, .agg (cellsA a)] wr fun e w' => Ro e wr w' g F ps := by
  have hlen : ps.length ≤ 4398046511103 := Nat.le_trans h.le hl
  unfold cellsA
  obtain ⟨kd, gt, who, nn⟩ := a
  obtain ⟨-, -, hw, -⟩ := ha
  show Calls Try.prog 10 #[.pointer (some ⟨g, 0, none⟩), .agg c, .agg #[.int .i64 kd, .int .i64 gt, .int .i64 who, .int .i64 nn]] wr _
  by_cases e0 : kd = 0
  · subst e0; exact one10_come h.gs h.ds h.iv gt who nn hw hlen
  · by_cases e1 : kd = 1
    · subst e1; exact one10_open h.gs h.ds h.iv gt who nn hw hlen
    · by_cases e2 : kd = 2
      · subst e2; exact one10_shut h.gs h.ds h.iv gt who nn hw hlen
      · by_cases e3 : kd = 3
        · subst e3; exact one10_pass h.gs h.ds h.iv gt who nn hw hlen
        · exact one10_leave h.gs h.ds h.iv kd gt who nn (by simp [e0]) (by simp [e1]) (by simp [e2]) (by simp [e3]) hw hlen
theorem saysA (h : Lz w wr g o bm n F c A B op W ps) (a : Act) (ha : WfA a) (hl : n ≤ 4398046511104) : Calls Try.prog 11 #[.pointer (some ⟨g, 0, none⟩), .agg c, .agg (cellsA a)] wr fun e w' => e = .returned (.bool true) ∧ Touch [] wr w' := by
  unfold cellsA
  exact says11 h.gs h.ds h.iv a.kd a.gt a.who a.nn ha.2.2.1 (Nat.le_trans h.le hl)
/-- The three calls of a copy. -/
def CpE (w w' : World) (o bm n t : Nat) : Prop := Lw w w' t o bm n
theorem copyA (h : Lz w wr g o bm n F c A B op W ps) (hl : n ≤ 4398046511103) : Calls Try.prog 7 #[.pointer (some ⟨g, 0, none⟩)] wr fun e w1 => ∃ t, e = .returned (.pointer (some ⟨t, 0, none⟩)) ∧
    Calls Try.prog 8 #[.pointer (some ⟨g, 0, none⟩), .int .i64 1] w1 fun e w2 => ∃ v, e = .returned (.tuple #[v, .int .i64 0]) ∧
      Calls Try.prog 9 #[.pointer (some ⟨g, 0, none⟩), .int .i64 2, .int .i64 1000] w2 fun e w3 => ∃ b er, e = .returned (.tuple #[.bool b, .int .i64 er]) ∧ Lw w w3 t o bm (n + 1) := by
  have htot : tot W = ps.length := tot_rel h.iv.rel h.iv.dk
  have hle := h.le
  refine (clone7 h.gs (by omega)).mono ?_
  rintro e w1 ⟨t, F2, he, cl⟩
  refine ⟨t, he, ?_⟩
  have g1 := h.gs.keep0 cl.tc
  refine (open8_yes g1 1 (by decide) (by omega)).mono ?_
  rintro e2 w2 ⟨v, he2, ow, F3, g3, t2, n2⟩
  refine ⟨v, he2, ?_⟩
  have ht2 : tot (fup W (1 : Int).toNat []) ≤ 4398046511103 := by
    have := tot_fup W (show (1 : Int).toNat < 256 by decide) []
    simp only [List.length_nil] at this
    omega
  refine (come9 g3 2 1000 (w64c (by omega)) ht2).mono ?_
  rintro e3 w3 ⟨he3, F4, g4, t3, n3⟩
  exact ⟨_, _, he3, h.copy cl t2 g3 n2 t3⟩
end
end Go.Proofs.Ytmbjjkdocmcpdaa
