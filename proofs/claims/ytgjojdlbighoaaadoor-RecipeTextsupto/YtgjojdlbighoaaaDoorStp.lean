/- The program's reading of one step; the conditions: the listed variables hold what the start lays, the text is not too long, the reader lies in memory. -/
import Derived.Test.YtgjojdlbighoaaaDoorRdr
namespace Go.Proofs.YtgjojdlbighoaaaDoor
open Go.RowKit Go.Sort
set_option linter.unusedVariables false

structure B3 (w : World) (b : Nat) (v0 v1 v2 : Value) : Prop where
  lt : b < w.heap.size
  c0 : w.cell? ⟨b, 0, none⟩ = some v0
  c1 : w.cell? ⟨b, 1, none⟩ = some v1
  c2 : w.cell? ⟨b, 2, none⟩ = some v2
  f0 : w.frozen? ⟨b, 0, none⟩ = false
  f1 : w.frozen? ⟨b, 1, none⟩ = false
  f2 : w.frozen? ⟨b, 2, none⟩ = false
structure B2 (w : World) (b : Nat) (v0 v1 : Value) : Prop where
  lt : b < w.heap.size
  c0 : w.cell? ⟨b, 0, none⟩ = some v0
  c1 : w.cell? ⟨b, 1, none⟩ = some v1
  f0 : w.frozen? ⟨b, 0, none⟩ = false
  f1 : w.frozen? ⟨b, 1, none⟩ = false
theorem b3_new (w : World) (v0 v1 v2 : Value) (t : TypeId) : B3 (w.alloc (.cells #[v0, v1, v2] t)) w.heap.size v0 v1 v2 := ⟨by simp, by simp, by simp, by simp, by simp, by simp, by simp⟩
theorem b2_new (w : World) (v0 v1 : Value) (t : TypeId) : B2 (w.alloc (.cells #[v0, v1] t)) w.heap.size v0 v1 := ⟨by simp, by simp, by simp, by simp, by simp⟩
theorem B3.gt {w w' : World} {b rb : Nat} {v0 v1 v2 : Value} (h : B3 w b v0 v1 v2) (hg : Gt rb w w') (hn : b ≠ rb) : B3 w' b v0 v1 v2 :=
  ⟨Nat.lt_of_lt_of_le h.lt hg.size, hg.cell h.c0 hn, hg.cell h.c1 hn, hg.cell h.c2 hn, hg.fz h.f0 h.lt hn, hg.fz h.f1 h.lt hn, hg.fz h.f2 h.lt hn⟩
theorem B2.gt {w w' : World} {b rb : Nat} {v0 v1 : Value} (h : B2 w b v0 v1) (hg : Gt rb w w') (hn : b ≠ rb) : B2 w' b v0 v1 :=
  ⟨Nat.lt_of_lt_of_le h.lt hg.size, hg.cell h.c0 hn, hg.cell h.c1 hn, hg.fz h.f0 h.lt hn, hg.fz h.f1 h.lt hn⟩
theorem B3.gr {w w' : World} {b : Nat} {v0 v1 v2 : Value} (h : B3 w b v0 v1 v2) (hg : Gr w w') : B3 w' b v0 v1 v2 := h.gt (rb := w.heap.size) (Gt.of_gr hg) (by have := h.lt; omega)
theorem B2.gr {w w' : World} {b : Nat} {v0 v1 : Value} (h : B2 w b v0 v1) (hg : Gr w w') : B2 w' b v0 v1 := h.gt (rb := w.heap.size) (Gt.of_gr hg) (by have := h.lt; omega)
theorem B3.set {w : World} {b : Nat} {v0 v1 v2 : Value} (h : B3 w b v0 v1 v2) (u0 u1 u2 : Value) : B3 (((w.setCell ⟨b, 0, none⟩ u0).setCell ⟨b, 1, none⟩ u1).setCell ⟨b, 2, none⟩ u2) b u0 u1 u2 := by
  refine ⟨by rw [size_set, size_set, size_set]; exact h.lt, ?_, ?_, ?_, ?_, ?_, ?_⟩
  · rw [sc_off (by decide), sc_off (by decide)]; exact sc_same h.c0
  · rw [sc_off (by decide)]; exact sc_same (by rw [sc_off (by decide)]; exact h.c1)
  · exact sc_same (by rw [sc_off (by decide), sc_off (by decide)]; exact h.c2)
  · simp only [World.frozen?_setCell]; exact h.f0
  · simp only [World.frozen?_setCell]; exact h.f1
  · simp only [World.frozen?_setCell]; exact h.f2
theorem Bx.far3 {w : World} {b d : Nat} {v0 v1 v2 v3 : Value} (h : Bx w d v0 v1 v2 v3) (hd : b ≠ d) (u0 u1 u2 : Value) : Bx (((w.setCell ⟨b, 0, none⟩ u0).setCell ⟨b, 1, none⟩ u1).setCell ⟨b, 2, none⟩ u2) d v0 v1 v2 v3 := by
  refine ⟨by rw [size_set, size_set, size_set]; exact h.lt, ?_, ?_, ?_, ?_, ?_, ?_, ?_, ?_⟩
  · rw [sc_far hd, sc_far hd, sc_far hd]; exact h.c0
  · rw [sc_far hd, sc_far hd, sc_far hd]; exact h.c1
  · rw [sc_far hd, sc_far hd, sc_far hd]; exact h.c2
  · rw [sc_far hd, sc_far hd, sc_far hd]; exact h.c3
  · simp only [World.frozen?_setCell]; exact h.f0
  · simp only [World.frozen?_setCell]; exact h.f1
  · simp only [World.frozen?_setCell]; exact h.f2
  · simp only [World.frozen?_setCell]; exact h.f3
theorem far1 {w : World} {b d o : Nat} {v0 v1 v2 v3 u : Value} (h : Bx w d v0 v1 v2 v3) (hd : b ≠ d) : Bx (w.setCell ⟨b, o, none⟩ u) d v0 v1 v2 v3 := by
  refine ⟨by rw [size_set]; exact h.lt, ?_, ?_, ?_, ?_, ?_, ?_, ?_, ?_⟩
  · rw [sc_far hd]; exact h.c0
  · rw [sc_far hd]; exact h.c1
  · rw [sc_far hd]; exact h.c2
  · rw [sc_far hd]; exact h.c3
  · simp only [World.frozen?_setCell]; exact h.f0
  · simp only [World.frozen?_setCell]; exact h.f1
  · simp only [World.frozen?_setCell]; exact h.f2
  · simp only [World.frozen?_setCell]; exact h.f3
theorem far13 {w : World} {b d o : Nat} {v0 v1 v2 u : Value} (h : B3 w d v0 v1 v2) (hd : b ≠ d) : B3 (w.setCell ⟨b, o, none⟩ u) d v0 v1 v2 := by
  refine ⟨by rw [size_set]; exact h.lt, ?_, ?_, ?_, ?_, ?_, ?_⟩
  · rw [sc_far hd]; exact h.c0
  · rw [sc_far hd]; exact h.c1
  · rw [sc_far hd]; exact h.c2
  · simp only [World.frozen?_setCell]; exact h.f0
  · simp only [World.frozen?_setCell]; exact h.f1
  · simp only [World.frozen?_setCell]; exact h.f2
theorem b2_set0 {w : World} {b : Nat} {v0 v1 : Value} (h : B2 w b v0 v1) (u : Value) : B2 (w.setCell ⟨b, 0, none⟩ u) b u v1 := by
  refine ⟨by rw [size_set]; exact h.lt, sc_same h.c0, by rw [sc_off (by decide)]; exact h.c1, ?_, ?_⟩
  · simp only [World.frozen?_setCell]; exact h.f0
  · simp only [World.frozen?_setCell]; exact h.f1
theorem b2_set1 {w : World} {b : Nat} {v0 v1 : Value} (h : B2 w b v0 v1) (u : Value) : B2 (w.setCell ⟨b, 1, none⟩ u) b v0 u := by
  refine ⟨by rw [size_set]; exact h.lt, by rw [sc_off (by decide)]; exact h.c0, sc_same h.c1, ?_, ?_⟩
  · simp only [World.frozen?_setCell]; exact h.f0
  · simp only [World.frozen?_setCell]; exact h.f1
theorem bx_at {w : World} {b : Nat} {v0 v1 v2 v3 : Value} (h : Bx w b v0 v1 v2 v3) (u : Value) : Bx (w.setCell ⟨b, 1, none⟩ u) b v0 u v2 v3 := by
  refine ⟨by rw [size_set]; exact h.lt, by rw [sc_off (by decide)]; exact h.c0, sc_same h.c1, by rw [sc_off (by decide)]; exact h.c2, by rw [sc_off (by decide)]; exact h.c3, ?_, ?_, ?_, ?_⟩
  · simp only [World.frozen?_setCell]; exact h.f0
  · simp only [World.frozen?_setCell]; exact h.f1
  · simp only [World.frozen?_setCell]; exact h.f2
  · simp only [World.frozen?_setCell]; exact h.f3
theorem gt_other {rb : Nat} {w0 w : World} {b o : Nat} (h : Gt rb w0 w) (hb : w0.heap.size ≤ b) (v : Value) : Gt rb w0 (w.setCell ⟨b, o, none⟩ v) :=
  ⟨h.os, h.tape, h.output, by rw [size_set]; exact h.size, fun k hk hn => (Below.heap_setCell _ _ _ _ (by show k ≠ b; omega)).trans (h.block k hk hn)⟩
theorem gt_alloc {rb : Nat} {w0 w : World} (h : Gt rb w0 w) (o : Obj) : Gt rb w0 (w.alloc o) := h.trans (Gt.of_gr ((Gr.refl w).alloc o))
/-- what reading a step comes to -/
def StE (s : ByteArray) (rb p : Nat) (w w' : World) (e : Ending) : Prop := Gt rb w w' ∧
  ((∃ (q : Nat) (nx ov : Value), oneS s.data.toList p = .inl q ∧ e = .returned (.tuple #[.agg #[.int .i64 0, .int .i64 0, .int .i64 0], .bool false]) ∧ Bx w' rb (.string s) (.int .i64 (q : Nat)) nx ov) ∨
   (∃ (x : Sp) (e1 : Nat) (ai : Int), oneS s.data.toList p = .inr (x, e1) ∧ e = .returned (.tuple #[.agg #[.int .i64 x.1, .int .i64 x.2.1, .int .i64 x.2.2], .bool true]) ∧ Bx w' rb (.string s) (.int .i64 ai) (.int .i64 ((e1 + 1 : Nat) : Int)) (.bool (decide (e1 = s.size)))))
/-- how far the numbers are read -/
def Nj (s : List UInt8) (k e0 j e : Nat) (a b : Int) : Prop :=
  (j = 0 ∧ e = e0 ∧ a = 0 ∧ b = 0) ∨ (j = 1 ∧ numS s e0 (kLa k) (kHa k) = .inr (a, e) ∧ b = 0) ∨ (j = 2 ∧ ∃ e1, numS s e0 (kLa k) (kHa k) = .inr (a, e1) ∧ numS s e1 (kLb k) (kHb k) = .inr (b, e))
def kLo (k j : Nat) : Int := if j = 0 then kLa k else kLb k
def kHi (k j : Nat) : Int := if j = 0 then kHa k else kHb k
theorem named_le (k : Nat) : kNamed k ≤ 2 := by unfold kNamed; split <;> decide
section
variable {s : List UInt8} {k p e0 j e : Nat} {a b : Int}
theorem one_bad0 (h : opW (wd s p) = 0) : oneS s p = .inl p := by unfold oneS; simp only []; rw [if_pos h]
theorem Nj.le (h : Nj s k e0 j e a b) (he : e0 ≤ s.length) : e ≤ s.length := by
  rcases h with ⟨_, rfl, _⟩ | ⟨_, h, _⟩ | ⟨_, e1, h1, h2⟩
  · exact he
  · exact (num_end he h).2.1
  · exact (num_end (num_end he h1).2.1 h2).2.1
theorem Nj.done (h : Nj s k e0 j e a b) (hk : opW (wd s p) = k) (hk0 : k ≠ 0) (he : p + (wd s p).length = e0) (hj : j = kNamed k) : oneS s p = .inr (((k : Int), a, b), e) := by
  unfold oneS
  simp only []
  rw [hk, he, if_neg hk0]
  rcases h with ⟨rfl, rfl, rfl, rfl⟩ | ⟨rfl, h, rfl⟩ | ⟨rfl, e1, h1, h2⟩
  · rw [if_pos hj.symm]
  · rw [if_neg (by omega), h]
    simp only []
    rw [if_pos hj.symm]
  · rw [if_neg (by omega), h1]
    simp only []
    rw [if_neg (by omega), h2]
theorem Nj.bad (h : Nj s k e0 j e a b) (hk : opW (wd s p) = k) (hk0 : k ≠ 0) (he : p + (wd s p).length = e0) (hj : j < kNamed k) {q : Nat} (hq : numS s e (kLo k j) (kHi k j) = .inl q) : oneS s p = .inl q := by
  unfold oneS
  simp only []
  rw [hk, he, if_neg hk0]
  rcases h with ⟨rfl, rfl, rfl, rfl⟩ | ⟨rfl, h, rfl⟩ | ⟨rfl, _⟩
  · have hq' : numS s e (kLa k) (kHa k) = .inl q := hq
    rw [if_neg (by omega), hq']
  · have hq' : numS s e (kLb k) (kHb k) = .inl q := hq
    rw [if_neg (by omega), h]
    simp only []
    rw [if_neg (by omega), hq']
  · have := named_le k
    omega
theorem Nj.next0 (h : Nj s k e0 0 e a b) {v : Int} {e1 : Nat} (hq : numS s e (kLa k) (kHa k) = .inr (v, e1)) : Nj s k e0 1 e1 v 0 ∧ b = 0 := by
  rcases h with ⟨_, rfl, rfl, rfl⟩ | ⟨h, _⟩ | ⟨h, _⟩
  · exact ⟨Or.inr (Or.inl ⟨rfl, hq, rfl⟩), rfl⟩
  · cases h
  · cases h
theorem Nj.next1 (h : Nj s k e0 1 e a b) {v : Int} {e1 : Nat} (hq : numS s e (kLb k) (kHb k) = .inr (v, e1)) : Nj s k e0 2 e1 a v := by
  rcases h with ⟨h, _⟩ | ⟨_, h, rfl⟩ | ⟨h, _⟩
  · cases h
  · exact Or.inr (Or.inr ⟨rfl, e, h, hq⟩)
  · cases h
end
theorem num_over {s : List UInt8} {e : Nat} {lo hi : Int} (h : e = s.length) : numS s e lo hi = .inl s.length := by unfold numS; rw [if_pos h]
theorem num_none {s : List UInt8} {e : Nat} {lo hi : Int} (h : e ≠ s.length) (hn : numV (wd s (e + 1)) = none) : numS s e lo hi = .inl (e + 1) := by unfold numS; rw [if_neg h, hn]
theorem num_out {s : List UInt8} {e : Nat} {lo hi v : Int} (h : e ≠ s.length) (hn : numV (wd s (e + 1)) = some v) (hr : ¬ (lo ≤ v ∧ v ≤ hi)) : numS s e lo hi = .inl (e + 1) := by unfold numS; rw [if_neg h, hn]; simp only []; rw [if_neg hr]
theorem num_in {s : List UInt8} {e : Nat} {lo hi v : Int} (h : e ≠ s.length) (hn : numV (wd s (e + 1)) = some v) (hr : lo ≤ v ∧ v ≤ hi) : numS s e lo hi = .inr (v, e + 1 + (wd s (e + 1)).length) := by unfold numS; rw [if_neg h, hn]; simp only []; rw [if_pos hr]
/-- the boxes of a step that is read -/
structure Sb (w wr : World) (rb NB : Nat) (s : ByteArray) (av : Value) (e : Nat) (a b : Int) : Prop where
  t : Gt rb w wr
  r : Bx wr rb (.string s) av (.int .i64 ((e + 1 : Nat) : Int)) (.bool (decide (e = s.size)))
  o : B3 wr w.heap.size (.int .i64 0) (.int .i64 0) (.int .i64 0)
  n : B2 wr NB (.int .i64 a) (.int .i64 b)
theorem tuple_fin {q : Value} : Ending.returned q = .returned q := rfl
set_option maxRecDepth 20000 in
set_option maxHeartbeats 4000000 in
theorem step43 (w0 : World) (s : ByteArray) (rb : Nat) (av : Value) (p : Nat) (w : World) (hS : Sy w0) (hg : Gr w0 w) (hrb : w0.heap.size ≤ rb) (hav : ∃ a, av = .int .i64 a) (B : Bx w rb (.string s) av (.int .i64 p) (.bool false)) (hs : s.size ≤ 4194304) (hp : p ≤ s.size) :
    Calls Tryd.prog 43 #[.pointer (some ⟨rb, 0, none⟩)] w fun e w' => StE s rb p w w' e := by
  obtain ⟨a0, rfl⟩ := hav
  have hrlt := B.lt
  have HRl : Hid (rb < w.heap.size) := hrlt
  have HC : Hid _ := word62_go w0 s rb a0 p (w.alloc (.cells #[.int .i64 0, .int .i64 0, .int .i64 0] 64)) hS (hg.alloc _) (B.gr ((Gr.refl _).alloc _)) hs hp
  have HS : Hid (Sy w0 ∧ Gr w0 w ∧ w0.heap.size ≤ rb ∧ s.size ≤ 4194304 ∧ p ≤ s.size) := ⟨hS, hg, hrb, hs, hp⟩
  have hl := wd_len s.data.toList p hp
  have hsz : s.data.toList.length = s.size := rfl
  have HE0 : Hid (p + (wd s.data.toList p).length = p + (wB s p).size ∧ p + (wB s p).size ≤ s.size) := by rw [wB_size]; exact ⟨rfl, hl⟩
  have HWL : Hid ((wB s p).data.toList = wd s.data.toList p) := wB_list s p
  clear hS hg hrb B hs hp hl hsz hrlt
  obtain ⟨e0, he0⟩ : ∃ e0, p + (wB s p).size = e0 := ⟨_, rfl⟩
  rw [he0] at HC HE0
  clear he0
  generalize wB s p = W at *
  go_enter Tryd.func43, Tryd.ntmps43
  go_wp2_with fail
  refine Calls.mono HC.out ?_
  rintro e w1 ⟨rfl, b1, t1⟩
  have HT1 : Hid (Gt rb w w1) := (Gt.of_gr ((Gr.refl w).alloc _)).trans t1
  have HG1 : Hid (Gr w0 w1) := HT1.out.gr HS.out.2.1 HS.out.2.2.1
  have HB1 : Hid (Bx w1 rb (.string s) (.int .i64 p) (.int .i64 ((e0 + 1 : Nat) : Int)) (.bool (decide (e0 = s.size)))) := b1
  have HO1 : Hid (B3 w1 w.heap.size (.int .i64 0) (.int .i64 0) (.int .i64 0)) := (b3_new w _ _ _ _).gt t1 (by have := HRl.out; omega)
  clear b1 t1 HC
  go_wp2_with fail
  refine Calls.mono (opOf63 W w1 (HS.out.1.gr HG1.out).kd) ?_
  rintro e w2 ⟨rfl, rfl⟩
  obtain ⟨k, hk⟩ : ∃ k, opW W.data.toList = k := ⟨_, rfl⟩
  have HK : Hid (opW (wd s.data.toList p) = k ∧ k ≤ 12) := by rw [← HWL.out, ← hk]; exact ⟨rfl, opW_le _⟩
  rw [hk]
  clear hk
  by_cases hk0 : k = 0
  · subst hk0
    rw [decide_eq_false (show ¬ (0 : Nat) ≠ 0 by omega)]
    have q0 := HO1.out.c0
    have q1 := HO1.out.c1
    have q2 := HO1.out.c2
    have q3 := HO1.out.f0
    have q4 := HO1.out.f1
    have q5 := HO1.out.f2
    have HX : Hid _ := one_bad0 HK.out.1
    go_wp2_with fail
    obtain ⟨_, x0, x1, x2, _, _, _⟩ := HO1.out.set (.int .i64 0) (.int .i64 0) (.int .i64 0)
    refine bodyPost_ret (v := .tuple #[.agg #[.int .i64 0, .int .i64 0, .int .i64 0], .bool false]) (by simp [results, Tryd.results43, go_sem, x0, x1, x2]) rfl ⟨gt_other (gt_other (gt_other HT1.out (Nat.le_refl _) _) (Nat.le_refl _) _) (Nat.le_refl _) _, Or.inl ⟨_, _, _, HX.out, rfl, HB1.out.far3 (by have := HRl.out; omega) (.int .i64 0) (.int .i64 0) (.int .i64 0)⟩⟩
  · have hk1 : 1 ≤ k := by omega
    have hk12 := HK.out.2
    rw [decide_eq_true (show k ≠ 0 from hk0)]
    have kz : (k : Int) < 13 := by omega
    have kz0 : (0 : Int) ≤ (k : Int) := by omega
    have HKd : Hid (Kd w2) := (HS.out.1.gr HG1.out).kd
    have G2 : Gr w2 (w2.alloc (.cells #[.int .i64 0, .int .i64 0] 120)) := (Gr.refl _).alloc _
    have c1 : (w2.alloc (.cells #[.int .i64 0, .int .i64 0] 120)).cell? ⟨0, k * 6 + 1, none⟩ = some (.int .i64 (kNamed k)) := G2.cell' (HKd.out.named k (by omega))
    have HSB : Hid (Sb w (w2.alloc (.cells #[.int .i64 0, .int .i64 0] 120)) rb w2.heap.size s (.int .i64 p) e0 0 0) := ⟨gt_alloc HT1.out _, HB1.out.gr G2, HO1.out.gr G2, b2_new _ _ _ _⟩
    have HNB : Hid (w.heap.size < w2.heap.size) := HO1.out.lt
    have HNm : Hid (kNamed k ≤ 2) := named_le k
    have HK2 : Hid (opW (wd s.data.toList p) = k ∧ 1 ≤ k ∧ k ≤ 12) := ⟨HK.out.1, hk1, hk12⟩
    clear G2 HK hk0 HB1 HO1
    obtain ⟨NB, hNB⟩ : ∃ NB, w2.heap.size = NB := ⟨_, rfl⟩
    obtain ⟨nm, hnm⟩ : ∃ nm, kNamed k = nm := ⟨_, rfl⟩
    rw [hnm] at c1
    have HNm2 : Hid (kNamed k = nm) := hnm
    clear hnm
    go_wp2_with fail
    rw [hNB] at HSB HNB
    clear hNB
    go_loopw [29] (fun i wr => ∃ (j e : Nat) (a b ai : Int), i = .int .i64 j ∧ j ≤ nm ∧ Hid (Nj s.data.toList k e0 j e a b) ∧ Hid (Sb w wr rb NB s (.int .i64 ai) e a b)) (fun i _ => nm - (intOf i).toNat)
    case atStart => exact ⟨0, e0, 0, 0, _, rfl, Nat.zero_le _, Or.inl ⟨rfl, rfl, rfl, rfl⟩, HSB.out⟩
    case round =>
      obtain ⟨j, e, a, b, ai, rfl, hj, HN, HB⟩ := hrel
      by_cases hlt : j < nm
      · have hz : (j : Int) < (nm : Int) := by omega
        have hz0 : (0 : Int) ≤ (j : Int) := by omega
        have HJl : Hid (j < kNamed k ∧ e ≤ s.size) := ⟨by have := HNm2.out; omega, HN.out.le HE0.out.2⟩
        have HNe : Hid (w.heap.size ≠ rb ∧ NB ≠ rb ∧ NB ≠ w.heap.size) := ⟨by have := HRl.out; omega, by have := HRl.out; have := HNB.out; omega, by have := HNB.out; omega⟩
        by_cases he : e = s.size
        · have hr := HB.out.r
          rw [decide_eq_true he] at hr
          have HC : Hid _ := number64_over s rb _ _ wr hr HS.out.2.2.2.1
          have HX : Hid _ := HN.out.bad HK2.out.1 (by have := HK2.out; omega) HE0.out.1 HJl.out.1 (num_over he)
          have HO2 : Hid (B3 (wr.setCell ⟨rb, 1, none⟩ (.int .i64 s.size)) w.heap.size (.int .i64 0) (.int .i64 0) (.int .i64 0)) := far13 HB.out.o (fun h => HNe.out.1 h.symm)
          have HB2 : Hid (Bx (wr.setCell ⟨rb, 1, none⟩ (.int .i64 s.size)) rb _ _ _ _) := bx_at hr _
          have HT2 : Hid (Gt rb w (wr.setCell ⟨rb, 1, none⟩ (.int .i64 s.size))) := HB.out.t.set _ _
          clear hr he
          go_wp2_with fail
          refine Calls.mono HC.out ?_
          rintro e w3 ⟨rfl, hw3⟩
          rw [← hw3] at HO2 HB2 HT2
          clear hw3 HC
          have q0 := HO2.out.c0
          have q1 := HO2.out.c1
          have q2 := HO2.out.c2
          have q3 := HO2.out.f0
          have q4 := HO2.out.f1
          have q5 := HO2.out.f2
          go_wp2_with fail
          obtain ⟨_, x0, x1, x2, _, _, _⟩ := HO2.out.set (.int .i64 0) (.int .i64 0) (.int .i64 0)
          refine bodyPost_ret (v := .tuple #[.agg #[.int .i64 0, .int .i64 0, .int .i64 0], .bool false]) (by simp [results, Tryd.results43, go_sem, x0, x1, x2]) rfl ⟨gt_other (gt_other (gt_other HT2.out (Nat.le_refl _) _) (Nat.le_refl _) _) (Nat.le_refl _) _, Or.inl ⟨_, _, _, HX.out, rfl, HB2.out.far3 (by have := HRl.out; omega) (.int .i64 0) (.int .i64 0) (.int .i64 0)⟩⟩
        · have hr := HB.out.r
          rw [decide_eq_false he] at hr
          have HC : Hid _ := number64_go w0 s rb ai (e + 1) wr HS.out.1 (HB.out.t.gr HS.out.2.1 HS.out.2.2.1) HS.out.2.2.1 hr HS.out.2.2.2.1 (by have := HJl.out.2; omega)
          have HWl : Hid ((wB s (e + 1)).data.toList = wd s.data.toList (e + 1) ∧ (wB s (e + 1)).size = (wd s.data.toList (e + 1)).length) := ⟨wB_list s (e + 1), wB_size s (e + 1)⟩
          have HEn : Hid (e ≠ s.data.toList.length) := he
          clear hr he
          obtain ⟨e2, he2⟩ : ∃ e2, e + 1 + (wB s (e + 1)).size = e2 := ⟨_, rfl⟩
          rw [he2] at HC
          have HE2 : Hid (e + 1 + (wd s.data.toList (e + 1)).length = e2) := by rw [← HWl.out.2]; exact he2
          clear he2
          generalize wB s (e + 1) = X at *
          go_wp2_with fail
          refine Calls.mono HC.out ?_
          rintro e' w3 ⟨⟨n, ok, rfl, hno⟩, b3, t3⟩
          have HNo : Hid (NumOf X n ok) := hno
          have HB3 : Hid (Bx w3 rb (.string s) (.int .i64 ((e + 1 : Nat) : Int)) (.int .i64 ((e2 + 1 : Nat) : Int)) (.bool (decide (e2 = s.size)))) := b3
          have HT3 : Hid (Gt rb w w3) := HB.out.t.trans t3
          have HO3 : Hid (B3 w3 w.heap.size (.int .i64 0) (.int .i64 0) (.int .i64 0)) := HB.out.o.gt t3 HNe.out.1
          have HN3 : Hid (B2 w3 NB (.int .i64 a) (.int .i64 b)) := HB.out.n.gt t3 HNe.out.2.1
          have HK3 : Hid (Kd w3) := (HS.out.1.gr (HT3.out.gr HS.out.2.1 HS.out.2.2.1)).kd
          clear hno b3 t3 HC HB
          cases ok with
          | false =>
            have HX : Hid _ := HN.out.bad HK2.out.1 (by have := HK2.out; omega) HE0.out.1 HJl.out.1 (num_none HEn.out (by rw [← HWl.out.1]; exact HNo.out.2.2 rfl))
            have q0 := HO3.out.c0
            have q1 := HO3.out.c1
            have q2 := HO3.out.c2
            have q3 := HO3.out.f0
            have q4 := HO3.out.f1
            have q5 := HO3.out.f2
            go_wp2_with fail
            obtain ⟨_, x0, x1, x2, _, _, _⟩ := HO3.out.set (.int .i64 0) (.int .i64 0) (.int .i64 0)
            refine bodyPost_ret (v := .tuple #[.agg #[.int .i64 0, .int .i64 0, .int .i64 0], .bool false]) (by simp [results, Tryd.results43, go_sem, x0, x1, x2]) rfl ⟨gt_other (gt_other (gt_other HT3.out (Nat.le_refl _) _) (Nat.le_refl _) _) (Nat.le_refl _) _, Or.inl ⟨_, _, _, HX.out, rfl, HB3.out.far3 (by have := HRl.out; omega) (.int .i64 0) (.int .i64 0) (.int .i64 0)⟩⟩
          | true =>
            have HV : Hid (numV (wd s.data.toList (e + 1)) = some n) := by rw [← HWl.out.1]; exact HNo.out.2.1 rfl
            rcases (by have := HJl.out.1; have := HNm.out; omega : j = 0 ∨ j = 1) with rfl | rfl
            · have HSp : Hid _ := fun w => has47 (kLa k) (kHa k) n w
              have c0 : w3.cell? ⟨0, k * 6 + 2, none⟩ = some (.int .i64 (kLa k)) := HK3.out.la k (by have := HK2.out; omega)
              have c1 : w3.cell? ⟨0, k * 6 + 3, none⟩ = some (.int .i64 (kHa k)) := HK3.out.ha k (by have := HK2.out; omega)
              by_cases hr : kLa k ≤ n ∧ n ≤ kHa k
              · have hd : decide (kLa k ≤ n ∧ n ≤ kHa k) = true := decide_eq_true hr
                rw [hd] at HSp
                have hb0 : b = 0 := (HN.out.next0 (num_in HEn.out HV.out hr)).2
                subst hb0
                have HNx : Hid (Nj s.data.toList k e0 1 e2 n 0) := by have := (HN.out.next0 (num_in HEn.out HV.out hr)).1; rw [HE2.out] at this; exact this
                have n0 := HN3.out.c0
                clear hr hd HNo
                generalize kLa k = lo at *
                generalize kHa k = hi at *
                go_wp2_with fail
                refine Calls.mono (HSp.out _) ?_
                rintro e' w4 ⟨rfl, g4⟩
                have HB4 : Hid (Bx w4 rb (.string s) (.int .i64 ((e + 1 : Nat) : Int)) (.int .i64 ((e2 + 1 : Nat) : Int)) (.bool (decide (e2 = s.size)))) := HB3.out.gr g4
                have HT4 : Hid (Gt rb w w4) := HT3.out.trans (Gt.of_gr g4)
                have HO4 : Hid (B3 w4 w.heap.size (.int .i64 0) (.int .i64 0) (.int .i64 0)) := HO3.out.gr g4
                have HN4 : Hid (B2 w4 NB (.int .i64 a) (.int .i64 0)) := HN3.out.gr g4
                have m0 := HN4.out.c0
                have m1 := HN4.out.c1
                have m2 := HN4.out.f0
                have m3 := HN4.out.f1
                clear g4 c0 c1 n0
                go_wp2_with fail
                go_roundw
                case rel => exact ⟨1, e2, n, 0, _, by go_num, by have := HNm2.out; have := HJl.out.1; omega, HNx.out, gt_other HT4.out (by have := HNB.out; omega) _, far1 HB4.out HNe.out.2.1, far13 HO4.out HNe.out.2.2, b2_set0 HN4.out _⟩
                case measure => simp [intOf]; omega
              · have hd : decide (kLa k ≤ n ∧ n ≤ kHa k) = false := decide_eq_false hr
                rw [hd] at HSp
                have HX : Hid _ := HN.out.bad HK2.out.1 (by have := HK2.out; omega) HE0.out.1 HJl.out.1 (num_out HEn.out HV.out hr)
                clear hr hd HNo
                generalize kLa k = lo at *
                generalize kHa k = hi at *
                go_wp2_with fail
                refine Calls.mono (HSp.out _) ?_
                rintro e' w4 ⟨rfl, g4⟩
                have HB4 : Hid (Bx w4 rb (.string s) (.int .i64 ((e + 1 : Nat) : Int)) (.int .i64 ((e2 + 1 : Nat) : Int)) (.bool (decide (e2 = s.size)))) := HB3.out.gr g4
                have HT4 : Hid (Gt rb w w4) := HT3.out.trans (Gt.of_gr g4)
                have HO4 : Hid (B3 w4 w.heap.size (.int .i64 0) (.int .i64 0) (.int .i64 0)) := HO3.out.gr g4
                clear g4 c0 c1
                have q0 := HO4.out.c0
                have q1 := HO4.out.c1
                have q2 := HO4.out.c2
                have q3 := HO4.out.f0
                have q4 := HO4.out.f1
                have q5 := HO4.out.f2
                go_wp2_with fail
                obtain ⟨_, x0, x1, x2, _, _, _⟩ := HO4.out.set (.int .i64 0) (.int .i64 0) (.int .i64 0)
                refine bodyPost_ret (v := .tuple #[.agg #[.int .i64 0, .int .i64 0, .int .i64 0], .bool false]) (by simp [results, Tryd.results43, go_sem, x0, x1, x2]) rfl ⟨gt_other (gt_other (gt_other HT4.out (Nat.le_refl _) _) (Nat.le_refl _) _) (Nat.le_refl _) _, Or.inl ⟨_, _, _, HX.out, rfl, HB4.out.far3 (by have := HRl.out; omega) (.int .i64 0) (.int .i64 0) (.int .i64 0)⟩⟩
            · have HSp : Hid _ := fun w => has47 (kLb k) (kHb k) n w
              have c0 : w3.cell? ⟨0, k * 6 + 4, none⟩ = some (.int .i64 (kLb k)) := HK3.out.lb k (by have := HK2.out; omega)
              have c0x : w3.cell? ⟨0, k * 6 + 2 + 2, none⟩ = some (.int .i64 (kLb k)) := HK3.out.lb k (by have := HK2.out; omega)
              have c1 : w3.cell? ⟨0, k * 6 + 5, none⟩ = some (.int .i64 (kHb k)) := HK3.out.hb k (by have := HK2.out; omega)
              have c1x : w3.cell? ⟨0, k * 6 + 2 + 2 + 1, none⟩ = some (.int .i64 (kHb k)) := HK3.out.hb k (by have := HK2.out; omega)
              by_cases hr : kLb k ≤ n ∧ n ≤ kHb k
              · have hd : decide (kLb k ≤ n ∧ n ≤ kHb k) = true := decide_eq_true hr
                rw [hd] at HSp
                have HNx : Hid (Nj s.data.toList k e0 2 e2 a n) := by have := HN.out.next1 (num_in HEn.out HV.out hr); rw [HE2.out] at this; exact this
                have n0 := HN3.out.c0
                clear hr hd HNo
                generalize kLb k = lo at *
                generalize kHb k = hi at *
                go_wp2_with fail
                refine Calls.mono (HSp.out _) ?_
                rintro e' w4 ⟨rfl, g4⟩
                have HB4 : Hid (Bx w4 rb (.string s) (.int .i64 ((e + 1 : Nat) : Int)) (.int .i64 ((e2 + 1 : Nat) : Int)) (.bool (decide (e2 = s.size)))) := HB3.out.gr g4
                have HT4 : Hid (Gt rb w w4) := HT3.out.trans (Gt.of_gr g4)
                have HO4 : Hid (B3 w4 w.heap.size (.int .i64 0) (.int .i64 0) (.int .i64 0)) := HO3.out.gr g4
                have HN4 : Hid (B2 w4 NB (.int .i64 a) (.int .i64 b)) := HN3.out.gr g4
                have m0 := HN4.out.c0
                have m1 := HN4.out.c1
                have m2 := HN4.out.f0
                have m3 := HN4.out.f1
                clear g4 c0 c1 n0
                go_wp2_with fail
                go_roundw
                case rel => exact ⟨2, e2, a, n, _, by go_num, by have := HNm2.out; have := HJl.out.1; omega, HNx.out, gt_other HT4.out (by have := HNB.out; omega) _, far1 HB4.out HNe.out.2.1, far13 HO4.out HNe.out.2.2, b2_set1 HN4.out _⟩
                case measure => simp [intOf]; omega
              · have hd : decide (kLb k ≤ n ∧ n ≤ kHb k) = false := decide_eq_false hr
                rw [hd] at HSp
                have HX : Hid _ := HN.out.bad HK2.out.1 (by have := HK2.out; omega) HE0.out.1 HJl.out.1 (num_out HEn.out HV.out hr)
                clear hr hd HNo
                generalize kLb k = lo at *
                generalize kHb k = hi at *
                go_wp2_with fail
                refine Calls.mono (HSp.out _) ?_
                rintro e' w4 ⟨rfl, g4⟩
                have HB4 : Hid (Bx w4 rb (.string s) (.int .i64 ((e + 1 : Nat) : Int)) (.int .i64 ((e2 + 1 : Nat) : Int)) (.bool (decide (e2 = s.size)))) := HB3.out.gr g4
                have HT4 : Hid (Gt rb w w4) := HT3.out.trans (Gt.of_gr g4)
                have HO4 : Hid (B3 w4 w.heap.size (.int .i64 0) (.int .i64 0) (.int .i64 0)) := HO3.out.gr g4
                clear g4 c0 c1
                have q0 := HO4.out.c0
                have q1 := HO4.out.c1
                have q2 := HO4.out.c2
                have q3 := HO4.out.f0
                have q4 := HO4.out.f1
                have q5 := HO4.out.f2
                go_wp2_with fail
                obtain ⟨_, x0, x1, x2, _, _, _⟩ := HO4.out.set (.int .i64 0) (.int .i64 0) (.int .i64 0)
                refine bodyPost_ret (v := .tuple #[.agg #[.int .i64 0, .int .i64 0, .int .i64 0], .bool false]) (by simp [results, Tryd.results43, go_sem, x0, x1, x2]) rfl ⟨gt_other (gt_other (gt_other HT4.out (Nat.le_refl _) _) (Nat.le_refl _) _) (Nat.le_refl _) _, Or.inl ⟨_, _, _, HX.out, rfl, HB4.out.far3 (by have := HRl.out; omega) (.int .i64 0) (.int .i64 0) (.int .i64 0)⟩⟩
      · have hz : ¬ (j : Int) < (nm : Int) := by omega
        have HX : Hid _ := HN.out.done HK2.out.1 (by have := HK2.out; omega) HE0.out.1 (by have := HNm2.out; omega)
        have n0 := HB.out.n.c0
        have n1 := HB.out.n.c1
        have q0 := HB.out.o.c0
        have q1 := HB.out.o.c1
        have q2 := HB.out.o.c2
        have q3 := HB.out.o.f0
        have q4 := HB.out.o.f1
        have q5 := HB.out.o.f2
        go_wp2_with fail
        obtain ⟨_, x0, x1, x2, _, _, _⟩ := HB.out.o.set (.int .i64 k) (.int .i64 a) (.int .i64 b)
        refine bodyPost_ret (v := .tuple #[.agg #[.int .i64 k, .int .i64 a, .int .i64 b], .bool true]) (by simp [results, Tryd.results43, go_sem, x0, x1, x2]) rfl ⟨gt_other (gt_other (gt_other HB.out.t (Nat.le_refl _) _) (Nat.le_refl _) _) (Nat.le_refl _) _, Or.inr ⟨_, _, _, HX.out, rfl, HB.out.r.far3 (by have := HRl.out; omega) (.int .i64 k) (.int .i64 a) (.int .i64 b)⟩⟩
end Go.Proofs.YtgjojdlbighoaaaDoor
