/- The contract of the document's Advance. -/
import Derived.Test.YtaioegefoiabhaaRst
import Derived.Laws.AppendOwnNone
namespace Go.Proofs.Ytaioegefoiabhaa
open Go.RowKit Go.Maps Go.ChangeMaps
set_option linter.unusedVariables false
theorem add_plain' (b off j : Nat) : (⟨b, off, none⟩ : Addr).add j = ⟨b, off + j, none⟩ := by simp [Addr.add]
theorem RR.news {e : TypeId} {w : World} {B g c n : Nat} {l : List Tm} (h : RR e w B (.slice (some ⟨g, 0, none⟩) n c) l) (hn : n = l.length) (o : Nat) (w' : World) (ht : Touch [] w w') : ∀ j u, (flatT (l.drop o))[j]? = some u → w'.cell? ((⟨g, o * 2, none⟩ : Addr).add j) = some u := by
  intro j u hj
  subst hn
  have h' := h.keep0 ht
  rw [← flatT_drop, List.getElem?_drop] at hj
  rw [add_plain']
  exact own_cell h' hj
theorem RR.newsT {e : TypeId} {w : World} {B g c n : Nat} {l : List Tm} (h : RR e w B (.slice (some ⟨g, 0, none⟩) n c) l) (hn : n = l.length) (p : Nat) (w' : World) (ht : Touch [] w w') : ∀ j u, (flatT (l.take p))[j]? = some u → w'.cell? ((⟨g, 0, none⟩ : Addr).add j) = some u := by
  intro j u hj
  subst hn
  have h' := h.keep0 ht
  rw [← flatT_take, List.getElem?_take] at hj
  rw [add_plain', Nat.zero_add]
  split at hj
  · exact own_cell h' hj
  · cases hj
theorem RR.form {e : TypeId} {w : World} {B : Nat} {v : Value} {l : List Tm} (h : RR e w B v l) : (v = .slice none 0 0 ∧ l = []) ∨ ∃ g c, v = .slice (some ⟨g, 0, none⟩) l.length c ∧ l.length ≤ c ∧ c ≤ maxLen := by
  rcases h.2 with ⟨e, h0⟩ | ⟨g, c, cur, e, _, _, h1, h2, _⟩
  · exact Or.inl ⟨e, List.length_eq_zero_iff.1 h0⟩
  · exact Or.inr ⟨g, c, e, h1, h2⟩
/-- What the document's Advance answers. -/
def RaE (e : Ending) (w w' : World) (B : Nat) (s : Cs) (R : List Tm) (x : Value) : Prop := ∃ a n c a2 n2 c2, e = .returned (.tuple #[.agg #[.int .i64 s.now, .slice a n c, .int .i64 s.last], .slice a2 n2 c2, x]) ∧ RR 93 w' B (.slice a n c) s.T ∧ RR 93 w' B (.slice a2 n2 c2) R ∧ Touch [] w w'
/-- The result's box, written. -/
theorem Bo.out1 {w V wr : World} {s : Cs} {v : Value} (h : Bo w V s v) (t : Touch [] V wr) (x y z : Value) : Touch [] w (((wr.setCell ⟨w.heap.size + 1, 0, none⟩ x).setCell ⟨w.heap.size + 1, 1, none⟩ y).setCell ⟨w.heap.size + 1, 2, none⟩ z) := by
  have hs := h.sz
  have := t.size
  exact ((((h.tc.trans' t).setCell (p := ⟨w.heap.size + 1, 0, none⟩) (Or.inr (by show w.heap.size ≤ w.heap.size + 1; omega)) _).setCell (p := ⟨w.heap.size + 1, 1, none⟩) (Or.inr (by show w.heap.size ≤ w.heap.size + 1; omega)) _).setCell (p := ⟨w.heap.size + 1, 2, none⟩) (Or.inr (by show w.heap.size ≤ w.heap.size + 1; omega)) _)
section
variable (w : World) (B : Nat) (v : Value) (s : Cs) (d : Int)
set_option maxHeartbeats 1000000 in
theorem radv_err (h : RR 93 w B v s.T) (ok : Ok s) (hd : W64 d) (he : advE s d ≠ 0) :
    Calls Try.prog 31 #[.agg #[.int .i64 s.now, v, .int .i64 s.last], .int .i64 d] w fun e w' => RaE e w w' B s [] (.int .i64 (advE s d)) := by
  obtain ⟨a, c, rfl⟩ := h.slice
  have n0 := ok.n0
  have n1 := ok.n1
  have d1 := hd.hi
  have HX : Hid (∀ w', Touch [] w w' → ∀ x, advE s d = x → RaE (.returned (.tuple #[.agg #[.int .i64 s.now, .slice a s.T.length c, .int .i64 s.last], .slice none 0 0, .int .i64 x])) w w' B s [] (.int .i64 (advE s d))) := fun w' t x hx => ⟨_, _, _, _, _, _, by rw [hx], h.keep0 t, RR.nil _ _ _, t⟩
  clear h ok hd
  by_cases h0 : d < 0
  · have e1 : advE s d = 11 := by unfold advE; rw [if_pos h0]
    have HE := hid e1
    clear e1 he
    generalize s.T.length = N at *
    generalize s.now = now at *
    generalize s.last = last at *
    go_enter Try.func31, Try.ntmps31
    go_wp2
    exact bodyPost_ret (v := .tuple #[.agg #[.int .i64 now, .slice a N c, .int .i64 last], .slice none 0 0, .int .i64 11]) (by simp [results, Try.results31, go_sem]) rfl (HX.out _ (((Touch.refl _ _).alloc _).alloc _) 11 HE.out)
  · have h1 : 4611686018427387904 - s.now < d := by
      unfold advE at he
      rw [if_neg h0] at he
      split at he
      · assumption
      · exact absurd rfl he
    have e1 : advE s d = 10 := by unfold advE; rw [if_neg h0, if_pos h1]
    have HE := hid e1
    clear e1 he
    generalize s.T.length = N at *
    generalize s.now = now at *
    generalize s.last = last at *
    go_enter Try.func31, Try.ntmps31
    go_wp2
    exact bodyPost_ret (v := .tuple #[.agg #[.int .i64 now, .slice a N c, .int .i64 last], .slice none 0 0, .int .i64 10]) (by simp [results, Try.results31, go_sem]) rfl (HX.out _ (((Touch.refl _ _).alloc _).alloc _) 10 HE.out)
theorem advE_ok {s : Cs} {d : Int} (he : advE s d = 0) : 0 ≤ d ∧ d ≤ 4611686018427387904 - s.now := by
  unfold advE at he
  split at he
  · omega
  · split at he
    · omega
    · exact ⟨by omega, by omega⟩
/-- How the document's Advance stands behind its loop. -/
structure AvS (w wr : World) (v : Value) (s : Cs) (B : Nat) : Prop where
  b0 : BM wr w.heap.size s.now v s.last
  b1 : BM wr (w.heap.size + 1) 0 (.slice none 0 0) 0
  rw_ : RR 93 wr B v s.T
  tc : Touch [] w wr
  sz : w.heap.size + 2 ≤ wr.heap.size
theorem AvS.start {w V : World} {v : Value} {s : Cs} {B : Nat} (h : Bo w V s v) (hr : RR 93 w B v s.T) : AvS w V v s B := ⟨h.b0, h.b1, hr.keep0 h.tc, h.tc, by have := h.sz; omega⟩
theorem AvS.quiet {w wr w' : World} {v : Value} {s : Cs} {B : Nat} (h : AvS w wr v s B) (t : Touch [] wr w') : AvS w w' v s B := ⟨h.b0.keep0 t, h.b1.keep0 t, h.rw_.keep0 t, h.tc.trans' t, Nat.le_trans h.sz t.size⟩
/-- Behind both appends. -/
theorem AvS.fin {w wr w2 w3 : World} {v v2 v3 : Value} {s : Cs} {B : Nat} (h : AvS w wr v s B) (hB : B ≤ w.heap.size) {n m : Nat} {xs ys : List Value} (r2 : w2.ownsRow wr.heap.size 93 2 v2 n xs) (t2 : Touch [] wr w2) (r3 : w3.ownsRow w2.heap.size 93 2 v3 m ys) (t3 : Touch [] w2 w3) :
    (BM w3 w.heap.size s.now v s.last ∧ BM w3 (w.heap.size + 1) 0 (.slice none 0 0) 0) ∧ ∀ w', Touch [w.heap.size, w.heap.size + 1] w3 w' → Touch [] w w' ∧ w'.ownsRow B 93 2 v2 n xs ∧ w'.ownsRow B 93 2 v3 m ys := by
  have hs := h.sz
  have h2 := h.quiet (t2.trans' t3)
  refine ⟨⟨h2.b0, h2.b1⟩, fun w' t => ⟨h2.tc.trans t (fun i hi => Or.inr (by simp at hi; omega)), own_base (own_touch (own_touch r2 t3 (fun _ _ e => by cases e)) t (fun b hb e => ?_)) (by have := h.tc.size; omega), own_base (own_touch r3 t (fun b hb e => ?_)) (by have := h.tc.size; have := t2.size; omega)⟩⟩
  · have := (r2.lt b hb).1
    simp at e
    omega
  · have := (r3.lt b hb).1
    have := t2.size
    simp at e
    omega
theorem own_zero (X : World) (B : Nat) (hB : B ≤ X.heap.size) : RR 93 ((X.alloc (.cells #[] 93)).alloc (.cells #[] 93)) B (.slice (some ⟨X.heap.size, 0, none⟩) 0 0) [] ∧ RR 93 ((X.alloc (.cells #[] 93)).alloc (.cells #[] 93)) B (.slice (some ⟨X.heap.size + 1, 0, none⟩) 0 0) [] := by
  have h1 := World.ownsRow_made (e := 93) (size := 2) X #[] 0 hB (by unfold maxLen; omega) rfl
  have h2 := World.ownsRow_made (base := B) (e := 93) (size := 2) (X.alloc (.cells #[] 93)) #[] 0 (by simp; omega) (by unfold maxLen; omega) rfl
  refine ⟨?_, ?_⟩
  · exact own_touch h1 ((Touch.refl [] _).alloc _) (fun _ _ e => by cases e)
  · have h3 : ((X.alloc (.cells #[] 93)).alloc (.cells #[] 93)).ownsRow B 93 2 (.slice (some ⟨X.heap.size + 1, 0, none⟩) 0 0) 0 [] := by simpa using h2
    exact h3
theorem touch4 {w wr : World} (t : Touch [] w wr) (v x y z : Value) : Touch [] w ((((wr.setCell ⟨w.heap.size, 1, none⟩ v).setCell ⟨w.heap.size + 1, 0, none⟩ x).setCell ⟨w.heap.size + 1, 1, none⟩ y).setCell ⟨w.heap.size + 1, 2, none⟩ z) :=
  (((t.setCell (p := ⟨w.heap.size, 1, none⟩) (Or.inr (Nat.le_refl _)) _).setCell (p := ⟨w.heap.size + 1, 0, none⟩) (Or.inr (Nat.le_succ _)) _).setCell (p := ⟨w.heap.size + 1, 1, none⟩) (Or.inr (Nat.le_succ _)) _).setCell (p := ⟨w.heap.size + 1, 2, none⟩) (Or.inr (Nat.le_succ _)) _
set_option maxHeartbeats 4000000 in
set_option maxRecDepth 100000 in
theorem radv_ok (h : RR 93 w B v s.T) (ok : Ok s) (hB : B ≤ w.heap.size) (he : advE s d = 0) :
    Calls Try.prog 31 #[.agg #[.int .i64 s.now, v, .int .i64 s.last], .int .i64 d] w fun e w' => RaE e w w' B (goS s (s.now + d)) (goR s (s.now + d)) (.int .i64 0) := by
  obtain ⟨i93, hi, hz0, hz1, hz2⟩ := info_parts info93
  obtain ⟨d0, d1⟩ := advE_ok he
  have n0 := ok.n0
  have n1 := ok.n1
  have HLe := hid ok.len
  have HB := hid hB
  obtain ⟨s1, hs1⟩ : ∃ s1 : Cs, s1 = ⟨s.now + d, s.last, s.T⟩ := ⟨_, rfl⟩
  have e1 : s1.now = s.now + d := by rw [hs1]
  have e2 : s1.last = s.last := by rw [hs1]
  have e3 : s1.T = s.T := by rw [hs1]
  have HX : Hid (∀ a n c a2 n2 c2 w' k, RR 93 w' B (.slice a n c) (s.T.drop k) → RR 93 w' B (.slice a2 n2 c2) (s.T.take k) → k = dueT s.T (s.now + d) → Touch [] w w' → RaE (.returned (.tuple #[.agg #[.int .i64 (s.now + d), .slice a n c, .int .i64 s.last], .slice a2 n2 c2, .int .i64 0])) w w' B (goS s (s.now + d)) (goR s (s.now + d)) (.int .i64 0)) := fun a n c a2 n2 c2 w' k h1 h2 hk ht => by
    subst hk
    exact ⟨a, n, c, a2, n2, c2, rfl, h1, h2, ht⟩
  rcases h.form with ⟨rfl, hT⟩ | ⟨g, c, rfl, hc, hm⟩
  · have HV := hid (Bo.mk' w s1 (.slice none 0 0))
    rw [e1, e2] at HV
    obtain ⟨V, hV⟩ : ∃ V, V = (w.alloc (.cells #[.int .i64 (s.now + d), .slice none 0 0, .int .i64 s.last] 28)).alloc (.cells #[.int .i64 0, .slice none 0 0, .int .i64 0] 28) := ⟨_, rfl⟩
    rw [← hV] at HV
    have HA := hid (AvS.start HV.out (B := B) (by rw [e3]; exact h))
    have HT := hid hT
    have HS := hid (And.intro e1 (And.intro e2 e3))
    clear h ok hB he hT hs1 e1 e2 e3
    have HD := hid (And.intro d0 d1)
    go_enter Try.func31, Try.ntmps31
    go_wp2
    rw [← hV]
    clear hV
    generalize decide (d < 0) = bb1
    generalize decide (4611686018427387904 - s.now < d) = bb2
    have v1 : V.cell? ⟨w.heap.size, 1, none⟩ = some (.slice none 0 0) := HA.out.b0.c1
    have v0 : V.cell? ⟨w.heap.size, 0, none⟩ = some (.int .i64 (s.now + d)) := by rw [← HS.out.1]; exact HA.out.b0.c0
    go_loop [7] (fun i => i = .int .i64 0) (fun i => 0)
    case atStart => rfl
    case round =>
      subst hrel
      go_wp2
      go_quiet (fail)
      obtain ⟨W, hW⟩ : ∃ W, W = V.drewN nq := ⟨_, rfl⟩
      have HA2 : Hid (AvS w W (.slice none 0 0) s1 B) := by rw [hW]; exact HA.out.quiet ((Touch.refl _ _).drewN _)
      rw [← hW]
      clear hW v0 v1 HA HV
      have w1 : W.cell? ⟨w.heap.size, 1, none⟩ = some (.slice none 0 0) := HA2.out.b0.c1
      have w0 : W.cell? ⟨w.heap.size, 0, none⟩ = some (.int .i64 (s.now + d)) := by rw [← HS.out.1]; exact HA2.out.b0.c0
      have w2 : W.cell? ⟨w.heap.size, 2, none⟩ = some (.int .i64 s.last) := by rw [← HS.out.2.1]; exact HA2.out.b0.c2
      have wf := HA2.out.b0.fr
      have u0 := HA2.out.b1.c0
      have u1 := HA2.out.b1.c1
      have u2 := HA2.out.b1.c2
      have uf := HA2.out.b1.fr
      have hl0 : w.heap.size < W.heap.size := by have := HA2.out.sz; omega
      have hl1 : w.heap.size + 1 < W.heap.size := by have := HA2.out.sz; omega
      go_wp2_with (at_builtin; first
        | (refine wpList_append_own_none rfl _ _ 26 rfl W.heap.size 93 i93 2 Try.underlying26 hi (.slice (some ⟨W.heap.size, 0, none⟩) 0 0) 0 [] rfl (World.ownsRow_made W #[] 0 (Nat.le_refl _) (by unfold maxLen; omega) rfl) rfl ?_)
        | (refine wpList_append_own_none rfl _ _ 26 rfl (W.heap.size + 1) 93 i93 2 Try.underlying26 hi (.slice (some ⟨W.heap.size + 1, 0, none⟩) 0 0) 0 [] rfl (by have := World.ownsRow_made (e := 93) (size := 2) (W.alloc (.cells #[] 93)) #[] 0 (Nat.le_refl _) (by unfold maxLen; omega) rfl; simpa using this) rfl ?_))
      have T4 := touch4 HA2.out.tc (.slice (some ⟨W.heap.size + 1, 0, none⟩) 0 0) (.int .i64 (s.now + d)) (.slice (some ⟨W.heap.size + 1, 0, none⟩) 0 0) (.int .i64 s.last)
      refine bodyPost_ret (v := .tuple #[.agg #[.int .i64 (s.now + d), .slice (some ⟨W.heap.size + 1, 0, none⟩) 0 0, .int .i64 s.last], .slice (some ⟨W.heap.size, 0, none⟩) 0 0, .int .i64 0]) (by simp [results, Try.results31, go_sem, u0, u1, u2, hl0, hl1]) rfl ?_
      generalize hX : (((W.setCell ⟨w.heap.size, 1, none⟩ (.slice (some ⟨W.heap.size + 1, 0, none⟩) 0 0)).setCell ⟨w.heap.size + 1, 0, none⟩ (.int .i64 (s.now + d))).setCell ⟨w.heap.size + 1, 1, none⟩ (.slice (some ⟨W.heap.size + 1, 0, none⟩) 0 0)).setCell ⟨w.heap.size + 1, 2, none⟩ (.int .i64 s.last) = X at *
      have hXs : X.heap.size = W.heap.size := by rw [← hX]; simp [World.setCell]
      obtain ⟨r1, r2⟩ := own_zero X B (by rw [hXs]; have := HB.out; omega)
      rw [hXs] at r1 r2
      refine HX.out _ _ _ _ _ _ _ 0 (by rw [HT.out]; exact r2) (by rw [HT.out]; exact r1) (by rw [HT.out]; rfl) ((T4.alloc _).alloc _)
  · have HR0 := hid h
    obtain ⟨N, hN⟩ : ∃ N, N = s.T.length := ⟨_, rfl⟩
    have HN := hid hN
    rw [← hN] at hc HLe HR0 ⊢
    have HV := hid (Bo.mk' w s1 (.slice (some ⟨g, 0, none⟩) N c))
    rw [e1, e2] at HV
    obtain ⟨V, hV⟩ : ∃ V, V = (w.alloc (.cells #[.int .i64 (s.now + d), .slice (some ⟨g, 0, none⟩) N c, .int .i64 s.last] 28)).alloc (.cells #[.int .i64 0, .slice none 0 0, .int .i64 0] 28) := ⟨_, rfl⟩
    rw [← hV] at HV
    have HA : Hid (AvS w V (.slice (some ⟨g, 0, none⟩) N c) s1 B) := AvS.start HV.out (by rw [e3]; exact HR0.out)
    have HS := hid (And.intro e1 (And.intro e2 e3))
    have HD := hid (And.intro d0 d1)
    have zl : (N : Int) ≤ 65536 := by have := HLe.out; omega
    have zc : (N : Int) ≤ (c : Int) := by omega
    have zm : (c : Int) ≤ 9223372036854775807 := by unfold maxLen at hm; omega
    clear h ok hB he hs1 e1 e2 e3 hN HR0 hm
    go_enter Try.func31, Try.ntmps31
    go_wp2
    rw [← hV]
    clear hV
    generalize decide (d < 0) = bb1
    generalize decide (4611686018427387904 - s.now < d) = bb2
    go_loopw [7] (fun i wr => ∃ n : Nat, i = .int .i64 n ∧ n ≤ N ∧ Hid ((∀ j, j < n → (gtT s.T j).at_ ≤ s.now + d) ∧ AvS w wr (.slice (some ⟨g, 0, none⟩) N c) s1 B)) (fun i _ => N - (intOf i).toNat)
    case atStart => exact ⟨0, rfl, Nat.zero_le _, fun j hj => by omega, HA.out⟩
    case round =>
      clear HA HV
      obtain ⟨n, rfl, hn, HK⟩ := hrel
      have wr1 : wr.cell? ⟨w.heap.size, 1, none⟩ = some (.slice (some ⟨g, 0, none⟩) N c) := HK.out.2.b0.c1
      have wr0 : wr.cell? ⟨w.heap.size, 0, none⟩ = some (.int .i64 (s.now + d)) := by rw [← HS.out.1]; exact HK.out.2.b0.c0
      by_cases hlt : n < N
      · have zn : (n : Int) < (N : Int) := by omega
        obtain ⟨g', eg, eN, y0, y1⟩ := HK.out.2.rw_.cells (k := n) (by rw [HS.out.2.2]; have := HN.out; omega)
        simp only [Option.some.injEq, Addr.mk.injEq, and_true] at eg
        subst eg
        rw [HS.out.2.2] at y0 y1
        clear eN
        by_cases hle : (gtT s.T n).at_ ≤ s.now + d
        · have HN2 : Hid (∀ j, j < n + 1 → (gtT s.T j).at_ ≤ s.now + d) := fun j hj => by
            by_cases ej : j = n
            · subst ej; exact hle
            · exact HK.out.1 j (by omega)
          generalize gtT s.T n = x at *
          go_wp2
          go_quiet (fail)
          go_wp2
          go_roundw
          case rel => exact ⟨n + 1, by go_num, by omega, HN2.out, HK.out.2.quiet ((Touch.refl _ _).drewN _)⟩
          case measure => simp [intOf]; omega
        · have HDu : Hid (dueT s.T (s.now + d) = n) := dueT_of (by have := HN.out; omega) HK.out.1 (Or.inr (by omega))
          have hle' : s.now + d < (gtT s.T n).at_ := by omega
          have hcn' : ¬ c = n := by omega
          generalize gtT s.T n = x at *
          go_wp2
          go_quiet (fail)
          obtain ⟨W, hW⟩ : ∃ W, W = wr.drewN nq := ⟨_, rfl⟩
          have HA2 : Hid (AvS w W (.slice (some ⟨g, 0, none⟩) N c) s1 B) := by rw [hW]; exact HK.out.2.quiet ((Touch.refl _ _).drewN _)
          rw [← hW]
          clear hW wr0 wr1 HK
          have w1 : W.cell? ⟨w.heap.size, 1, none⟩ = some (.slice (some ⟨g, 0, none⟩) N c) := HA2.out.b0.c1
          have hl0 : w.heap.size < W.heap.size := by have := HA2.out.sz; omega
          have HBm : Hid ((W.alloc (.cells #[] 93)).ownsRow W.heap.size 93 2 (.slice (some ⟨W.heap.size, 0, none⟩) 0 0) 0 []) := World.ownsRow_made W #[] 0 (Nat.le_refl _) (by unfold maxLen; omega) rfl
          have HRr : Hid (RR 93 W B (.slice (some ⟨g, 0, none⟩) N c) s.T) := by have := HA2.out.rw_; rw [HS.out.2.2] at this; exact this
          have HL1 : Hid ((flatT (s.T.take n)).length = n * 2) := by show _ = _; rw [flatT_len, List.length_take, Nat.min_eq_left (by have := HN.out; omega)]
          have HL2 : Hid ((flatT (s.T.drop n)).length = (N - n) * 2) := by show _ = _; rw [flatT_len, List.length_drop, ← HN.out]
          go_wp2_with (at_builtin; first
            | (refine wpList_append_own _ rfl _ _ 26 rfl W.heap.size 93 i93 (.agg #[.int .i64 0, .int .i64 0]) 2 16 Try.underlying26 hi hz0 hz1 hz2 rfl (by decide) (.slice (some ⟨W.heap.size, 0, none⟩) 0 0) 0 [] rfl HBm.out ⟨g, 0, none⟩ n c (flatT (s.T.take n)) rfl HL1.out (HRr.out.newsT HN.out n _ ((Touch.refl _ _).alloc _)) (one_flatT _) (by have := HLe.out; unfold maxLen; omega) (by have := HLe.out; omega) (by simp) ?_; intro v2 w2 hown2 hgrow hnil; clear hnil; simp only [Nat.zero_add, List.nil_append] at hown2; obtain ⟨a2, c2, rfl⟩ := own_form hown2; have O2 := hid hown2; have T2 : Hid (Touch [] W w2) := (((Touch.refl _ _).alloc _).grown hgrow (fun k hk => Or.inr (by have e : some W.heap.size = some k := hk; cases e; exact Nat.le_refl _))); clear hown2 hgrow; have HA3 := hid (HA2.out.quiet T2.out); have y1 : w2.cell? ⟨w.heap.size, 1, none⟩ = some (.slice (some ⟨g, 0, none⟩) N c) := HA3.out.b0.c1; have hl2 : w.heap.size < w2.heap.size := (by have := HA3.out.sz; omega); have HBm2 : Hid ((w2.alloc (.cells #[] 93)).ownsRow w2.heap.size 93 2 (.slice (some ⟨w2.heap.size, 0, none⟩) 0 0) 0 []) := World.ownsRow_made w2 #[] 0 (Nat.le_refl _) (by unfold maxLen; omega) rfl)
            | (refine wpList_append_own _ rfl _ _ 26 rfl w2.heap.size 93 i93 (.agg #[.int .i64 0, .int .i64 0]) 2 16 Try.underlying26 hi hz0 hz1 hz2 rfl (by decide) (.slice (some ⟨w2.heap.size, 0, none⟩) 0 0) 0 [] rfl HBm2.out ⟨g, n * 2, none⟩ (N - n) (c - n) (flatT (s.T.drop n)) rfl HL2.out (HRr.out.news HN.out n _ ((T2.out.alloc _))) (one_flatT _) (by have := HLe.out; unfold maxLen; omega) (by have := HLe.out; omega) (by simp) ?_; intro v3 w3 hown3 hgrow3 hnil3; clear hnil3; simp only [Nat.zero_add, List.nil_append] at hown3; obtain ⟨a3, c3, rfl⟩ := own_form hown3; have O3 := hid hown3; have T3 : Hid (Touch [] w2 w3) := (((Touch.refl _ _).alloc _).grown hgrow3 (fun k hk => Or.inr (by have e : some w2.heap.size = some k := hk; cases e; exact Nat.le_refl _))); clear hown3 hgrow3; have HF := hid (HA2.out.fin HB.out O2.out T2.out O3.out T3.out); have z0 : w3.cell? ⟨w.heap.size, 0, none⟩ = some (.int .i64 (s.now + d)) := (by rw [← HS.out.1]; exact HF.out.1.1.c0); have z2 : w3.cell? ⟨w.heap.size, 2, none⟩ = some (.int .i64 s.last) := (by rw [← HS.out.2.1]; exact HF.out.1.1.c2); have z1 := HF.out.1.1.c1; have zf := HF.out.1.1.fr; have u0 := HF.out.1.2.c0; have u1 := HF.out.1.2.c1; have u2 := HF.out.1.2.c2; have uf := HF.out.1.2.fr))
          refine bodyPost_ret (v := .tuple #[.agg #[.int .i64 (s.now + d), .slice a3 (N - n) c3, .int .i64 s.last], .slice a2 n c2, .int .i64 0]) (by simp [results, Try.results31, go_sem, u0, u1, u2]) rfl ?_
          obtain ⟨r1, r2, r3⟩ := HF.out.2 _ (((((Touch.refl [w.heap.size, w.heap.size + 1] w3).setCell (p := ⟨w.heap.size, 1, none⟩) (Or.inl (by simp)) (.slice a3 (N - n) c3)).setCell (p := ⟨w.heap.size + 1, 0, none⟩) (Or.inl (by simp)) (.int .i64 (s.now + d))).setCell (p := ⟨w.heap.size + 1, 1, none⟩) (Or.inl (by simp)) (.slice a3 (N - n) c3)).setCell (p := ⟨w.heap.size + 1, 2, none⟩) (Or.inl (by simp)) (.int .i64 s.last))
          refine HX.out _ _ _ _ _ _ _ n ?_ ?_ HDu.out.symm r1
          · unfold RR
            rw [List.length_drop, ← HN.out]
            exact r3
          · unfold RR
            rw [List.length_take, Nat.min_eq_left (by have := HN.out; omega)]
            exact r2
      · have zn : ¬ (n : Int) < (N : Int) := by omega
        have HDu : Hid (dueT s.T (s.now + d) = n) := dueT_of (by have := HN.out; omega) HK.out.1 (Or.inl (by have := HN.out; omega))
        by_cases hcn : n = c
        · have hNn : n = N := by omega
          have HDr : Hid (s.T.drop n = []) := List.drop_of_length_le (by have := HN.out; omega)
          subst hcn
          subst hNn
          go_wp2
          go_quiet (fail)
          obtain ⟨W, hW⟩ : ∃ W, W = wr.drewN nq := ⟨_, rfl⟩
          have HA2 : Hid (AvS w W (.slice (some ⟨g, 0, none⟩) n n) s1 B) := by rw [hW]; exact HK.out.2.quiet ((Touch.refl _ _).drewN _)
          rw [← hW]
          clear hW wr0 wr1 HK
          have w1 : W.cell? ⟨w.heap.size, 1, none⟩ = some (.slice (some ⟨g, 0, none⟩) n n) := HA2.out.b0.c1
          have hl0 : w.heap.size < W.heap.size := by have := HA2.out.sz; omega
          have HBm : Hid ((W.alloc (.cells #[] 93)).ownsRow W.heap.size 93 2 (.slice (some ⟨W.heap.size, 0, none⟩) 0 0) 0 []) := World.ownsRow_made W #[] 0 (Nat.le_refl _) (by unfold maxLen; omega) rfl
          have HRr : Hid (RR 93 W B (.slice (some ⟨g, 0, none⟩) n n) s.T) := by have := HA2.out.rw_; rw [HS.out.2.2] at this; exact this
          have HL1 : Hid ((flatT (s.T.take n)).length = n * 2) := by show _ = _; rw [flatT_len, List.length_take, Nat.min_eq_left (by have := HN.out; omega)]
          have HL2 : Hid ((flatT (s.T.drop n)).length = (n - n) * 2) := by show _ = _; rw [flatT_len, List.length_drop, ← HN.out]
          go_wp2_with (at_builtin; first
            | (refine wpList_append_own _ rfl _ _ 26 rfl W.heap.size 93 i93 (.agg #[.int .i64 0, .int .i64 0]) 2 16 Try.underlying26 hi hz0 hz1 hz2 rfl (by decide) (.slice (some ⟨W.heap.size, 0, none⟩) 0 0) 0 [] rfl HBm.out ⟨g, 0, none⟩ n n (flatT (s.T.take n)) rfl HL1.out (HRr.out.newsT HN.out n _ ((Touch.refl _ _).alloc _)) (one_flatT _) (by have := HLe.out; unfold maxLen; omega) (by have := HLe.out; omega) (by simp) ?_; intro v2 w2 hown2 hgrow hnil; clear hnil; simp only [Nat.zero_add, List.nil_append] at hown2; obtain ⟨a2, c2, rfl⟩ := own_form hown2; have O2 := hid hown2; have T2 : Hid (Touch [] W w2) := (((Touch.refl _ _).alloc _).grown hgrow (fun k hk => Or.inr (by have e : some W.heap.size = some k := hk; cases e; exact Nat.le_refl _))); clear hown2 hgrow; have HA3 := hid (HA2.out.quiet T2.out); have y1 : w2.cell? ⟨w.heap.size, 1, none⟩ = some (.slice (some ⟨g, 0, none⟩) n n) := HA3.out.b0.c1; have hl2 : w.heap.size < w2.heap.size := (by have := HA3.out.sz; omega); have HBm2 : Hid ((w2.alloc (.cells #[] 93)).ownsRow w2.heap.size 93 2 (.slice (some ⟨w2.heap.size, 0, none⟩) 0 0) 0 []) := World.ownsRow_made w2 #[] 0 (Nat.le_refl _) (by unfold maxLen; omega) rfl)
            | (refine wpList_append_own _ rfl _ _ 26 rfl w2.heap.size 93 i93 (.agg #[.int .i64 0, .int .i64 0]) 2 16 Try.underlying26 hi hz0 hz1 hz2 rfl (by decide) (.slice (some ⟨w2.heap.size, 0, none⟩) 0 0) 0 [] rfl HBm2.out _ 0 _ [] rfl rfl (fun j u hj => by simp at hj) (fun u hu => by simp at hu) (by have := HLe.out; unfold maxLen; omega) (by have := HLe.out; omega) (by simp) ?_; intro v3 w3 hown3 hgrow3 hnil3; clear hnil3; simp only [Nat.zero_add, List.nil_append] at hown3; obtain ⟨a3, c3, rfl⟩ := own_form hown3; have O3 := hid hown3; have T3 : Hid (Touch [] w2 w3) := (((Touch.refl _ _).alloc _).grown hgrow3 (fun k hk => Or.inr (by have e : some w2.heap.size = some k := hk; cases e; exact Nat.le_refl _))); clear hown3 hgrow3; have HF := hid (HA2.out.fin HB.out O2.out T2.out O3.out T3.out); have z0 : w3.cell? ⟨w.heap.size, 0, none⟩ = some (.int .i64 (s.now + d)) := (by rw [← HS.out.1]; exact HF.out.1.1.c0); have z2 : w3.cell? ⟨w.heap.size, 2, none⟩ = some (.int .i64 s.last) := (by rw [← HS.out.2.1]; exact HF.out.1.1.c2); have z1 := HF.out.1.1.c1; have zf := HF.out.1.1.fr; have u0 := HF.out.1.2.c0; have u1 := HF.out.1.2.c1; have u2 := HF.out.1.2.c2; have uf := HF.out.1.2.fr))
          refine bodyPost_ret (v := .tuple #[.agg #[.int .i64 (s.now + d), .slice a3 0 c3, .int .i64 s.last], .slice a2 n c2, .int .i64 0]) (by simp [results, Try.results31, go_sem, u0, u1, u2]) rfl ?_
          obtain ⟨r1, r2, r3⟩ := HF.out.2 _ (((((Touch.refl [w.heap.size, w.heap.size + 1] w3).setCell (p := ⟨w.heap.size, 1, none⟩) (Or.inl (by simp)) (.slice a3 0 c3)).setCell (p := ⟨w.heap.size + 1, 0, none⟩) (Or.inl (by simp)) (.int .i64 (s.now + d))).setCell (p := ⟨w.heap.size + 1, 1, none⟩) (Or.inl (by simp)) (.slice a3 0 c3)).setCell (p := ⟨w.heap.size + 1, 2, none⟩) (Or.inl (by simp)) (.int .i64 s.last))
          refine HX.out _ _ _ _ _ _ _ n ?_ ?_ HDu.out.symm r1
          · unfold RR
            rw [List.length_drop, ← HN.out]
            rw [HDr.out, Nat.sub_self]; exact r3
          · unfold RR
            rw [List.length_take, Nat.min_eq_left (by have := HN.out; omega)]
            exact r2
        · have hcn' : ¬ c = n := fun e => hcn e.symm
          go_wp2
          go_quiet (fail)
          obtain ⟨W, hW⟩ : ∃ W, W = wr.drewN nq := ⟨_, rfl⟩
          have HA2 : Hid (AvS w W (.slice (some ⟨g, 0, none⟩) N c) s1 B) := by rw [hW]; exact HK.out.2.quiet ((Touch.refl _ _).drewN _)
          rw [← hW]
          clear hW wr0 wr1 HK
          have w1 : W.cell? ⟨w.heap.size, 1, none⟩ = some (.slice (some ⟨g, 0, none⟩) N c) := HA2.out.b0.c1
          have hl0 : w.heap.size < W.heap.size := by have := HA2.out.sz; omega
          have HBm : Hid ((W.alloc (.cells #[] 93)).ownsRow W.heap.size 93 2 (.slice (some ⟨W.heap.size, 0, none⟩) 0 0) 0 []) := World.ownsRow_made W #[] 0 (Nat.le_refl _) (by unfold maxLen; omega) rfl
          have HRr : Hid (RR 93 W B (.slice (some ⟨g, 0, none⟩) N c) s.T) := by have := HA2.out.rw_; rw [HS.out.2.2] at this; exact this
          have HL1 : Hid ((flatT (s.T.take n)).length = n * 2) := by show _ = _; rw [flatT_len, List.length_take, Nat.min_eq_left (by have := HN.out; omega)]
          have HL2 : Hid ((flatT (s.T.drop n)).length = (N - n) * 2) := by show _ = _; rw [flatT_len, List.length_drop, ← HN.out]
          go_wp2_with (at_builtin; first
            | (refine wpList_append_own _ rfl _ _ 26 rfl W.heap.size 93 i93 (.agg #[.int .i64 0, .int .i64 0]) 2 16 Try.underlying26 hi hz0 hz1 hz2 rfl (by decide) (.slice (some ⟨W.heap.size, 0, none⟩) 0 0) 0 [] rfl HBm.out ⟨g, 0, none⟩ n c (flatT (s.T.take n)) rfl HL1.out (HRr.out.newsT HN.out n _ ((Touch.refl _ _).alloc _)) (one_flatT _) (by have := HLe.out; unfold maxLen; omega) (by have := HLe.out; omega) (by simp) ?_; intro v2 w2 hown2 hgrow hnil; clear hnil; simp only [Nat.zero_add, List.nil_append] at hown2; obtain ⟨a2, c2, rfl⟩ := own_form hown2; have O2 := hid hown2; have T2 : Hid (Touch [] W w2) := (((Touch.refl _ _).alloc _).grown hgrow (fun k hk => Or.inr (by have e : some W.heap.size = some k := hk; cases e; exact Nat.le_refl _))); clear hown2 hgrow; have HA3 := hid (HA2.out.quiet T2.out); have y1 : w2.cell? ⟨w.heap.size, 1, none⟩ = some (.slice (some ⟨g, 0, none⟩) N c) := HA3.out.b0.c1; have hl2 : w.heap.size < w2.heap.size := (by have := HA3.out.sz; omega); have HBm2 : Hid ((w2.alloc (.cells #[] 93)).ownsRow w2.heap.size 93 2 (.slice (some ⟨w2.heap.size, 0, none⟩) 0 0) 0 []) := World.ownsRow_made w2 #[] 0 (Nat.le_refl _) (by unfold maxLen; omega) rfl)
            | (refine wpList_append_own _ rfl _ _ 26 rfl w2.heap.size 93 i93 (.agg #[.int .i64 0, .int .i64 0]) 2 16 Try.underlying26 hi hz0 hz1 hz2 rfl (by decide) (.slice (some ⟨w2.heap.size, 0, none⟩) 0 0) 0 [] rfl HBm2.out ⟨g, n * 2, none⟩ (N - n) (c - n) (flatT (s.T.drop n)) rfl HL2.out (HRr.out.news HN.out n _ ((T2.out.alloc _))) (one_flatT _) (by have := HLe.out; unfold maxLen; omega) (by have := HLe.out; omega) (by simp) ?_; intro v3 w3 hown3 hgrow3 hnil3; clear hnil3; simp only [Nat.zero_add, List.nil_append] at hown3; obtain ⟨a3, c3, rfl⟩ := own_form hown3; have O3 := hid hown3; have T3 : Hid (Touch [] w2 w3) := (((Touch.refl _ _).alloc _).grown hgrow3 (fun k hk => Or.inr (by have e : some w2.heap.size = some k := hk; cases e; exact Nat.le_refl _))); clear hown3 hgrow3; have HF := hid (HA2.out.fin HB.out O2.out T2.out O3.out T3.out); have z0 : w3.cell? ⟨w.heap.size, 0, none⟩ = some (.int .i64 (s.now + d)) := (by rw [← HS.out.1]; exact HF.out.1.1.c0); have z2 : w3.cell? ⟨w.heap.size, 2, none⟩ = some (.int .i64 s.last) := (by rw [← HS.out.2.1]; exact HF.out.1.1.c2); have z1 := HF.out.1.1.c1; have zf := HF.out.1.1.fr; have u0 := HF.out.1.2.c0; have u1 := HF.out.1.2.c1; have u2 := HF.out.1.2.c2; have uf := HF.out.1.2.fr))
          refine bodyPost_ret (v := .tuple #[.agg #[.int .i64 (s.now + d), .slice a3 (N - n) c3, .int .i64 s.last], .slice a2 n c2, .int .i64 0]) (by simp [results, Try.results31, go_sem, u0, u1, u2]) rfl ?_
          obtain ⟨r1, r2, r3⟩ := HF.out.2 _ (((((Touch.refl [w.heap.size, w.heap.size + 1] w3).setCell (p := ⟨w.heap.size, 1, none⟩) (Or.inl (by simp)) (.slice a3 (N - n) c3)).setCell (p := ⟨w.heap.size + 1, 0, none⟩) (Or.inl (by simp)) (.int .i64 (s.now + d))).setCell (p := ⟨w.heap.size + 1, 1, none⟩) (Or.inl (by simp)) (.slice a3 (N - n) c3)).setCell (p := ⟨w.heap.size + 1, 2, none⟩) (Or.inl (by simp)) (.int .i64 s.last))
          refine HX.out _ _ _ _ _ _ _ n ?_ ?_ HDu.out.symm r1
          · unfold RR
            rw [List.length_drop, ← HN.out]
            exact r3
          · unfold RR
            rw [List.length_take, Nat.min_eq_left (by have := HN.out; omega)]
            exact r2
end
end Go.Proofs.Ytaioegefoiabhaa
