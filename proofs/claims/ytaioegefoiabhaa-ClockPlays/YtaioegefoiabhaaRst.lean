/- The contract of the document's Stop. -/
import Derived.Test.YtaioegefoiabhaaRfl
namespace Go.Proofs.Ytaioegefoiabhaa
open Go.RowKit Go.Maps Go.ChangeMaps
set_option linter.unusedVariables false
theorem info93 : (Try.prog.info? 93).map (fun i => (i.zero, i.size, i.bytes)) = some (some (.agg #[.int .i64 0, .int .i64 0]), 2, 16) := by kernel_rfl
/-- A clock of the document's in a block of its own. -/
def BM (w : World) (b : Nat) (n : Int) (v : Value) (l : Int) : Prop := w.heap[b]? = some (.cells #[.int .i64 n, v, .int .i64 l] 28 (0, 0))
section
variable {w w' : World} {b : Nat} {n l : Int} {v : Value}
theorem BM.c0 (h : BM w b n v l) : w.cell? ⟨b, 0, none⟩ = some (.int .i64 n) := by unfold BM at h; simp [World.cell?, h]
theorem BM.c1 (h : BM w b n v l) : w.cell? ⟨b, 1, none⟩ = some v := by unfold BM at h; simp [World.cell?, h]
theorem BM.c2 (h : BM w b n v l) : w.cell? ⟨b, 2, none⟩ = some (.int .i64 l) := by unfold BM at h; simp [World.cell?, h]
theorem BM.fr (h : BM w b n v l) (j : Nat) : w.frozen? ⟨b, j, none⟩ = false := by unfold BM at h; simp [World.frozen?, h]
theorem BM.keep {F : List Nat} (h : BM w b n v l) (ht : Touch F w w') (hn : ¬ b ∈ F) : BM w' b n v l := ht.keep h hn
theorem BM.keep0 (h : BM w b n v l) (ht : Touch [] w w') : BM w' b n v l := ht.keep h (by simp)
theorem BM.new (w : World) (n : Int) (v : Value) (l : Int) : BM (w.alloc (.cells #[.int .i64 n, v, .int .i64 l] 28)) w.heap.size n v l := heap_alloc_new w _
end
/-- The two boxes that a function of the document's makes ahead of all. -/
structure Bo (w V : World) (s : Cs) (v : Value) : Prop where
  b0 : BM V w.heap.size s.now v s.last
  b1 : BM V (w.heap.size + 1) 0 (.slice none 0 0) 0
  sz : V.heap.size = w.heap.size + 2
  tc : Touch [] w V
theorem Bo.mk' (w : World) (s : Cs) (v : Value) : Bo w ((w.alloc (.cells #[.int .i64 s.now, v, .int .i64 s.last] 28)).alloc (.cells #[.int .i64 0, .slice none 0 0, .int .i64 0] 28)) s v := by
  refine ⟨(BM.new w _ _ _).keep0 ((Touch.refl _ _).alloc _), ?_, by simp, ((Touch.refl _ _).alloc _).alloc _⟩
  have := BM.new (w.alloc (.cells #[.int .i64 s.now, v, .int .i64 s.last] 28)) 0 (.slice none 0 0) 0
  simpa using this
theorem own_base {w : World} {B B' e k n : Nat} {v : Value} {xs : List Value} (h : w.ownsRow B e k v n xs) (hb : B' ≤ B) : w.ownsRow B' e k v n xs := by
  obtain ⟨h1, h2 | ⟨g', c', cur, e', hg, r⟩⟩ := h
  · exact ⟨h1, Or.inl h2⟩
  · exact ⟨h1, Or.inr ⟨g', c', cur, e', Nat.le_trans hb hg, r⟩⟩
theorem Bo.fin {w V wr w' : World} {s : Cs} {v : Value} (h : Bo w V s v) (t : Touch [] V wr) (t2 : Touch [w.heap.size, w.heap.size + 1] wr w') {e k m : Nat} {v' : Value} {xs : List Value} (row : wr.ownsRow V.heap.size e k v' m xs) : Touch [] w w' ∧ w'.ownsRow w.heap.size e k v' m xs := by
  have hs := h.sz
  refine ⟨(h.tc.trans' t).trans t2 (fun i hi => Or.inr (by simp at hi; omega)), own_base (own_touch row t2 (fun b hb e => ?_)) (by omega)⟩
  have := (row.lt b hb).1
  simp at e
  omega
theorem outT_snoc_ne {T : List Tm} {n : Nat} {k : Int} (h : n < T.length) (hk : (gtT T n).it ≠ k) : outT (T.take (n + 1)) k = outT (T.take n) k ++ [gtT T n] := by
  unfold outT
  rw [List.take_succ_eq_append_getElem h, List.filter_append, ← gtT_eq h]
  simp [hk]
theorem outT_snoc_eq {T : List Tm} {n : Nat} {k : Int} (h : n < T.length) (hk : (gtT T n).it = k) : outT (T.take (n + 1)) k = outT (T.take n) k := by
  unfold outT
  rw [List.take_succ_eq_append_getElem h, List.filter_append, ← gtT_eq h]
  simp [hk]
theorem outT_take_le (T : List Tm) (n : Nat) (k : Int) : (outT (T.take n) k).length ≤ n := by
  have := List.length_filter_le (fun x : Tm => x.it != k) (T.take n)
  rw [List.length_take] at this
  unfold outT
  omega
theorem outT_has (T : List Tm) (k : Int) : decide ((outT T k).length < T.length) = hasT T k := by
  cases h : hasT T k with
  | true =>
    obtain ⟨x, hx, e⟩ := List.any_eq_true.1 h
    refine decide_eq_true ?_
    unfold outT
    rw [List.length_filter_lt_length_iff_exists]
    exact ⟨x, hx, by simpa using e⟩
  | false =>
    refine decide_eq_false (fun hl => ?_)
    unfold outT at hl
    rw [List.length_filter_lt_length_iff_exists] at hl
    obtain ⟨x, hx, e⟩ := hl
    have := List.any_eq_false.1 h x hx
    simp at e this
    exact this e
/-- What a function of the document's leaves: a row of its own. -/
def RsE (e : Ending) (w w' : World) (s : Cs) (f : Value → Value) : Prop := ∃ a n c, e = .returned (f (.agg #[.int .i64 s.now, .slice a n c, .int .i64 s.last])) ∧ RR 93 w' w.heap.size (.slice a n c) s.T ∧ Touch [] w w'
set_option maxHeartbeats 2000000 in
set_option maxRecDepth 100000 in
theorem rstop30 (w : World) (B : Nat) (v : Value) (s : Cs) (k : Int) (h : RR 93 w B v s.T) (ok : Ok s) :
    Calls Try.prog 30 #[.agg #[.int .i64 s.now, v, .int .i64 s.last], .int .i64 k] w fun e w' => RsE e w w' (stopS s k) (fun m => .tuple #[m, .bool (hasT s.T k)]) := by
  obtain ⟨i93, hi, hz0, hz1, hz2⟩ := info_parts info93
  obtain ⟨a, c, rfl⟩ := h.slice
  have HLe := hid ok.len
  have HV := hid (Bo.mk' w s (.slice a s.T.length c))
  obtain ⟨V, hV⟩ : ∃ V, V = (w.alloc (.cells #[.int .i64 s.now, .slice a s.T.length c, .int .i64 s.last] 28)).alloc (.cells #[.int .i64 0, .slice none 0 0, .int .i64 0] 28) := ⟨_, rfl⟩
  rw [← hV] at HV
  have HR : Hid (RR 93 V B (.slice a s.T.length c) s.T) := h.keep0 HV.out.tc
  have HH := hid (outT_has s.T k)
  clear h ok
  obtain ⟨N, hN⟩ : ∃ N, N = s.T.length := ⟨_, rfl⟩
  have HN := hid hN
  rw [← hN] at HR HLe HV hV HH ⊢
  clear hN
  have zl : (N : Int) ≤ 65536 := by have := HLe.out; omega
  go_enter Try.func30, Try.ntmps30
  go_wp2
  rw [← hV]
  clear hV
  go_loopw [6, 7] (fun s6 s7 wr => ∃ a6 m c6 n, s6 = .slice a6 m c6 ∧ s7 = .int .i64 (n : Nat) ∧ n ≤ N ∧ Hid (wr.ownsRow V.heap.size 93 2 (.slice a6 m c6) m (flatT (outT (s.T.take n) k)) ∧ m = (outT (s.T.take n) k).length ∧ Touch [] V wr)) (fun _ i _ => N - (intOf i).toNat)
  case atStart =>
    refine ⟨_, 0, 0, 0, rfl, rfl, Nat.zero_le _, ?_, by simp [outT], (Touch.refl _ _).alloc _⟩
    have := World.ownsRow_made (e := 93) (size := 2) V #[] 0 (Nat.le_refl _) (by unfold maxLen; omega) rfl
    rw [HV.out.sz] at this ⊢
    simpa [outT, flatT] using this
  case round =>
    obtain ⟨a6, m, c6, n, rfl, rfl, hn, HS⟩ := hrel
    have B0 := hid (HV.out.b0.keep0 HS.out.2.2)
    have B1 := hid (HV.out.b1.keep0 HS.out.2.2)
    have b01 := B0.out.c1
    by_cases hlt : n < N
    · have zn : (n : Int) < (N : Int) := by omega
      have hnT : n < s.T.length := by have := HN.out; omega
      obtain ⟨g, rfl, eN, y0, y1⟩ := (HR.out.keep0 HS.out.2.2).cells hnT
      clear eN
      have hm : m ≤ n := by rw [HS.out.2.1]; exact outT_take_le _ _ _
      by_cases e : (gtT s.T n).it = k
      · have e' : ((gtT s.T n).it == k) = true := by simp [e]
        have HE := hid (outT_snoc_eq hnT e)
        clear e hnT
        generalize gtT s.T n = x at *
        go_wp2
        go_roundw
        case rel => exact ⟨_, m, _, n + 1, rfl, by go_num, by omega, by rw [HE.out]; exact HS.out⟩
        case measure => simp [intOf]; omega
      · have e' : ((gtT s.T n).it == k) = false := by simp [e]
        have HE := hid (outT_snoc_ne hnT e)
        clear e hnT
        generalize gtT s.T n = x at *
        have hb := HS.out.2.2.size
        go_wp2_with (at_builtin; refine wpList_append_lies _ rfl _ _ 26 rfl V.heap.size 93 i93 (.agg #[.int .i64 0, .int .i64 0]) 2 16 Try.underlying26 hi hz0 hz1 hz2 rfl (by decide) (.slice a6 m c6) m (flatT (outT (s.T.take n) k)) rfl (HS.out.1.alloc _) ⟨wr.heap.size, 0, none⟩ 1 1 [.int .i64 x.it, .int .i64 x.at_] rfl rfl (cell_two_newR _ _ _ _) (by simp [Value.oneCell']) (by decide) (by have := HLe.out; unfold maxLen; omega) (by have := HLe.out; omega) (by simp; omega) _ rfl ?_; intro g1 c1 w3 hown3 hgrow hat hlt3)
        have T3 : Touch (Value.slice a6 m c6).ownBlock.toList wr w3 := ((Touch.refl _ _).alloc _).grown hgrow (fun j hj => Or.inl (by simp [hj]))
        have T4 : Touch [] V w3 := HS.out.2.2.trans T3 (fun j hj => Or.inr (HS.out.1.lt j (by simpa using hj)).1)
        go_wp2
        go_roundw
        case rel =>
          refine ⟨_, m + 1, _, n + 1, rfl, by go_num, by omega, ?_, ?_, T4⟩
          · rw [HE.out, flatT_app]
            exact hown3
          · rw [HE.out, HS.out.2.1]
            simp
        case measure => simp [intOf]; omega
    · have e : n = N := by omega
      subst e
      have zn : ¬ (n : Int) < (n : Int) := by omega
      have hm : m ≤ n := by rw [HS.out.2.1]; exact outT_take_le _ _ _
      have b00 := B0.out.c0
      have b02 := B0.out.c2
      have b0f := B0.out.fr
      have b1f := B1.out.fr
      have b10 := B1.out.c0
      have b11 := B1.out.c1
      have b12 := B1.out.c2
      go_wp2
      have T5 : Touch [w.heap.size, w.heap.size + 1] wr ((((wr.setCell ⟨w.heap.size, 1, none⟩ (.slice a6 m c6)).setCell ⟨w.heap.size + 1, 0, none⟩ (.int .i64 s.now)).setCell ⟨w.heap.size + 1, 1, none⟩ (.slice a6 m c6)).setCell ⟨w.heap.size + 1, 2, none⟩ (.int .i64 s.last)) :=
        ((((Touch.refl _ _).setCell (p := ⟨w.heap.size, 1, none⟩) (Or.inl (by simp)) _).setCell (p := ⟨w.heap.size + 1, 0, none⟩) (Or.inl (by simp)) _).setCell (p := ⟨w.heap.size + 1, 1, none⟩) (Or.inl (by simp)) _).setCell (p := ⟨w.heap.size + 1, 2, none⟩) (Or.inl (by simp)) _
      obtain ⟨r1, r2⟩ := HV.out.fin HS.out.2.2 T5 HS.out.1
      have eT : outT (s.T.take n) k = outT s.T k := by rw [List.take_of_length_le (by have := HN.out; omega)]
      rw [eT] at r2
      have em : m = (outT s.T k).length := by rw [← eT]; exact HS.out.2.1
      refine bodyPost_ret (v := .tuple #[.agg #[.int .i64 s.now, .slice a6 m c6, .int .i64 s.last], .bool (decide (m < n))]) (by simp [results, Try.results30, go_sem, b10, b11, b12]) rfl ⟨a6, m, c6, ?_, ?_, r1⟩
      · show _ = Ending.returned (.tuple #[.agg #[.int .i64 s.now, .slice a6 m c6, .int .i64 s.last], .bool (hasT s.T k)])
        rw [← HH.out, em]
      · show World.ownsRow _ _ _ _ _ (outT s.T k).length _
        rw [← em]
        exact r2
end Go.Proofs.Ytaioegefoiabhaa
