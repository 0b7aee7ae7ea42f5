/- TraceAdds: the function that is handed to Each, and Each with it; the conditions are that each states. -/
import Derived.Test.YtlhieohjabbgdaaGreatDoorREwb
namespace Go.Proofs.YtlhieohjabbgdaaGreatDoorR.Tr
open Go.RowKit Go.Sort Go.Shelf Go.Maps Go.ChangeMaps
set_option linter.unusedVariables false
set_option linter.unusedSimpArgs false
theorem Each_of (b : Nat) (f : Fn) (cap : Array Value) (w : World) (E : World → Prop) (h : Calls Tryz.prog 55 #[PT b, .func f #[] cap] w fun r w' => r = .returned (.tuple #[]) ∧ E w') :
    Calls Tryz.prog 19 #[PT b, .func f #[] cap] w fun r w' => r = .returned (.tuple #[]) ∧ E w' := by
  have HE := hid h
  have hq := fun w' => eqfn f #[] cap w'
  unfold PT at *
  clear h
  go_enter_defers Tryz.func19, Tryz.ntmps19
  go_wp2_with fail
  refine Calls.mono HE.out ?_
  rintro r w1 ⟨rfl, e1⟩
  have H1 := hid e1
  clear e1
  go_wp2_with fail
  refine leaves_cons (f := 54) (args := #[]) (by simp) (by simp [go_sem]) ?_
  refine (catch_idle _).mono ?_
  rintro e u' w'' ⟨rfl, rfl, rfl⟩
  simp [Leaves, settle, results, Tryz.results19, go_sem]
  exact H1.out
theorem Each_nf (b : Nat) (w : World) : Calls Tryz.prog 19 #[PT b, .nilFunc] w fun r w' => r = .returned (.tuple #[]) ∧ w' = w := by
  have hq : ∀ w', (binOp .eql 58 .nilFunc .nilFunc).run Tryz.prog w' = .ok (.bool true) w' := fun w' => by kernel_rfl
  unfold PT
  go_enter_defers Tryz.func19, Tryz.ntmps19
  go_wp2_with fail
  simp [bodyPostD, Leaves, settle, results, Tryz.results19, go_sem]
/-- what stands between two events of Each -/
structure Aj (w0 : World) (B B' b : Nat) (v u : Value) (kf kn kw ke : Nat) (L : List Ez) (K n : Int) (w' : World) : Prop where
  t : Touch [] w0 w'
  q : Tq w' B b v L
  f : w'.heap[kf]? = some (.cells #[.bool true] 4 (0, 0))
  n : w'.heap[kn]? = some (.cells #[.int .i64 n] 3 (0, 0))
  wn : w'.heap[kw]? = some (.cells #[u] 48 (0, 0))
  en : w'.heap[ke]? = some (.cells #[.int .i64 K] 3 (0, 0))
  ou : w'.ownsRow B' 30 13 u L.length (evs L)
  lf : w0.heap.size ≤ kf
  ln : w0.heap.size ≤ kn
  ne : kn ≠ ke
section
variable {w0 w' w2 : World} {B B' b : Nat} {v u : Value} {kf kn kw ke : Nat} {L : List Ez} {K n : Int}
theorem Aj.touch (h : Aj w0 B B' b v u kf kn kw ke L K n w') (t : Touch [] w' w2) : Aj w0 B B' b v u kf kn kw ke L K n w2 :=
  ⟨h.t.trans' t, h.q.touch0 t, t.keep h.f (by simp), t.keep h.n (by simp), t.keep h.wn (by simp), t.keep h.en (by simp), own_touch h.ou t (by simp), h.lf, h.ln, h.ne⟩
theorem blk_ne {w : World} {i j : Nat} {c d : Array Value} {s t : TypeId} {y z : Nat × Nat} (h : w.heap[i]? = some (.cells c s y)) (k : w.heap[j]? = some (.cells d t z)) (hn : s ≠ t) : i ≠ j := fun e => by
  rw [e, k] at h
  simp only [Option.some.injEq, Obj.cells.injEq] at h
  exact hn h.2.1.symm
theorem Aj.setF (h : Aj w0 B B' b v u kf kn kw ke L K n w') : Aj w0 B B' b v u kf kn kw ke L K n (w'.setCell ⟨kf, 0, none⟩ (.bool true)) := by
  have t : Touch [kf] w' (w'.setCell ⟨kf, 0, none⟩ (.bool true)) := (Touch.refl [kf] w').setCell (Or.inl (by simp)) _
  refine ⟨h.t.trans t (fun i hi => Or.inr (by simp at hi; rw [hi]; exact h.lf)), h.q.touch t ?_ ?_, ?_, t.keep h.n ?_, t.keep h.wn ?_, t.keep h.en ?_, own_touch h.ou t ?_, h.lf, h.ln, h.ne⟩
  · simp only [List.mem_singleton]; exact blk_ne h.q.bx h.f (by decide)
  · intro q hq; simp only [List.mem_singleton]; exact fun e => kind_ne h.q.ow h.f (by decide) (e ▸ hq)
  · have := bset (i := 0) h.f (.bool true)
    simpa using this
  · simp only [List.mem_singleton]; exact blk_ne h.n h.f (by decide)
  · simp only [List.mem_singleton]; exact blk_ne h.wn h.f (by decide)
  · simp only [List.mem_singleton]; exact blk_ne h.en h.f (by decide)
  · intro q hq; simp only [List.mem_singleton]; exact fun e => kind_ne h.ou h.f (by decide) (e ▸ hq)
theorem Aj.setN (h : Aj w0 B B' b v u kf kn kw ke L K n w') (m : Int) : Aj w0 B B' b v u kf kn kw ke L K m (w'.setCell ⟨kn, 0, none⟩ (.int .i64 m)) := by
  have t : Touch [kn] w' (w'.setCell ⟨kn, 0, none⟩ (.int .i64 m)) := (Touch.refl [kn] w').setCell (Or.inl (by simp)) _
  refine ⟨h.t.trans t (fun i hi => Or.inr (by simp at hi; rw [hi]; exact h.ln)), h.q.touch t ?_ ?_, t.keep h.f ?_, ?_, t.keep h.wn ?_, t.keep h.en ?_, own_touch h.ou t ?_, h.lf, h.ln, h.ne⟩
  · simp only [List.mem_singleton]; exact blk_ne h.q.bx h.n (by decide)
  · intro q hq; simp only [List.mem_singleton]; exact fun e => kind_ne h.q.ow h.n (by decide) (e ▸ hq)
  · simp only [List.mem_singleton]; exact blk_ne h.f h.n (by decide)
  · have := bset (i := 0) h.n (.int .i64 m)
    simpa using this
  · simp only [List.mem_singleton]; exact blk_ne h.wn h.n (by decide)
  · simp only [List.mem_singleton]; exact fun e => h.ne e.symm
  · intro q hq; simp only [List.mem_singleton]; exact fun e => kind_ne h.ou h.n (by decide) (e ▸ hq)
end
set_option maxHeartbeats 4000000 in
set_option maxRecDepth 20000 in
theorem adds1_ {w0 w : World} {B B' b : Nat} {v u : Value} {kf kn kw ke : Nat} {L : List Ez} {K : Int} (i : Nat) (e : Ez) (he : L[i]? = some e) (h : Aj w0 B B' b v u kf kn kw ke L K i w) :
    Calls Tryz.prog 20 #[.int .i64 i, e.val, PT kf, PT kn, PT kw, PT ke] w fun r w' => r = .returned (.bool (decide ((i : Int) + 1 ≠ K))) ∧ Aj w0 B B' b v u kf kn kw ke L K ((i : Int) + 1) w' := by
  have hi : i < L.length := (List.getElem?_eq_some_iff.1 he).1
  have hle := h.q.le
  obtain ⟨g0, c, rfl, _, hg⟩ := own_some h.ou (by omega)
  obtain ⟨V, hV⟩ : ∃ V, V = w.alloc (.cells #[.int .i64 e.at_, .int .i64 e.kd, .int .i64 e.cl, .int .i64 e.ca, .int .i64 e.ru, .int .i64 e.ge, .int .i64 e.ho, .int .u16 e.sp, .string e.nm, .int .i64 e.va, .int .i64 e.fk, .int .i64 e.fc, .int .i64 e.fr] 30) := ⟨_, rfl⟩
  have tV : Touch [] w V := by rw [hV]; exact (Touch.refl [] w).alloc _
  obtain ⟨x0, x1, x2, x3, x4, x5, x6, x7, x8, x9, x10, x11, x12⟩ : Ib V w.heap.size e := by rw [hV]; exact Ib.new w e 30
  have hA := h.touch tV
  obtain ⟨c0, c1, c2, c3, c4, c5, c6, c7, c8, c9, c10, c11, c12⟩ := rc_own hA.ou he
  have f0 := cell_at hA.f (j := 0) rfl
  have n0 := cell_at hA.n (j := 0) rfl
  have w1 := cell_at hA.wn (j := 0) rfl
  have e0 := cell_at hA.en (j := 0) rfl
  have z0 := froz_at hA.f 0
  have z1 := froz_at hA.n 0
  have hq := eqE e V
  have HA := hid hA
  obtain ⟨N, hN⟩ : ∃ N, L.length = N := ⟨_, rfl⟩
  rw [hN] at w1 hi hle
  obtain ⟨NL, hNL⟩ : ∃ NL : Int, (N : Int) = NL := ⟨_, rfl⟩
  have hz : (i : Int) < NL := by omega
  have h0 : (0 : Int) ≤ (i : Int) := by omega
  have hb : (i : Int) ≤ 1048576 := by omega
  clear he h hN hi hle hA hg
  unfold PT Ez.val at *
  go_enter Tryz.func20, Tryz.ntmps20
  go_upto_region 1 with fail
  rw [← hV]
  clear hV
  go_region
  obtain ⟨W2, hW2⟩ : ∃ W2, W2 = (V.setCell ⟨kf, 0, none⟩ (.bool true)).drew := ⟨_, rfl⟩
  have hA2 : Aj w0 B B' b v (.slice (some ⟨g0, 0, none⟩) L.length c) kf kn kw ke L K i W2 := by
    rw [hW2]
    exact HA.out.setF.touch ((Touch.refl [] _).drew)
  rw [← hW2]
  clear hW2 x0 x1 x2 x3 x4 x5 x6 x7 x8 x9 x10 x11 x12 c0 c1 c2 c3 c4 c5 c6 c7 c8 c9 c10 c11 c12 f0 n0 w1 e0 z0 z1 hq tV HA
  have n0 := cell_at hA2.n (j := 0) rfl
  have e0 := cell_at hA2.en (j := 0) rfl
  have z1 := froz_at hA2.n 0
  have hne := hA2.ne
  have HA2 := hid hA2
  clear hA2
  go_wp2_with fail
  go_ret
  refine ⟨?_, HA2.out.setN _⟩
  show Ending.returned (.bool _) = _
  congr 1
  by_cases hk : (i : Int) + 1 = K <;> simp [hk]
def cntK (K : Int) (N : Nat) : Int := if 0 < K ∧ K < N then K else N
theorem eachA_ {w0 w : World} {B B' b : Nat} {v u : Value} {kf kn kw ke : Nat} {L : List Ez} {K : Int} (h : Aj w0 B B' b v u kf kn kw ke L K 0 w) :
    Calls Tryz.prog 19 #[PT b, .func (.func 20) #[] #[PT kf, PT kn, PT kw, PT ke]] w fun r w' => r = .returned (.tuple #[]) ∧ Aj w0 B B' b v u kf kn kw ke L K (cntK K L.length) w' := by
  refine Each_of b _ _ w _ (each_adds (PT kf) (PT kn) (PT kw) (PT ke) (fun i w' => Aj w0 B B' b v u kf kn kw ke L K i w' ∧ ∀ m : Nat, 1 ≤ m → m ≤ i → (m : Int) ≠ K) _ ⟨h, fun m h1 h2 => by omega⟩ (fun i w' h => h.1.q) (fun i w' o h => ⟨h.1.touch ((Touch.refl [] w').alloc o), h.2⟩) (fun i e w' he hj => ?_) (fun w' hj => ?_))
  · have hi : i < L.length := (List.getElem?_eq_some_iff.1 he).1
    refine (adds1_ i e he hj.1).mono fun r w2 ⟨e1, h2⟩ => ?_
    by_cases hk : (i : Int) + 1 = K
    · refine Or.inr ⟨by rw [e1]; simp [hk], ?_⟩
      have e2 : cntK K L.length = (i : Int) + 1 := by
        unfold cntK
        by_cases h3 : 0 < K ∧ K < L.length
        · rw [if_pos h3]; omega
        · rw [if_neg h3]; omega
      rw [e2]
      exact h2
    · refine Or.inl ⟨by rw [e1]; simp [hk], ?_, fun m h1 h3 => ?_⟩
      · have : ((i + 1 : Nat) : Int) = (i : Int) + 1 := by omega
        rw [this]; exact h2
      · rcases Nat.lt_or_ge m (i + 1) with h4 | h4
        · exact hj.2 m h1 (by omega)
        · omega
  · have e2 : cntK K L.length = (L.length : Int) := by
      unfold cntK
      by_cases h3 : 0 < K ∧ K < L.length
      · exact absurd (by omega) (hj.2 K.toNat (by omega) (by omega))
      · rw [if_neg h3]
    rw [e2]
    exact hj.1
end Go.Proofs.YtlhieohjabbgdaaGreatDoorR.Tr
