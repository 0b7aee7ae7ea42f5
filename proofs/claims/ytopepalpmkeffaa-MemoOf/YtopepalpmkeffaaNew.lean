/- Contracts of New and of awake, and of what a nil memo answers; no conditions but those that each states. -/
import Derived.Test.YtopepalpmkeffaaKep
import Derived.Test.YtopepalpmkeffaaChk
namespace Go.Proofs.Ytopepalpmkeffaa
open Go.RowKit Go.Sort Go.Maps Go.ChangeMaps Go.WideMaps
set_option linter.unusedVariables false
set_option linter.unusedSimpArgs false
def cbx (c : Cf) (t : Nat) : Obj := .cells #[.int .i64 c.t, .int .i64 c.n, .int .i64 c.s, .int .i64 c.e, .int .i64 c.f, .int .i64 c.b, .int .i64 c.d] t
structure C7 (w : World) (r : Nat) (c : Cf) : Prop where
  c0 : w.cell? ⟨r, 0, none⟩ = some (.int .i64 c.t)
  c1 : w.cell? ⟨r, 1, none⟩ = some (.int .i64 c.n)
  c2 : w.cell? ⟨r, 2, none⟩ = some (.int .i64 c.s)
  c3 : w.cell? ⟨r, 3, none⟩ = some (.int .i64 c.e)
  c4 : w.cell? ⟨r, 4, none⟩ = some (.int .i64 c.f)
  c5 : w.cell? ⟨r, 5, none⟩ = some (.int .i64 c.b)
  c6 : w.cell? ⟨r, 6, none⟩ = some (.int .i64 c.d)
theorem C7.mk' {w : World} {r t : Nat} {c : Cf} (h : w.heap[r]? = some (cbx c t)) : C7 w r c := by
  unfold cbx at h
  constructor <;> simp [World.cell?, h]
theorem new9_no (w : World) (c : Cf) (hc : okC c = false) : Calls Try.prog 9 #[cv c] w fun e w' => e = .returned (.tuple #[.pointer none, .int .i64 100]) ∧ Touch [] w w' := by
  have HC := hid (fun w => check12 w c)
  rw [hc] at HC
  unfold cv at *
  simp only [Bool.false_eq_true, if_false] at HC
  go_enter Try.func9, Try.ntmps9
  go_wp2_with (go_at_call 12; refine (HC.out _).mono ?_; rintro e w2 ⟨rfl, t2⟩; have T2 := hid t2; clear t2)
  exact bodyPost_ret (v := .tuple #[.pointer none, .int .i64 100]) (by simp [results, Try.results9, go_sem]) rfl ⟨rfl, ((Touch.refl _ _).alloc _).trans' T2.out⟩
def NwQ (w : World) (c : Cf) (m : Nat) (w' : World) : Prop := ∃ F, Mq w' m F c 0 [] ∧ (∀ k ∈ F, w.heap.size ≤ k) ∧ Touch [] w w'
set_option maxHeartbeats 1000000 in
theorem new9_ok (w : World) (c : Cf) (hc : okC c = true) (wc : c.t ≤ 9223372036854775807 ∧ c.n ≤ 9223372036854775807 ∧ c.s ≤ 9223372036854775807) :
    Calls Try.prog 9 #[cv c] w fun e w' => ∃ m, e = .returned (.tuple #[PT m, .int .i64 0]) ∧ NwQ w c m w' := by
  have HC := hid (fun w => check12 w c)
  rw [hc] at HC
  simp only [if_true] at HC
  obtain ⟨e0, e1⟩ := okC_e hc
  have HO := hid (fun w => new6_ok w c.e e0 e1)
  have TB : Touch [] w (w.alloc (cbx c 23)) := (Touch.refl _ _).alloc _
  have HB : Hid (∀ w2, Touch [] (w.alloc (cbx c 23)) w2 → C7 w2 w.heap.size c) := fun w2 t => C7.mk' (t.keep (heap_alloc_new w (cbx c 23)) (by simp))
  have HE : Hid (∀ w2 w3, Touch [] (w.alloc (cbx c 23)) w2 → Od w3 w2.heap.size none c.e [] → Touch [] w2 w3 → NwQ w c (w3.heap.size + 1) ((w3.alloc (.map #[] 0)).alloc (.cells (mcs c 0 w3.heap.size w2.heap.size) 93))) := fun w2 w3 t2 o3 t3 => by
    have hz2 := t2.size
    have hz3 := t3.size
    rw [World.size_alloc] at hz2
    have t4 : Touch [] w3 ((w3.alloc (.map #[] 0)).alloc (.cells (mcs c 0 w3.heap.size w2.heap.size) 93)) := ((Touch.refl _ _).alloc _).alloc _
    have oq3 : Oq w3 w2.heap.size [w2.heap.size] c.e [] := ⟨none, [], rfl, rfl, o3⟩
    have olt := oq3.lt w2.heap.size (by simp)
    refine ⟨[w3.heap.size + 1, w3.heap.size, w2.heap.size], ⟨w3.heap.size, w2.heap.size, [w2.heap.size], rfl, ?_, ?_, oq3.keep0 t4, ⟨hc, wc, Int.le_refl _, by show (0 : Int) ≤ MT; unfold MT; decide, fun x hx => (by cases hx), by simpa using e0⟩, by simp; omega⟩, fun k hk => ?_, ((TB.trans' t2).trans' t3).trans' t4⟩
    · have := heap_alloc_new (w3.alloc (.map #[] 0)) (.cells (mcs c 0 w3.heap.size w2.heap.size) 93)
      rw [World.size_alloc] at this
      exact this
    · refine MapAt.kept (w := w3.alloc (.map #[] 0)) ?_ (Below.heap_alloc _ _ _ (by simp))
      exact (mapAt_made w3).congr (fun _ _ => rfl)
    · simp only [List.mem_cons, List.not_mem_nil, or_false] at hk
      omega
  have hmm := @run_makeMap Try.prog
  clear hc wc e0 e1 TB
  unfold mcs cbx PT at *
  unfold cv at *
  go_enter Try.func9, Try.ntmps9
  go_wp2_with (first
    | (go_at_call 12; refine (HC.out _).mono ?_; rintro e w2 ⟨rfl, t2⟩; have T2 := hid t2; obtain ⟨c0, c1, c2, c3, c4, c5, c6⟩ := HB.out _ t2; clear t2)
    | (go_at_call 29; refine (HO.out _).mono ?_; rintro e w3 ⟨rfl, o3, t3⟩; have O3 := hid o3; have T3 := hid t3; clear c0 c1 c2 c3 c4 c5 c6; obtain ⟨c0, c1, c2, c3, c4, c5, c6⟩ := HB.out _ (T2.out.trans' t3); clear o3 t3))
  exact bodyPost_ret (v := .tuple #[.pointer (some ⟨w3.heap.size + 1, 0, none⟩), .int .i64 0]) (by simp [results, Try.results9, go_sem]) rfl ⟨_, rfl, HE.out _ _ T2.out O3.out T3.out⟩
def ca : Cf := ⟨5, 2, 3, 2, 1, 1, 0⟩
theorem ca_ok : okC ca = true := by decide
theorem aw1 : keepE 0 10 ka (7, 0, 0, 0) = 0 ∧ kpB ca 0 10 ka (7, 0, 0, 0) = true ∧ kpN 0 10 ka (7, 0, 0, 0) = 10 ∧ kpX ca 0 10 [] ka (7, 0, 0, 0) = [(ka, (7, 0, 0, 0), 10)] := by decide
theorem aw2 : askE 10 14 ka = 0 ∧ askR ca 10 14 [(ka, (7, 0, 0, 0), 10)] ka = (1, 4, (7, 0, 0, 0)) ∧ askN 10 14 ka = 14 := by decide
theorem eqs (w : World) (a b c d e f : Int) : (binOp .eql 75 (.agg #[.int .i64 a, .int .i64 b, .int .i64 c, .int .i64 d, .int .i64 e, .int .i64 f]) (.agg #[.int .i64 a, .int .i64 b, .int .i64 c, .int .i64 d, .int .i64 e, .int .i64 f])).run Try.prog w = .ok (.bool true) w := by go_simp
set_option maxHeartbeats 1000000 in
theorem awake8 (w : World) : Calls Try.prog 8 #[] w fun e w' => e = .returned (.bool true) ∧ Touch [] w w' := by
  have HN := hid (new9_ok w ca ca_ok (by decide))
  have HK : Hid (∀ m w2, NwQ w ca m w2 → Calls Try.prog 18 #[PT m, .int .i64 10, kv ka, ov (7, 0, 0, 0)] w2 fun e w' => ∃ u, e = .returned (.tuple #[.bool true, u, .int .i64 0]) ∧ ∃ F, Mq w' m F ca 10 [(ka, (7, 0, 0, 0), 10)] ∧ (∀ k ∈ F, w.heap.size ≤ k) ∧ Touch [] w w') := fun m w2 q => by
    obtain ⟨F, q1, q2, q3⟩ := q
    have := keepM w2 m F ca 0 10 [] q1 ka ok_a (7, 0, 0, 0)
    obtain ⟨a1, a2, a3, a4⟩ := aw1
    rw [a1, a2, a3, a4] at this
    refine this.mono ?_
    rintro e w3 ⟨u, rfl, _, F', c1, c2, c3⟩
    exact ⟨u, rfl, F', c1, fun k hk => (c3 k hk).elim (q2 k) (fun e => Nat.le_trans q3.size e), q3.trans c2 (fun i hi => Or.inr (q2 i hi))⟩
  have HL : Hid (∀ m w2, (∃ F, Mq w2 m F ca 10 [(ka, (7, 0, 0, 0), 10)] ∧ (∀ k ∈ F, w.heap.size ≤ k) ∧ Touch [] w w2) → Calls Try.prog 21 #[PT m, .int .i64 14, kv ka] w2 fun e w' => e = .returned (.tuple #[sv 1 4 (7, 0, 0, 0), .int .i64 0]) ∧ Touch [] w w') := fun m w2 q => by
    obtain ⟨F, q1, q2, q3⟩ := q
    have := lookM w2 m F ca 10 14 _ q1 ka ok_a
    obtain ⟨a1, a2, a3⟩ := aw2
    rw [a1, a2, a3] at this
    refine this.mono ?_
    rintro e w3 ⟨rfl, F', c1, c2, c3⟩
    exact ⟨rfl, q3.trans c2 (fun i hi => Or.inr (q2 i hi))⟩
  have eq := fun w => eqs w 1 4 7 0 0 0
  unfold PT kv ov at *
  unfold cv ca at HN
  unfold ka at HK HL
  unfold sv at HL
  simp only at HN HK HL
  go_enter Try.func8, Try.ntmps8
  go_wp2_with (first
    | (go_at_call 9; refine HN.out.mono ?_; rintro e w2 ⟨m, rfl, q2⟩; have Q2 := hid q2; clear q2)
    | (go_at_call 18; refine (HK.out _ _ Q2.out).mono ?_; rintro e w3 ⟨u, rfl, q3⟩; have Q3 := hid q3; clear q3)
    | (go_at_call 21; refine (HL.out _ _ Q3.out).mono ?_; rintro e w4 ⟨rfl, t4⟩; have T4 := hid t4; clear t4))
  go_ret
  exact ⟨rfl, T4.out.alloc _⟩
section
theorem look21_nil (w : World) (n : Int) (k : K) : Calls Try.prog 21 #[.pointer none, .int .i64 n, kv k] w fun e w' => e = .returned (.tuple #[sv 0 0 oz, .int .i64 100]) ∧ Touch [] w w' := by
  have H := hid (fun w => tick45_nil w n)
  unfold kv sv oz
  go_enter Try.func21, Try.ntmps21
  go_wp2_with (go_at_call 45; refine (H.out _).mono ?_; rintro e w2 ⟨rfl, e2⟩; rw [e2]; clear e2 w2)
  exact bodyPost_ret (v := .tuple #[.agg #[.int .i64 0, .int .i64 0, .int .i64 0, .int .i64 0, .int .i64 0, .int .i64 0], .int .i64 100]) (by simp [results, Try.results21, go_sem]) rfl ⟨rfl, ((Touch.refl _ _).alloc _).alloc _⟩
theorem tell22_nil (w : World) (n : Int) (k : K) : Calls Try.prog 22 #[.pointer none, .int .i64 n, kv k] w fun e w' => e = .returned (.tuple #[sv 0 0 oz, .int .i64 100]) ∧ Touch [] w w' := by
  obtain ⟨V, hV⟩ : ∃ V, V = (w.alloc (bx k)).alloc zbx := ⟨_, rfl⟩
  have TV : Hid (Touch [] w V) := by rw [hV]; exact ((Touch.refl _ _).alloc _).alloc _
  have hB : V.heap[w.heap.size]? = some (bx k) := by rw [hV]; exact (Below.heap_alloc _ _ _ (by simp)).trans (heap_alloc_new w _)
  have hZ : V.heap[w.heap.size + 1]? = some zbx := by
    rw [hV]
    have := heap_alloc_new (w.alloc (bx k)) zbx
    rwa [World.size_alloc] at this
  have HZ : Hid (∀ w2, Touch [] V w2 → Z6 (w2.alloc zbx) (w.heap.size + 1)) := fun w2 t => Z6.mk' ((t.alloc _).keep hZ (by simp))
  unfold bx at hB
  have b0 : V.cell? ⟨w.heap.size, 0, none⟩ = some (.int .u16 k.1) := by simp [World.cell?, hB]
  have b1 : V.cell? ⟨w.heap.size, 1, none⟩ = some (.string k.2) := by simp [World.cell?, hB]
  have H := hid (look21_nil V n k)
  clear hB hZ
  unfold kv sv oz at *
  unfold zbx at HZ
  go_enter Try.func22, Try.ntmps22
  go_upto_region 1 with fail
  unfold bx zbx at hV
  rw [← hV]
  clear hV
  go_wp2_with (go_at_call 21; refine H.out.mono ?_; rintro e w2 ⟨rfl, t2⟩; have T2 := hid t2; obtain ⟨z0, z1, z2, z3, z4, z5, f0, f1, f2, f3, f4, f5⟩ := HZ.out _ t2; clear t2)
  refine bodyPost_ret (v := .tuple #[.agg #[.int .i64 0, .int .i64 0, .int .i64 0, .int .i64 0, .int .i64 0, .int .i64 0], .int .i64 100]) (by simp [results, Try.results22, go_sem, z0, z1, z2, z3, z4, z5]) rfl ⟨rfl, ?_⟩
  refine ((TV.out.trans' T2.out).alloc (.cells #[.int .i64 0, .int .i64 0, .int .i64 0, .int .i64 0, .int .i64 0, .int .i64 0] 75)).trans (G := [w.heap.size + 1]) ?_ (fun i hi => by simp only [List.mem_singleton] at hi; subst hi; exact Or.inr (Nat.le_succ _))
  exact tset6 _ _ _ _ _ _ _ _
theorem keep18_nil (w : World) (n : Int) (k : K) (x : O) : Calls Try.prog 18 #[.pointer none, .int .i64 n, kv k, ov x] w fun e w' => e = .returned (.tuple #[.bool false, .slice none 0 0, .int .i64 100]) ∧ Touch [] w w' := by
  have H := hid (fun w => tick45_nil w n)
  unfold kv ov
  go_enter Try.func18, Try.ntmps18
  go_wp2_with (go_at_call 45; refine (H.out _).mono ?_; rintro e w2 ⟨rfl, e2⟩; rw [e2]; clear e2 w2)
  exact bodyPost_ret (v := .tuple #[.bool false, .slice none 0 0, .int .i64 100]) (by simp [results, Try.results18, go_sem]) rfl ⟨rfl, ((Touch.refl _ _).alloc _).alloc _⟩
theorem sweep23_nil (w : World) (n : Int) : Calls Try.prog 23 #[.pointer none, .int .i64 n] w fun e w' => e = .returned (.tuple #[.slice none 0 0, .int .i64 100]) ∧ w' = w := by
  have H := hid (fun w => tick45_nil w n)
  go_enter Try.func23, Try.ntmps23
  go_wp2_with (go_at_call 45; refine (H.out _).mono ?_; rintro e w2 ⟨rfl, e2⟩; rw [e2]; clear e2 w2)
  exact bodyPost_ret (v := .tuple #[.slice none 0 0, .int .i64 100]) (by simp [results, Try.results23, go_sem]) rfl ⟨rfl, rfl⟩
theorem get24_nil (w : World) (k : K) : Calls Try.prog 24 #[.pointer none, kv k] w fun e w' => e = .returned (.tuple #[nvz, .bool false]) ∧ Touch [] w w' := by
  unfold kv nvz
  go_enter Try.func24, Try.ntmps24
  go_wp2
  exact bodyPost_ret (v := .tuple #[.agg #[.int .u16 0, .string ⟨#[]⟩, .int .i64 0, .int .i64 0, .int .i64 0, .int .i64 0, .int .i64 0], .bool false]) (by simp [results, Try.results24, go_sem]) rfl ⟨rfl, ((Touch.refl _ _).alloc _).alloc _⟩
theorem drop25_nil (w : World) (k : K) : Calls Try.prog 25 #[.pointer none, kv k] w fun e w' => e = .returned (.bool false) ∧ Touch [] w w' := by
  unfold kv
  go_enter Try.func25, Try.ntmps25
  go_wp2
  go_ret
  exact ⟨rfl, (Touch.refl _ _).alloc _⟩
theorem all20_nil (w : World) : Calls Try.prog 20 #[.pointer none] w fun e w' => e = .returned (.slice none 0 0) ∧ Touch [] w w' := by
  go_enter Try.func20, Try.ntmps20
  go_wp2
  go_ret
  exact ⟨rfl, (Touch.refl _ _).alloc _⟩
theorem len19_nil (w : World) : Calls Try.prog 19 #[.pointer none] w fun e w' => e = .returned (.int .i64 0) ∧ w' = w := by
  go_enter Try.func19, Try.ntmps19
  go_wp2
  go_ret
  exact ⟨rfl, rfl⟩
theorem now26_nil (w : World) : Calls Try.prog 26 #[.pointer none] w fun e w' => e = .returned (.int .i64 0) ∧ w' = w := by
  go_enter Try.func26, Try.ntmps26
  go_wp2
  go_ret
  exact ⟨rfl, rfl⟩
def cz : Cf := ⟨0, 0, 0, 0, 0, 0, 0⟩
theorem config27_nil (w : World) : Calls Try.prog 27 #[.pointer none] w fun e w' => e = .returned (cv cz) ∧ Touch [] w w' := by
  unfold cv cz
  go_enter Try.func27, Try.ntmps27
  go_wp2
  exact bodyPost_ret (v := .agg #[.int .i64 0, .int .i64 0, .int .i64 0, .int .i64 0, .int .i64 0, .int .i64 0, .int .i64 0]) (by simp [results, Try.results27, go_sem]) rfl ⟨rfl, (Touch.refl _ _).alloc _⟩
theorem clone28_nil (w : World) : Calls Try.prog 28 #[.pointer none] w fun e w' => e = .returned (.pointer none) ∧ w' = w := by
  go_enter Try.func28, Try.ntmps28
  go_wp2
  go_ret
  exact ⟨rfl, rfl⟩
end
end Go.Proofs.Ytopepalpmkeffaa
