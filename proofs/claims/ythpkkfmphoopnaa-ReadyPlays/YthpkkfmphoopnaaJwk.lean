/- The contracts of Wake, New and Clone, of every call of nobody, and of the law's awake; no conditions but those that each states. -/
import Derived.Test.YthpkkfmphoopnaaJpk
import Derived.Shelf.SlMaps.Clone
namespace Go.Proofs.Ythpkkfmphoopnaa.Re
open Go.RowKit Go.Maps Go.ChangeMaps
set_option linter.unusedVariables false
set_option linter.unusedSimpArgs false
section
variable {w : World} {b N : Nat} {F : List Nat} {S : Rz}
theorem eqM (W : World) (m : Option Nat) : (binOp .eql 57 (.map m) (.map none)).run Try.prog W = .ok (.bool m.isNone) W := by
  have := run_eql_map_nil_sl (P := Try.prog) W 57 _ _ m Try.underlying57
  cases m <;> simpa using this
set_option maxHeartbeats 4000000 in
theorem wake_ (h : Rq w b F S N) (x : Int) (hx : W64 x) : Calls Try.prog 18 #[PT b, .int .i64 x] w fun e w' => e = .returned (.int .i64 (wakeE S x)) ∧ RqE w w' b F (wakeS S x) N := by
  have HS : Hid (∀ w', Touch [] w w' → RqE w w' b F S N) := hid (fun w' T => ⟨F, h.keep0 T, T.mono (fun _ e => by cases e), Nf.refl _ _⟩)
  obtain ⟨v, u, m, t, rfl, h1, hv⟩ := h
  have HH := hid (has_ h1 x hx)
  by_cases hi : x ∈ S.ln
  · have e0 : wakeE S x = 40 := by unfold wakeE; rw [if_pos hi]
    have e1 : wakeS S x = S := by unfold wakeS; rw [if_neg (by rw [e0]; decide)]
    rw [e1, e0]
    rw [show decide (x ∈ S.ln) = true by simp [hi]] at HH
    clear h1 hv e1 e0 hi
    unfold PT at *
    go_enter Try.func18, Try.ntmps18
    go_wp2_with (go_at_call 24; refine HH.out.mono ?_; rintro e w1 ⟨rfl, t1⟩; have T1 := hid t1; clear t1)
    go_ret
    exact ⟨rfl, HS.out _ T1.out⟩
  · rw [show decide (x ∈ S.ln) = false by simp [hi]] at HH
    have HL := hid (fun w' (T : Touch [] w w') => len_ (h1.keep0 T))
    by_cases hful : 65536 ≤ S.ln.length
    · have e0 : wakeE S x = 3 := by unfold wakeE; rw [if_neg hi, if_pos hful]
      have e1 : wakeS S x = S := by unfold wakeS; rw [if_neg (by rw [e0]; decide)]
      rw [e1, e0]
      obtain ⟨n, hn⟩ : ∃ n : Int, n = (S.ln.length : Int) := ⟨_, rfl⟩
      rw [← hn] at HL
      have hf : 65536 ≤ n := by omega
      clear h1 hv e1 e0 hi hful hn
      unfold PT at *
      go_enter Try.func18, Try.ntmps18
      go_wp2_with (first
        | (go_at_call 24; refine HH.out.mono ?_; rintro e w1 ⟨rfl, t1⟩; have T1 := hid t1; clear t1)
        | (go_at_call 26; refine (HL.out _ T1.out).mono ?_; rintro e w2 ⟨rfl, e2⟩; rw [e2]; clear e2 w2))
      go_ret
      exact ⟨rfl, HS.out _ T1.out⟩
    · have e0 : wakeE S x = 0 := by unfold wakeE; rw [if_neg hi, if_neg hful]
      rw [e0]
      have HF := hid (fun w1 (T : Touch [] w w1) w2 d => @wake_fin w1 b N S v u t m (h1.keep0 T) hv x hx e0 w2 d)
      have HRE : Hid (∀ w1 w5, Touch [] w w1 → RqE w1 w5 b (fpR b v u m t) (wakeS S x) N → RqE w w5 b (fpR b v u m t) (wakeS S x) N) := hid (fun w1 w5 T => by
        rintro ⟨F', q1, q2, q3⟩
        refine ⟨F', q1, (T.mono (fun _ e => by cases e)).trans q2 (fun q hq => Or.inl hq), fun q hq => ?_⟩
        have hz := T.size
        rcases q3 q hq with e | e
        · exact Or.inl e
        · exact Or.inr (by omega))
      have HB : Hid (∀ w1, Touch [] w w1 → w1.heap[b]? = some (.cells (rc S v u m t) 59 (0, 0))) := hid (fun w1 T => T.keep h1.hb (by simp))
      have HM : Hid (∀ w1, Touch [] w w1 → Mp w1 m S.ln) := hid (fun w1 T => h1.mp.keep T (fun _ _ e => by cases e))
      have HNI := hid hi
      have HLE : Hid (S.ln.length < 65536) := hid (by omega)
      obtain ⟨n, hn⟩ : ∃ n : Int, n = (S.ln.length : Int) := ⟨_, rfl⟩
      rw [← hn] at HL
      have hf : n < 65536 := by omega
      have HX := hid hx
      have hEq := eqM
      have hmk0 := @run_makeMap Try.prog
      have hmm : ∀ W : World, Mp W m S.ln → m = none ∨ ∃ d, m = some d := fun W q => by rcases q with ⟨e, _⟩ | ⟨d, e, _⟩; exact Or.inl e; exact Or.inr ⟨d, e⟩
      rcases hmm w h1.mp with rfl | ⟨d, rfl⟩
      · clear h1 hv e0 hi hful hn hx hmm HS
        unfold PT at *
        go_enter Try.func18, Try.ntmps18
        go_upto_region 5 with (first
          | (go_at_call 24; refine HH.out.mono ?_; rintro e w1 ⟨rfl, t1⟩; have T1 := hid t1; clear t1)
          | (go_at_call 26; refine (HL.out _ T1.out).mono ?_; rintro e w2 ⟨rfl, e2⟩; rw [e2]; clear e2 w2))
        have hb1 := HB.out _ T1.out
        have c4 := cell_at (j := 4) (v := .map none) hb1 rfl
        have cf := froz_at hb1
        have hlt := block_lt hb1
        have HB1 := hid hb1
        clear hb1
        go_upto_region 7 with fail
        obtain ⟨W2, hW2⟩ : ∃ W2, W2 = (w1.setCell ⟨b, 4, none⟩ (.map (some w1.heap.size))).alloc (.map #[] 0) := ⟨_, rfl⟩
        have T2 : Touch [b] w1 W2 := by rw [hW2]; exact ((Touch.refl _ _).setCell (Or.inl (by simp)) _).alloc _
        have hb2 : W2.heap[b]? = some (.cells (rc S v u (some w1.heap.size) t) 59 (0, 0)) := by
          rw [hW2]
          refine ((Touch.refl [] _).alloc (.map #[] 0)).keep ?_ (by simp)
          have := bset (i := 4) HB1.out (.map (some w1.heap.size))
          simpa [rc] using this
        have eln : S.ln = [] := by rcases HM.out _ T1.out with ⟨_, e⟩ | ⟨d, e, _⟩; exact e; cases e
        have hmk : MapK KI W2 w1.heap.size S.ln.length (kmap S.ln) := by
          rw [hW2, eln]
          have h0 := (mapK_made KI (w1.setCell ⟨b, 4, none⟩ (.map (some w1.heap.size)))).congr (g := kmap []) (fun k hk => by simp [kmap])
          have e1 : (w1.setCell ⟨b, 4, none⟩ (.map (some w1.heap.size))).heap.size = w1.heap.size := by simp
          rw [e1] at h0
          exact h0
        rw [← hW2]
        clear hW2 c4 cf
        obtain ⟨ob, hset, hm3⟩ := Mp.put hmk HX.out HNI.out (by have := HLE.out; omega)
        obtain ⟨W3, hW3⟩ : ∃ W3, W3 = setBlock W2 w1.heap.size ob := ⟨_, rfl⟩
        rw [← hW3] at hset hm3
        have T3 : Touch [w1.heap.size] W2 W3 := by rw [hW3]; exact touch_setBlock (Touch.refl _ _) (Or.inl (by simp)) ob
        have hb3 := T3.keep hb2 (by simp; omega)
        obtain ⟨a3, c3, e3, y3, q5, q6⟩ := HF.out w1 T1.out W3 w1.heap.size (by simp) ((T2.mono (by simp)).trans T3 (fun q hq => Or.inl (by simp at hq; simp [hq]))) hb3 hm3
        have Q5 := hid q5
        have Q6 := hid q6
        have x4 := cell_at (j := 4) (v := .map (some w1.heap.size)) hb2 rfl
        clear hmk hm3 T3 hb3 q5 q6 HF T2 hb2 hW3 eln HM HB HB1
        subst e3
        go_upto_region 8 with fail
        clear hset x4
        go_wp2_with (at_builtin; refine wpList_append_ow rfl _ _ rfl 0 _ S.ln rfl (Q5.out _) _ [x] rfl (ra_new _ _) (by have := HLE.out; simp; omega) (Nat.zero_le _) ?_; intro v5 w5 o5 t5 e5; obtain ⟨y6, y7, q7⟩ := Q6.out _ _ _ o5 t5 e5; obtain ⟨a5, c5, e6, _⟩ := o5.form; subst e6; have Q7 := hid (HRE.out _ _ T1.out q7); clear o5 t5 e5 q7)
        go_ret
        exact ⟨rfl, (by have := Q7.out; rwa [List.length_append, List.length_singleton] at this)⟩
      · clear h1 hv e0 hi hful hn hx hmm HS
        unfold PT at *
        go_enter Try.func18, Try.ntmps18
        go_upto_region 5 with (first
          | (go_at_call 24; refine HH.out.mono ?_; rintro e w1 ⟨rfl, t1⟩; have T1 := hid t1; clear t1)
          | (go_at_call 26; refine (HL.out _ T1.out).mono ?_; rintro e w2 ⟨rfl, e2⟩; rw [e2]; clear e2 w2))
        have hb2 := HB.out _ T1.out
        have hmk : MapK KI w1 d S.ln.length (kmap S.ln) := by rcases HM.out _ T1.out with ⟨e, _⟩ | ⟨d', e, q⟩; cases e; cases e; exact q
        have hne : b ≠ d := by
          intro e
          obtain ⟨es, cl, hk⟩ := hmk.kind
          rw [← e, hb2] at hk
          cases hk
        obtain ⟨ob, hset, hm3⟩ := Mp.put hmk HX.out HNI.out (by have := HLE.out; omega)
        obtain ⟨W3, hW3⟩ : ∃ W3, W3 = setBlock w1 d ob := ⟨_, rfl⟩
        rw [← hW3] at hset hm3
        have T3 : Touch [d] w1 W3 := by rw [hW3]; exact touch_setBlock (Touch.refl _ _) (Or.inl (by simp)) ob
        have hb3 := T3.keep hb2 (by simp; omega)
        obtain ⟨a3, c3, e3, y3, q5, q6⟩ := HF.out w1 T1.out W3 d (by simp) (T3.mono (fun q hq => by simp at hq; simp [hq])) hb3 hm3
        have Q5 := hid q5
        have Q6 := hid q6
        have x4 := cell_at (j := 4) (v := .map (some d)) hb2 rfl
        clear hmk hm3 T3 hb3 q5 q6 HF hb2 hW3 HM HB hne
        subst e3
        go_upto_region 8 with fail
        clear hset x4
        go_wp2_with (at_builtin; refine wpList_append_ow rfl _ _ rfl 0 _ S.ln rfl (Q5.out _) _ [x] rfl (ra_new _ _) (by have := HLE.out; simp; omega) (Nat.zero_le _) ?_; intro v5 w5 o5 t5 e5; obtain ⟨y6, y7, q7⟩ := Q6.out _ _ _ o5 t5 e5; obtain ⟨a5, c5, e6, _⟩ := o5.form; subst e6; have Q7 := hid (HRE.out _ _ T1.out q7); clear o5 t5 e5 q7)
        go_ret
        exact ⟨rfl, (by have := Q7.out; rwa [List.length_append, List.length_singleton] at this)⟩
end
def newE (p : Int) (n : Nat) : Int := if p < 0 ∨ 4 < p then 220 else if 65536 < n then 3 else 0
def S0 (p : Int) (s : Nat) (k : List Int) : Rz := ⟨p, s, k, [], []⟩
def NwE (e : Ending) (w w' : World) (S : Rz) : Prop := ∃ b F, e = .returned (.tuple #[PT b, .int .i64 0]) ∧ Rq w' b F S 0 ∧ Touch [] w w' ∧ ∀ q, q ∈ F → w.heap.size ≤ q
theorem iv0 {p : Int} {s : Nat} {k : List Int} (h : newE p k.length = 0) (hs : s < 18446744073709551616) (hk : ∀ x ∈ k, W64 x) : Iv (S0 p s k) 0 := by
  unfold newE at h
  split at h
  · simp at h
  · split at h
    · simp at h
    · exact ⟨by show 0 ≤ p; omega, by show p ≤ 4; omega, hs, by show k.length ≤ 65536; omega, hk, by show 0 ≤ 65536; decide, fun x hx => (by cases hx), List.nodup_nil, Nat.le_refl _, fun x hx => (by cases hx)⟩
theorem new_rm {w w2 : World} {p : Int} {s : Nat} {k : List Int} {v : Value} (hv : Ow w2 w.heap.size v k) (t2 : Touch [] w w2) (hi : Iv (S0 p s k) 0) : NwE (.returned (.tuple #[PT w2.heap.size, .int .i64 0])) w (w2.alloc (.cells #[.int .i64 p, .int .u64 (s : Int), v, .slice none 0 0, .map none, .slice none 0 0] 59)) (S0 p s k) := by
  have ta : Touch [] w2 (w2.alloc (.cells #[.int .i64 p, .int .u64 (s : Int), v, .slice none 0 0, .map none, .slice none 0 0] 59)) := (Touch.refl _ _).alloc _
  refine ⟨w2.heap.size, fpR w2.heap.size v (.slice none 0 0) none (.slice none 0 0), rfl, ⟨v, .slice none 0 0, none, .slice none 0 0, rfl, ⟨heap_alloc_new w2 _, (hv.keep0 ta).base (Nat.zero_le _), Ow.nil _ _, Or.inl ⟨rfl, rfl⟩, Ow.nil _ _, ?_, ?_, ?_⟩, hi⟩, t2.trans' ta, fun q hq => ?_⟩
  · intro q hq e; cases e
  · intro q hq e; cases e
  · intro q hq e; cases e
  · rcases mem_fpR.1 hq with e | e | e | e | e
    · have := t2.size; omega
    · exact (hv.lt e).1
    · cases e
    · cases e
    · cases e
set_option maxHeartbeats 1000000 in
theorem new_ok (w : World) (p : Int) (s : Nat) (k : List Int) (v : Value) (hv : Ra w v k) (hs : s < 18446744073709551616) (hk : ∀ x ∈ k, W64 x) (h : newE p k.length = 0) : Calls Try.prog 7 #[.int .i64 p, .int .u64 (s : Int), v] w fun e w' => NwE e w w' (S0 p s k) := by
  have hi := iv0 h hs hk
  have HC := hid (copied_ w v k hv (by have := hi.k1; show k.length ≤ _; have e : k.length = (S0 p s k).pk.length := rfl; omega))
  have HF : Hid (∀ w2 v2, Ow w2 w.heap.size v2 k → Touch [] w w2 → NwE (.returned (.tuple #[PT w2.heap.size, .int .i64 0])) w (w2.alloc (.cells #[.int .i64 p, .int .u64 (s : Int), v2, .slice none 0 0, .map none, .slice none 0 0] 59)) (S0 p s k)) := hid (fun w2 v2 a1 a2 => new_rm a1 a2 hi)
  have hp1 : ¬ p < 0 := by have := hi.p1; show ¬ p < 0; have e : p = (S0 p s k).pol := rfl; omega
  have hp2 : p ≤ 4 := hi.p2
  obtain ⟨n, hn⟩ : ∃ n : Int, (k.length : Int) = n := ⟨_, rfl⟩
  have hk1 : n ≤ 65536 := by have := hi.k1; have e : k.length = (S0 p s k).pk.length := rfl; omega
  obtain ⟨a, c, rfl, _⟩ := hv.form
  unfold CpE at HC
  generalize S0 p s k = S1 at *
  clear h hi hk hs hv
  unfold PT at *
  go_enter Try.func7, Try.ntmps7
  go_wp2_with (go_at_call 27; refine HC.out.mono ?_; rintro e w2 ⟨a2, c2, rfl, q1, q2⟩; have Q := hid (HF.out _ _ q1 q2); clear q1 q2)
  exact bodyPost_ret (v := .tuple #[.pointer (some ⟨w2.heap.size, 0, none⟩), .int .i64 0]) (by simp [results, Try.results7, go_sem]) rfl Q.out
theorem new_no (w : World) (p : Int) (s : Nat) (k : List Int) (v : Value) (hv : Ra w v k) (h : newE p k.length ≠ 0) : Calls Try.prog 7 #[.int .i64 p, .int .u64 (s : Int), v] w fun e w' => e = .returned (.tuple #[.pointer none, .int .i64 (newE p k.length)]) ∧ w' = w := by
  obtain ⟨a, c, rfl, _⟩ := hv.form
  unfold newE at *
  by_cases h1 : p < 0 ∨ 4 < p
  · rw [if_pos h1]
    clear h hv
    rcases h1 with h1 | h1
    · go_enter Try.func7, Try.ntmps7
      go_wp2
      exact bodyPost_ret (v := .tuple #[.pointer none, .int .i64 220]) (by simp [results, Try.results7, go_sem]) rfl ⟨rfl, rfl⟩
    · have h0 : ¬ p < 0 := by omega
      go_enter Try.func7, Try.ntmps7
      go_wp2
      exact bodyPost_ret (v := .tuple #[.pointer none, .int .i64 220]) (by simp [results, Try.results7, go_sem]) rfl ⟨rfl, rfl⟩
  · rw [if_neg h1] at h ⊢
    have h2 : 65536 < k.length := by
      rcases Nat.lt_or_ge 65536 k.length with q | q
      · exact q
      · rw [if_neg (by omega)] at h; exact absurd rfl h
    rw [if_pos h2]
    obtain ⟨n, hn⟩ : ∃ n : Int, (k.length : Int) = n := ⟨_, rfl⟩
    have h3 : 65536 < n := by omega
    have h4 : ¬ p < 0 := by omega
    have h5 : p ≤ 4 := by omega
    clear h h1 h2 hv
    go_enter Try.func7, Try.ntmps7
    go_wp2
    exact bodyPost_ret (v := .tuple #[.pointer none, .int .i64 3]) (by simp [results, Try.results7, go_sem]) rfl ⟨rfl, rfl⟩
end Go.Proofs.Ythpkkfmphoopnaa.Re
