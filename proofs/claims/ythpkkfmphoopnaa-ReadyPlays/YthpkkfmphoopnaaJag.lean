/- What is done by an act of the law ReadyAgain, in plain words and in memory: the same is told with what was told as the schedule; no conditions but those that each states. -/
import Derived.Test.YthpkkfmphoopnaaJld
import Derived.Test.YthpkkfmphoopnaaJop
namespace Go.Proofs.Ythpkkfmphoopnaa.Re
open Go.RowKit Go.Maps Go.ChangeMaps
set_option linter.unusedVariables false
set_option linter.unusedSimpArgs false
def kq (a : ActR) : Int := (wrap64 (a.kd.tmod 7 + 7)).tmod 7
theorem kq_range (a : ActR) : 0 ≤ kq a ∧ kq a < 7 := by
  have h1 := Int.tmod_lt_of_pos a.kd (show (0 : Int) < 7 by decide)
  have h2 := Int.lt_tmod_of_pos a.kd (show (0 : Int) < 7 by decide)
  have e : wrap64 (a.kd.tmod 7 + 7) = a.kd.tmod 7 + 7 := by unfold wrap64; omega
  unfold kq
  rw [e]
  exact ⟨Int.tmod_nonneg 7 (show (0 : Int) ≤ a.kd.tmod 7 + 7 by omega), Int.tmod_lt_of_pos (a.kd.tmod 7 + 7) (show (0 : Int) < 7 by decide)⟩
def isP (a : ActR) : Bool := kq a == 3 || kq a == 4 || kq a == 6
def doneS (S : Rz) (a : ActR) : Rz := if isP a then pickS S else if kq a = 5 then restS S a.n else wakeS S a.n
def doneV (S : Rz) (a : ActR) : Int := if isP a then (if someB S then pickV S else -1) else if kq a = 5 then (if a.n ∈ S.ln then 1 else 0) else wakeE S a.n
set_option maxHeartbeats 2000000 in
theorem done_ {w : World} {b N : Nat} {F : List Nat} {S : Rz} (h : Rq w b F S N) (hN : N ≤ 8796093022208) (a : ActR) (ha : a.ok) : Calls Try.prog 20 #[PT b, .agg a.cs] w fun e w' => e = .returned (.int .i64 (doneV S a)) ∧ RqE w w' b F (doneS S a) (N + 1) := by
  obtain ⟨V, hV⟩ : ∃ V, V = w.alloc (.cells a.cs 38) := ⟨_, rfl⟩
  have tv : Touch [] w V := by rw [hV]; exact (Touch.refl _ _).alloc _
  have hbx : V.heap[w.heap.size]? = some (.cells a.cs 38 (0, 0)) := by rw [hV]; exact heap_alloc_new w _
  have HE : Hid (∀ w2 T M, RqE V w2 b F T M → M ≤ N + 1 → RqE w w2 b F T (N + 1)) := hid (fun w2 T M => by
    rintro ⟨F', q1, q2, q3⟩ hM
    refine ⟨F', q1.mono hM, (tv.mono (fun _ e => by cases e)).trans q2 (fun q hq => Or.inl hq), fun q hq => ?_⟩
    have := tv.size
    rcases q3 q hq with e | e
    · exact Or.inl e
    · exact Or.inr (by omega))
  have hq := h.keep0 tv
  have HP := hid (pick_ hq hN)
  have HR := hid (rest_ hq a.n ha.2)
  have HW := hid (wake_ hq a.n ha.2)
  have i0 := cell_at (j := 0) (v := .int .i64 a.kd) hbx rfl
  have i1 := cell_at (j := 1) (v := .int .i64 a.n) hbx rfl
  have hk := kq_range a
  clear h hN ha tv hbx hq
  unfold ActR.cs at *
  unfold PT at *
  unfold doneS doneV
  cases hp : isP a
  · have h3 : (kq a == 3) = false ∧ (kq a == 4) = false ∧ (kq a == 6) = false := by unfold isP at hp; simp at hp; simp [hp]
    obtain ⟨k3, k4, k6⟩ := h3
    simp only [Bool.false_eq_true, if_false]
    by_cases h5 : kq a = 5
    · rw [if_pos h5, if_pos h5]
      have k5 : (kq a == 5) = true := by simp [h5]
      clear h5 hp HP HW hk
      by_cases hm : a.n ∈ S.ln
      · rw [if_pos hm]
        rw [show decide (a.n ∈ S.ln) = true by simp [hm]] at HR
        clear hm
        go_enter Try.func20, Try.ntmps20
        go_upto_region 1 with fail
        rw [← hV]
        clear hV
        go_upto_block 0 with fail
        rw [show (wrap64 (a.kd.tmod 7 + 7)).tmod 7 = kq a from rfl]
        generalize kq a = kk at *
        go_wp2_with (go_at_call 14; refine HR.out.mono ?_; rintro e w2 ⟨rfl, q2⟩; have Q2 := hid (HE.out _ _ _ q2 (Nat.le_succ N)); clear q2)
        go_ret
        exact ⟨rfl, Q2.out⟩
      · rw [if_neg hm]
        rw [show decide (a.n ∈ S.ln) = false by simp [hm]] at HR
        clear hm
        go_enter Try.func20, Try.ntmps20
        go_upto_region 1 with fail
        rw [← hV]
        clear hV
        go_upto_block 0 with fail
        rw [show (wrap64 (a.kd.tmod 7 + 7)).tmod 7 = kq a from rfl]
        generalize kq a = kk at *
        go_wp2_with (go_at_call 14; refine HR.out.mono ?_; rintro e w2 ⟨rfl, q2⟩; have Q2 := hid (HE.out _ _ _ q2 (Nat.le_succ N)); clear q2)
        go_ret
        exact ⟨rfl, Q2.out⟩
    · rw [if_neg h5, if_neg h5]
      have k5 : (kq a == 5) = false := by simp [h5]
      clear h5 hp HP HR hk
      go_enter Try.func20, Try.ntmps20
      go_upto_region 1 with fail
      rw [← hV]
      clear hV
      go_upto_block 0 with fail
      rw [show (wrap64 (a.kd.tmod 7 + 7)).tmod 7 = kq a from rfl]
      generalize kq a = kk at *
      go_wp2_with (go_at_call 18; refine HW.out.mono ?_; rintro e w2 ⟨rfl, q2⟩; have Q2 := hid (HE.out _ _ _ q2 (Nat.le_succ N)); clear q2)
      go_ret
      exact ⟨rfl, Q2.out⟩
  · simp only [if_true]
    have h3 : (kq a == 3) = true ∨ ((kq a == 3) = false ∧ (kq a == 4) = true) ∨ ((kq a == 3) = false ∧ (kq a == 4) = false ∧ (kq a == 6) = true) := by
      unfold isP at hp
      cases e3 : (kq a == 3) <;> cases e4 : (kq a == 4) <;> simp_all
    clear hp HR HW hk
    generalize pickV S = pv at *
    generalize pickS S = ps at *
    rcases (by cases someB S <;> simp : someB S = false ∨ someB S = true) with hs | hs
    · rw [hs] at HP ⊢
      simp only [Bool.false_eq_true, if_false]
      clear hs
      go_enter Try.func20, Try.ntmps20
      go_upto_region 1 with fail
      rw [← hV]
      clear hV
      go_upto_block 0 with fail
      rw [show (wrap64 (a.kd.tmod 7 + 7)).tmod 7 = kq a from rfl]
      generalize kq a = kk at *
      rcases h3 with k3 | ⟨k3, k4⟩ | ⟨k3, k4, k6⟩
      all_goals
        go_wp2_with (go_at_call 11; refine HP.out.mono ?_; rintro e w2 ⟨rfl, q2⟩; have Q2 := hid (HE.out _ _ _ q2 (Nat.le_refl _)); clear q2)
        go_ret
        exact ⟨rfl, Q2.out⟩
    · rw [hs] at HP ⊢
      simp only [if_true]
      clear hs
      go_enter Try.func20, Try.ntmps20
      go_upto_region 1 with fail
      rw [← hV]
      clear hV
      go_upto_block 0 with fail
      rw [show (wrap64 (a.kd.tmod 7 + 7)).tmod 7 = kq a from rfl]
      generalize kq a = kk at *
      rcases h3 with k3 | ⟨k3, k4⟩ | ⟨k3, k4, k6⟩
      all_goals
        go_wp2_with (go_at_call 11; refine HP.out.mono ?_; rintro e w2 ⟨rfl, q2⟩; have Q2 := hid (HE.out _ _ _ q2 (Nat.le_refl _)); clear q2)
        go_ret
        exact ⟨rfl, Q2.out⟩
def runS (S : Rz) : List ActR → Rz
  | [] => S
  | a :: l => runS (doneS S a) l
def runV (S : Rz) : List ActR → List Int
  | [] => []
  | a :: l => doneV S a :: runV (doneS S a) l
theorem runS_snoc (S : Rz) (l : List ActR) (a : ActR) : runS S (l ++ [a]) = doneS (runS S l) a := by
  induction l generalizing S with
  | nil => rfl
  | cons x l ih => exact ih _
theorem runV_snoc (S : Rz) (l : List ActR) (a : ActR) : runV S (l ++ [a]) = runV S l ++ [doneV (runS S l) a] := by
  induction l generalizing S with
  | nil => rfl
  | cons x l ih => show doneV S x :: runV _ (l ++ [a]) = _; rw [ih]; rfl
theorem runV_len (S : Rz) (l : List ActR) : (runV S l).length = l.length := by
  induction l generalizing S with
  | nil => rfl
  | cons x l ih => show (runV _ l).length + 1 = _; rw [ih]; rfl
theorem done_tl (S : Rz) (a : ActR) : (doneS S a).tl = if isP a ∧ S.ln ≠ [] then S.tl ++ [((placeS S).1 : Int)] else S.tl := by
  unfold doneS
  cases hp : isP a
  · simp only [Bool.false_eq_true, if_false, false_and]
    split
    · unfold restS outS; split <;> rfl
    · unfold wakeS; split <;> rfl
  · simp only [if_true, true_and]
    unfold pickS
    by_cases h : S.ln = []
    · rw [if_pos h, if_neg (by simp [h])]
    · rw [if_neg h, if_pos h]
theorem done_pre (S : Rz) (a : ActR) : S.tl <+: (doneS S a).tl := by
  rw [done_tl]
  split
  · exact List.prefix_append _ _
  · exact List.prefix_rfl
theorem run_pre (S : Rz) (l : List ActR) : S.tl <+: (runS S l).tl := by
  induction l generalizing S with
  | nil => exact List.prefix_rfl
  | cons x l ih => exact (done_pre S x).trans (ih _)
/-- The one with what was told as its schedule stands beside the first. -/
structure Sim (S O : Rz) (T : List Int) : Prop where
  ln : O.ln = S.ln
  tl : O.tl = S.tl
  pk : O.pk = T
theorem Sim.done {S O : Rz} {T : List Int} (h : Sim S O T) (a : ActR) (hp : (doneS S a).tl <+: T) : doneV O a = doneV S a ∧ Sim (doneS S a) (doneS O a) T := by
  unfold doneV doneS at *
  cases hi : isP a
  · simp only [hi, Bool.false_eq_true, if_false] at hp ⊢
    split
    · unfold restS outS
      rw [h.ln]
      refine ⟨rfl, ?_⟩
      split
      · exact ⟨rfl, h.tl, h.pk⟩
      · exact ⟨h.ln, h.tl, h.pk⟩
    · have e : wakeE O a.n = wakeE S a.n := by unfold wakeE; rw [h.ln]
      refine ⟨e, ?_⟩
      unfold wakeS
      rw [e]
      by_cases h0 : wakeE S a.n = 0
      · rw [if_pos h0, if_pos h0]
        exact ⟨by show O.ln ++ _ = _; rw [h.ln], h.tl, h.pk⟩
      · rw [if_neg h0, if_neg h0]
        exact ⟨h.ln, h.tl, h.pk⟩
  · simp only [hi, if_true] at hp ⊢
    unfold someB pickV pickS at *
    by_cases hne : S.ln = []
    · rw [h.ln]
      simp only [hne, if_true]
      exact ⟨by simp, ⟨by rw [h.ln, hne], h.tl, h.pk⟩⟩
    · rw [if_neg hne] at hp
      have hlt := place_lt hne
      have h1 : S.tl.length < T.length := by
        have := hp.length_le
        simp only [List.length_append, List.length_singleton] at this
        omega
      have h2 : T[S.tl.length] = ((placeS S).1 : Int) := by
        have := hp.getElem (i := S.tl.length) (by simp)
        rw [← this]
        simp
      have e : (placeS O).1 = (placeS S).1 := by
        have h3 : O.tl.length < O.pk.length := by rw [h.tl, h.pk]; exact h1
        have h4 : (placeS O).1 = aroundN O.pk[O.tl.length] O.ln.length := by
          conv => lhs; unfold placeS
          rw [dif_pos h3]
        rw [h4]
        have h5 : O.pk[O.tl.length] = ((placeS S).1 : Int) := by
          rw [← h2]
          congr 1
          · exact h.pk
          · rw [h.tl]
        rw [h5, h.ln]
        unfold aroundN
        rw [Int.emod_eq_of_lt (by omega) (by omega)]
        simp
      rw [h.ln, if_neg hne, if_neg hne, if_neg hne, if_neg hne, e]
      exact ⟨rfl, ⟨rfl, by show O.tl ++ _ = _; rw [h.tl], h.pk⟩⟩
end Go.Proofs.Ythpkkfmphoopnaa.Re
