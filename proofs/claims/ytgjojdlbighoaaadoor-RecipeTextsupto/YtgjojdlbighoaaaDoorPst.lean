/- A recipe's text, read again, is the recipe; no conditions but that the steps may be. -/
import Derived.Test.YtgjojdlbighoaaaDoorTex
namespace Go.Proofs.YtgjojdlbighoaaaDoor
open Go.RowKit Go.Sort
set_option linter.unusedVariables false

theorem join_app (xs ys : List (List UInt8)) (hx : xs ≠ []) (hy : ys ≠ []) : Lib.join (xs ++ ys) [32] = Lib.join xs [32] ++ 32 :: Lib.join ys [32] := by
  cases xs with
  | nil => exact absurd rfl hx
  | cons x xs =>
    cases ys with
    | nil => exact absurd rfl hy
    | cons y ys =>
      rw [List.cons_append, Lib.join_cons, Lib.join_cons, Lib.join_cons]
      simp [Lib.joinTail, List.append_assoc]
theorem noSp_word (k : Nat) : noSp (kWord k).data.toList := by
  unfold kWord noSp
  split <;> decide
/-- the end of a word: nothing more, or a blank -/
def Tl (r : List UInt8) : Prop := r = [] ∨ ∃ r', r = 32 :: r'
theorem num_at (a r : List UInt8) (n lo hi : Int) (hn : I64 n) (h1 : lo ≤ n) (h2 : n ≤ hi) (hr : Tl r) (s : List UInt8) (hs : s = a ++ (32 :: (Lib.itoa n ++ r))) :
    numS s a.length lo hi = .inr (n, a.length + 1 + (Lib.itoa n).length) := by
  have hw : wd s (a.length + 1) = Lib.itoa n := by
    have := wd_at (a ++ [32]) (Lib.itoa n) r (noSp_itoa n) hr
    rw [hs]
    simpa using this
  have hl : a.length ≠ s.length := by rw [hs]; simp
  unfold numS
  rw [if_neg hl, hw, numV_itoa n hn]
  simp only []
  rw [if_pos ⟨h1, h2⟩]
theorem one_at (pre r : List UInt8) (x : Sp) (hw : I64 x.2.1 ∧ I64 x.2.2) (hm : may x) (hr : Tl r) :
    oneS (pre ++ (Lib.join ((wsX x.1.toNat x.2.1 x.2.2).map (·.data.toList)) [32] ++ r)) pre.length = .inr (x, pre.length + (Lib.join ((wsX x.1.toNat x.2.1 x.2.2).map (·.data.toList)) [32]).length) := by
  obtain ⟨op, a, b⟩ := x
  have hop := may_op hm
  obtain ⟨k, rfl⟩ : ∃ k : Nat, op = k := ⟨op.toNat, by omega⟩
  have hm2 := (may_iff k a b (by omega) (by omega) hw.1).1 hm
  simp only [Int.toNat_natCast]
  have hk1 : 1 ≤ k := by omega
  have hk2 : k ≤ 12 := by omega
  have hword := opW_word k hk1 hk2
  have hns := noSp_word k
  simp only [] at hw
  have hz : (kNamed k = 0 → a = 0 ∧ b = 0) ∧ (kNamed k = 1 → b = 0) := by
    rcases (by omega : k = 1 ∨ k = 2 ∨ k = 3 ∨ k = 4 ∨ k = 5 ∨ k = 6 ∨ k = 7 ∨ k = 8 ∨ k = 9 ∨ k = 10 ∨ k = 11 ∨ k = 12) with rfl | rfl | rfl | rfl | rfl | rfl | rfl | rfl | rfl | rfl | rfl | rfl <;> simp only [kNamed, kLa, kHa, kLb, kHb] at hm2 ⊢ <;> omega
  have hi : ∀ n, (itoaB n).data.toList = Lib.itoa n := fun n => by simp [itoaB]
  rcases (by have := named_le k; omega : kNamed k = 0 ∨ kNamed k = 1 ∨ kNamed k = 2) with hn | hn | hn
  · obtain ⟨rfl, rfl⟩ := hz.1 hn
    have hj : Lib.join ((wsX k 0 0).map (·.data.toList)) [32] = (kWord k).data.toList := by unfold wsX wsJ; rw [hn]; simp [Lib.join_one]
    rw [hj]
    have h1 := wd_at pre (kWord k).data.toList r hns hr
    unfold oneS
    simp only [h1, hword]
    rw [if_neg (by omega), if_pos hn]
  · obtain rfl := hz.2 hn
    have hj : Lib.join ((wsX k a 0).map (·.data.toList)) [32] = (kWord k).data.toList ++ 32 :: Lib.itoa a := by
      unfold wsX wsJ; rw [hn]; simp [Lib.join_cons, Lib.joinTail, hi]
    rw [hj]
    have h1 : wd (pre ++ ((kWord k).data.toList ++ 32 :: Lib.itoa a ++ r)) pre.length = (kWord k).data.toList := by
      have := wd_at pre (kWord k).data.toList (32 :: Lib.itoa a ++ r) hns (Or.inr ⟨_, rfl⟩)
      simpa using this
    have h2 := num_at (pre ++ (kWord k).data.toList) r a (kLa k) (kHa k) hw.1 hm2.1.1 hm2.1.2 hr (pre ++ ((kWord k).data.toList ++ 32 :: Lib.itoa a ++ r)) (by simp)
    rw [List.length_append] at h2
    unfold oneS
    simp only [h1, hword]
    rw [if_neg (by omega), if_neg (by omega), h2]
    simp only []
    rw [if_pos hn]
    simp only [List.length_append, List.length_cons]
    rw [show pre.length + ((kWord k).data.toList.length + ((Lib.itoa a).length + 1)) = pre.length + (kWord k).data.toList.length + 1 + (Lib.itoa a).length by omega]
  · have hj : Lib.join ((wsX k a b).map (·.data.toList)) [32] = (kWord k).data.toList ++ 32 :: (Lib.itoa a ++ 32 :: Lib.itoa b) := by
      unfold wsX wsJ; rw [hn]; simp [Lib.join_cons, Lib.joinTail, hi]
    rw [hj]
    have h1 : wd (pre ++ ((kWord k).data.toList ++ 32 :: (Lib.itoa a ++ 32 :: Lib.itoa b) ++ r)) pre.length = (kWord k).data.toList := by
      have := wd_at pre (kWord k).data.toList (32 :: (Lib.itoa a ++ 32 :: Lib.itoa b) ++ r) hns (Or.inr ⟨_, rfl⟩)
      simpa using this
    have h2 := num_at (pre ++ (kWord k).data.toList) (32 :: (Lib.itoa b ++ r)) a (kLa k) (kHa k) hw.1 hm2.1.1 hm2.1.2 (Or.inr ⟨_, rfl⟩) (pre ++ ((kWord k).data.toList ++ 32 :: (Lib.itoa a ++ 32 :: Lib.itoa b) ++ r)) (by simp)
    have h3 := num_at (pre ++ ((kWord k).data.toList ++ 32 :: Lib.itoa a)) r b (kLb k) (kHb k) hw.2 hm2.2.1 hm2.2.2 hr (pre ++ ((kWord k).data.toList ++ 32 :: (Lib.itoa a ++ 32 :: Lib.itoa b) ++ r)) (by simp)
    rw [List.length_append] at h2
    simp only [List.length_append, List.length_cons] at h3
    rw [show pre.length + ((kWord k).data.toList.length + ((Lib.itoa a).length + 1)) = pre.length + (kWord k).data.toList.length + 1 + (Lib.itoa a).length by omega] at h3
    unfold oneS
    simp only [h1, hword]
    rw [if_neg (by omega), if_neg (by omega), h2]
    simp only []
    rw [if_neg (by omega), h3]
    simp only [List.length_append, List.length_cons]
    rw [show pre.length + ((kWord k).data.toList.length + ((Lib.itoa a).length + ((Lib.itoa b).length + 1) + 1)) = pre.length + (kWord k).data.toList.length + 1 + (Lib.itoa a).length + 1 + (Lib.itoa b).length by omega]
theorem wsX_ne (k : Nat) (a b : Int) : wsX k a b ≠ [] := by unfold wsX wsJ; simp
theorem wsL_ne {L : List Sp} (h : L ≠ []) : wsL L ≠ [] := by
  cases L with
  | nil => exact absurd rfl h
  | cons x L =>
    rw [show x :: L = [x] ++ L from rfl, wsL_app, wsL_one]
    intro e
    exact wsX_ne _ _ _ (List.append_eq_nil_iff.1 e).1
theorem ps_text : ∀ (L : List Sp) (pre s : List UInt8), L ≠ [] → (∀ x ∈ L, may x) → WfS L → s = pre ++ Lib.join ((wsL L).map (·.data.toList)) [32] → Ps s pre.length (.inr L)
  | [], _, _, h, _, _, _ => absurd rfl h
  | [x], pre, s, _, hm, hw, hs => by
    rw [wsL_one] at hs
    have h1 := one_at pre [] x (hw x (by simp)).2 (hm x (by simp)) (Or.inl rfl)
    rw [List.append_nil, ← hs] at h1
    exact Ps.last h1 (by rw [hs]; simp)
  | x :: y :: L, pre, s, _, hm, hw, hs => by
    have ej : Lib.join ((wsL (x :: y :: L)).map (·.data.toList)) [32] = Lib.join ((wsX x.1.toNat x.2.1 x.2.2).map (·.data.toList)) [32] ++ 32 :: Lib.join ((wsL (y :: L)).map (·.data.toList)) [32] := by
      rw [show x :: y :: L = [x] ++ (y :: L) from rfl, wsL_app, wsL_one, List.map_append]
      exact join_app _ _ (by simp [wsX_ne]) (by simp [wsL_ne])
    rw [ej] at hs
    have h1 := one_at pre (32 :: Lib.join ((wsL (y :: L)).map (·.data.toList)) [32]) x (hw x (by simp)).2 (hm x (by simp)) (Or.inr ⟨_, rfl⟩)
    rw [← hs] at h1
    refine Ps.more h1 (by rw [hs]; simp) ?_
    have h2 := ps_text (y :: L) (pre ++ (Lib.join ((wsX x.1.toNat x.2.1 x.2.2).map (·.data.toList)) [32] ++ [32])) s (by simp) (fun z hz => hm z (by simp at hz ⊢; exact Or.inr hz)) (fun z hz => hw z (by simp at hz ⊢; exact Or.inr hz)) (by rw [hs]; simp)
    simp only [List.length_append, List.length_cons, List.length_nil] at h2
    rw [show pre.length + ((Lib.join ((wsX x.1.toNat x.2.1 x.2.2).map (·.data.toList)) [32]).length + (0 + 1)) = pre.length + (Lib.join ((wsX x.1.toNat x.2.1 x.2.2).map (·.data.toList)) [32]).length + 1 by omega] at h2
    exact h2
theorem pr_text {L : List Sp} (hg : Good L) (hw : WfS L) : PrR (textB L).data.toList L 0 0 := by
  by_cases h : L = []
  · subst h
    exact Or.inl ⟨rfl, rfl, rfl, rfl⟩
  · refine Or.inr ⟨?_, Or.inr (Or.inr ⟨ps_text L [] _ h hg.2 hw (by simp [textB]), hg.1, rfl, rfl⟩)⟩
    have hne := wsL_ne h
    show (Lib.join ((wsL L).map (·.data.toList)) [32]).toArray.toList ≠ []
    cases L with
    | nil => exact absurd rfl h
    | cons x L =>
      have hx := may_op (hg.2 x (by simp))
      obtain ⟨k, hk⟩ : ∃ k : Nat, x.1 = k := ⟨x.1.toNat, by omega⟩
      intro e
      have : wsL (x :: L) = kWord k :: ([itoaB x.2.1, itoaB x.2.2].take (kNamed k)) ++ wsL L := by
        rw [show x :: L = [x] ++ L from rfl, wsL_app, wsL_one, hk, Int.toNat_natCast]; rfl
      rw [this] at e
      simp [Lib.join_cons] at e
      have h0 := e.1
      rcases (by omega : k = 1 ∨ k = 2 ∨ k = 3 ∨ k = 4 ∨ k = 5 ∨ k = 6 ∨ k = 7 ∨ k = 8 ∨ k = 9 ∨ k = 10 ∨ k = 11 ∨ k = 12) with rfl | rfl | rfl | rfl | rfl | rfl | rfl | rfl | rfl | rfl | rfl | rfl <;> simp [kWord] at h0
end Go.Proofs.YtgjojdlbighoaaaDoor
