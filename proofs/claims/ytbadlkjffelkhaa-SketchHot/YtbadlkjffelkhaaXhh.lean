/- The contract of Hot; no conditions but those that it states. -/
import Derived.Test.YtbadlkjffelkhaaXhn
namespace Go.Proofs.Ytbadlkjffelkhaa.Sk
open Go.RowKit Go.Maps Go.ChangeMaps
set_option maxRecDepth 100000
set_option linter.unusedVariables false
set_option linter.unusedSimpArgs false
theorem own_addr {w : World} {base e k n c : Nat} {a : Option Addr} {xs : List Value} (h : w.ownsRow base e k (.slice a n c) n xs) : (a = none ∧ n = 0 ∧ c = 0) ∨ ∃ g, a = some ⟨g, 0, none⟩ ∧ base ≤ g ∧ n ≤ c ∧ c ≤ maxLen := by
  obtain ⟨h1, h2 | ⟨g', cap', cur, hv, hg, hc, hn, hm, hs, ht⟩⟩ := h
  · obtain ⟨h2, h3⟩ := h2
    cases h2
    exact Or.inl ⟨rfl, rfl, rfl⟩
  · cases hv
    exact Or.inr ⟨g', rfl, hg, hn, hm⟩
theorem sortAny {w : World} {base n c : Nat} {a : Option Addr} {s : List Ht} (h : w.ownsRow base 60 3 (.slice a n c) n (s.flatMap rowH)) (hn : n = s.length) (hl : n ≤ 5864062014635) :
    Calls Try.prog 38 #[.slice a n c, .func (.func 39) #[] #[]] w fun e w' => ∃ S : List Ht, e = .returned (.tuple #[]) ∧ S.Perm s ∧ S.Pairwise leH ∧ w'.ownsRow base 60 3 (.slice a n c) n (S.flatMap rowH) ∧ ∀ w0 : World, Touch [] w0 w → w0.heap.size ≤ base → Touch [] w0 w' := by
  haveI : Inhabited Ht := ⟨⟨(0, ⟨#[]⟩), 0⟩⟩
  subst hn
  rcases own_addr h with ⟨rfl, hn, rfl⟩ | ⟨g, rfl, hb, _, _⟩
  · have es : s = [] := List.length_eq_zero_iff.1 hn
    subst es
    refine (sort_0 _ w).mono ?_
    rintro e w' ⟨rfl, t⟩
    exact ⟨[], rfl, List.Perm.refl _, List.Pairwise.nil, own_touch h t (fun _ _ e => by cases e), fun w0 t0 _ => t0.trans' t⟩
  · refine (sortH w base g c s h hl).mono ?_
    rintro e w' ⟨S, rfl, h1, h2, h3, h4⟩
    refine ⟨S, rfl, h1, h2, ?_, fun w0 t0 hw => t0.trans h4 (fun z hz => Or.inr (by simp at hz; omega))⟩
    rw [h1.length_eq] at h3
    exact h3
theorem rs_take {w : World} {base n c m : Nat} {a : Option Addr} {S : List Ht} (h : w.ownsRow base 60 3 (.slice a n c) n (S.flatMap rowH)) (hn : n = S.length) (hm : m ≤ n) : Rs 60 3 w (.slice a m c) m ((S.take m).flatMap rowH) := by
  obtain ⟨h1, a', c', e, h2, h3, h4⟩ := Rs.of_own h
  cases e
  have ht : S.flatMap rowH = (S.take m).flatMap rowH ++ (S.drop m).flatMap rowH := by rw [← List.flatMap_append, List.take_append_drop]
  refine ⟨by rw [Go.Proofs.Ytbadlkjffelkhaa.flat_len rowH_len, List.length_take]; omega, a, c, rfl, by omega, h3, fun h0 => ?_⟩
  obtain ⟨g, off, e, cs, z, h5, h6⟩ := h4 (by omega)
  refine ⟨g, off, e, cs, z, h5, fun j u hu => h6 j u ?_⟩
  rw [ht, List.getElem?_append_left (List.getElem?_eq_some_iff.1 hu).1]
  exact hu
section
variable {w w' : World} {s g cap : Nat} {X : S}
theorem hot_no (k : Kq w s g cap X) (v : Value) (n : Int) (hn : n < 0) : Calls Try.prog 15 #[PT s, .int .i64 n, v] w fun e w' => e = .returned (.tuple #[.slice none 0 0, .int .i64 1]) ∧ w' = w := by
  clear k
  unfold PT
  go_enter Try.func15, Try.ntmps15
  go_wp2
  go_ret2
  exact ⟨rfl, rfl⟩
set_option maxHeartbeats 4000000 in
theorem hot_ (k : Kq w s g cap X) {v : Value} {xs : List K} (hs : Un.Sl w v xs) (ho : ∀ x ∈ xs, Ok x) (hl : xs.length * 24 ≤ 140737488351232) (n : Nat) : Calls Try.prog 15 #[PT s, .int .i64 n, v] w fun e w' => ∃ (S : List Ht) (a : Option Addr) (m c : Nat), e = .returned (.tuple #[.slice a m c, .int .i64 0]) ∧ S.Perm (hots X (Un.unl [] xs)) ∧ S.Pairwise leH ∧ m = min n S.length ∧ Rs 60 3 w' (.slice a m c) m ((S.take m).flatMap rowH) ∧ Touch [] w w' := by
  have HC := hid (counts_ k hs ho hl)
  have hlen : (hots X (Un.unl [] xs)).length ≤ 5864062014634 := by
    have h1 := hots_len X (Un.unl [] xs)
    have h2 := Un.unl_len [] xs
    simp at h2
    omega
  generalize hots X (Un.unl [] xs) = L at *
  have HLE := hid hlen
  clear k hs ho hl hlen
  unfold PT at *
  go_enter Try.func15, Try.ntmps15
  go_upto_region 4 with (go_at_call 37; refine HC.out.mono ?_; rintro e w1 ⟨a, N, c, rfl, hN, o1, t1⟩; have HS := hid (sortAny o1 hN (by have := HLE.out; omega)); have T1 := hid t1; have HN := hid hN; clear hN o1 t1 HC)
  go_upto_region 5 with (go_at_call 38; refine HS.out.mono ?_; rintro e w2 ⟨S, rfl, p1, p2, o2, t2⟩)
  have T2 := hid (t2 w T1.out (Nat.le_refl _))
  have HP := hid (And.intro p1 p2)
  have e2 : N = S.length := by rw [HN.out, p1.length_eq]
  clear t2 p1 p2 HS T1
  have hN5 : N ≤ 5864062014634 := by have := HLE.out; have := HN.out; omega
  obtain ⟨m, hm⟩ : ∃ m, m = (min (n : Int) (N : Int)).toNat := ⟨_, rfl⟩
  have hmm : m = min n N := by omega
  have hmN : m ≤ N := hmm ▸ Nat.min_le_right _ _
  have HCL := hid (cloneH_ (rs_take o2 e2 hmN) (by omega))
  have HE : Hid (m = min n S.length) := hid (by rw [← e2]; exact hmm)
  have ha := own_addr o2
  clear o2 HLE HN hmm e2
  rcases ha with ⟨rfl, rfl, rfl⟩ | ⟨b, rfl, -, hc, hcm⟩
  · have em : m = 0 := by omega
    subst em
    have hmin : min (n : Int) 0 = 0 := by omega
    clear hmN hm
    go_wp2_with (go_at_call 40; refine HCL.out.mono ?_; rintro e w3 ⟨a', c', rfl, r3, t3⟩; have R3 := hid (And.intro r3 t3); clear r3 t3)
    go_ret2
    exact ⟨S, a', _, c', rfl, HP.out.1, HP.out.2, HE.out, R3.out.1, T2.out.trans' R3.out.2⟩
  · unfold maxLen at hcm
    have q1 : 0 ≤ min (n : Int) (N : Int) := by omega
    have q2 : min (n : Int) (N : Int) ≤ (c : Int) := by omega
    rw [hm] at HCL
    have HM := hid hm
    clear hm hmN
    go_wp2_with (go_at_call 40; refine HCL.out.mono ?_; rintro e w3 ⟨a', c', rfl, r3, t3⟩; have R3 := hid (And.intro r3 t3); clear r3 t3)
    go_ret2
    rw [← HM.out] at *
    exact ⟨S, a', _, c', rfl, HP.out.1, HP.out.2, HE.out, R3.out.1, T2.out.trans' R3.out.2⟩
end
end Go.Proofs.Ytbadlkjffelkhaa.Sk
