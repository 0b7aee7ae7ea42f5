/- Tokens in memory, the program's and the document's: rows of structs that a call owns. -/
import Derived.Test.YtbjnajiicljnbaaBas
import Derived.Test.YtbjnajiicljnbaaSts
import Derived.Lib.SmallJoins
namespace Go.Proofs.Ytbjnajiicljnbaa
open Go.RowKit Go.Maps Go.ChangeMaps
set_option linter.unusedVariables false

theorem own_block {w : World} {base e g c n k : Nat} {xs : List Value} (h : w.ownsRow base e k (.slice (some ⟨g, 0, none⟩) n c) n xs) :
    ∃ cur, w.heap[g]? = some (.cells cur e (0, 0)) ∧ n ≤ c ∧ c ≤ maxLen ∧ cur.size = c * k ∧ cur.toList.take (n * k) = xs ∧ base ≤ g ∧ xs.length = n * k := by
  obtain ⟨h1, h2 | ⟨g', cap', cur, hv, hg, hc, hn, hm, hs, ht⟩⟩ := h
  · cases h2.1
  · simp only [Value.slice.injEq, Option.some.injEq, Addr.mk.injEq, and_true, true_and] at hv
    obtain ⟨rfl, rfl⟩ := hv
    exact ⟨cur, hc, hn, hm, hs, ht, hg, h1⟩
theorem own_cell {w : World} {base e g c n k : Nat} {xs : List Value} (h : w.ownsRow base e k (.slice (some ⟨g, 0, none⟩) n c) n xs) {p : Nat} {v : Value} (hp : xs[p]? = some v) :
    w.cell? ⟨g, p, none⟩ = some v := by
  obtain ⟨cur, hc, hn, hm, hs, ht, hg, hl⟩ := own_block h
  have hp' : p < xs.length := (List.getElem?_eq_some_iff.1 hp).1
  have : cur[p]? = some v := by
    rw [← Array.getElem?_toList, ← hp, ← ht, List.getElem?_take, if_pos (by omega)]
  simp [World.cell?, hc, this]
theorem own_frozen {w : World} {base e g c n k : Nat} {xs : List Value} (h : w.ownsRow base e k (.slice (some ⟨g, 0, none⟩) n c) n xs) (p : Nat) : w.frozen? ⟨g, p, none⟩ = false := by
  obtain ⟨cur, hc, _⟩ := own_block h
  exact Joins.unfrozen_of_block hc _
theorem own_set {w : World} {base e g c n k : Nat} {xs : List Value} (h : w.ownsRow base e k (.slice (some ⟨g, 0, none⟩) n c) n xs) (p : Nat) (v : Value) :
    (w.setCell ⟨g, p, none⟩ v).ownsRow base e k (.slice (some ⟨g, 0, none⟩) n c) n (xs.set p v) := by
  obtain ⟨cur, hc, hn, hm, hs, ht, hg, hl⟩ := own_block h
  refine ⟨by rw [List.length_set]; exact hl, Or.inr ⟨g, c, cur.setIfInBounds p v, rfl, hg, Joins.block_setCell hc _, hn, hm, by simp [hs], ?_⟩⟩
  rw [Array.toList_setIfInBounds, List.take_set, ht]
theorem own_keep {w w' : World} {base e n k : Nat} {v : Value} {xs : List Value} (h : w.ownsRow base e k v n xs) (hk : ∀ b, v.ownBlock = some b → w'.heap[b]? = w.heap[b]?) : w'.ownsRow base e k v n xs := by
  obtain ⟨h1, h2 | ⟨g, cap, cur, rfl, hg, hc, r⟩⟩ := h
  · exact ⟨h1, Or.inl h2⟩
  · exact ⟨h1, Or.inr ⟨g, cap, cur, rfl, hg, (hk g rfl).trans hc, r⟩⟩
theorem own_touch {F : List Nat} {w w' : World} {base e n k : Nat} {v : Value} {xs : List Value} (h : w.ownsRow base e k v n xs) (ht : Touch F w w') (hk : ∀ b, v.ownBlock = some b → ¬ b ∈ F) : w'.ownsRow base e k v n xs :=
  own_keep h (fun b hb => ht.block b (h.lt b hb).2 (hk b hb))
theorem own_form {w : World} {base e n k : Nat} {v : Value} {xs : List Value} (h : w.ownsRow base e k v n xs) : ∃ p c, v = .slice p n c := by
  rcases h.2 with ⟨rfl, rfl⟩ | ⟨g, cap, cur, rfl, _⟩
  · exact ⟨_, _, rfl⟩
  · exact ⟨_, _, rfl⟩

theorem own_base {w : World} {B B' e k n : Nat} {v : Value} {xs : List Value} (h : w.ownsRow B e k v n xs) (hb : B' ≤ B) : w.ownsRow B' e k v n xs := by
  obtain ⟨h1, h2 | ⟨g', c', cur, e', hg, r⟩⟩ := h
  · exact ⟨h1, Or.inl h2⟩
  · exact ⟨h1, Or.inr ⟨g', c', cur, e', Nat.le_trans hb hg, r⟩⟩

def cells5 (x : Tk) : List Value := [.int .i64 (x.par : Nat), .int .i64 (x.hol : Nat), .int .i64 (x.why : Nat), .int .i64 (x.ch : Nat), .int .i64 (x.el : Nat)]
def cells3 (x : Tk) : List Value := [.int .i64 (x.par : Nat), .int .i64 (x.hol : Nat), .int .i64 (x.why : Nat)]
def flat5 (s : List Tk) : List Value := s.flatMap cells5
def flat3 (s : List Tk) : List Value := s.flatMap cells3
theorem flat5_cons (x : Tk) (s : List Tk) : flat5 (x :: s) = .int .i64 (x.par : Nat) :: .int .i64 (x.hol : Nat) :: .int .i64 (x.why : Nat) :: .int .i64 (x.ch : Nat) :: .int .i64 (x.el : Nat) :: flat5 s := by simp [flat5, cells5]
theorem flat3_cons (x : Tk) (s : List Tk) : flat3 (x :: s) = .int .i64 (x.par : Nat) :: .int .i64 (x.hol : Nat) :: .int .i64 (x.why : Nat) :: flat3 s := by simp [flat3, cells3]
theorem flat5_app (s t : List Tk) : flat5 (s ++ t) = flat5 s ++ flat5 t := by simp [flat5]
theorem flat3_app (s t : List Tk) : flat3 (s ++ t) = flat3 s ++ flat3 t := by simp [flat3]
theorem flat5_len (s : List Tk) : (flat5 s).length = s.length * 5 := by
  induction s with
  | nil => rfl
  | cons x s ih => rw [flat5_cons]; simp [ih]; omega
theorem flat3_len (s : List Tk) : (flat3 s).length = s.length * 3 := by
  induction s with
  | nil => rfl
  | cons x s ih => rw [flat3_cons]; simp [ih]; omega
def gt (s : List Tk) (i : Nat) : Tk := s[i]?.getD tk0
theorem gt_eq {s : List Tk} {i : Nat} (h : i < s.length) : gt s i = s[i] := by unfold gt; rw [List.getElem?_eq_getElem h]; rfl
theorem flat5_at : ∀ (s : List Tk) (i : Nat), i < s.length → (flat5 s)[i * 5]? = some (.int .i64 ((gt s i).par : Nat)) ∧ (flat5 s)[i * 5 + 1]? = some (.int .i64 ((gt s i).hol : Nat)) ∧ (flat5 s)[i * 5 + 2]? = some (.int .i64 ((gt s i).why : Nat)) ∧ (flat5 s)[i * 5 + 3]? = some (.int .i64 ((gt s i).ch : Nat)) ∧ (flat5 s)[i * 5 + 4]? = some (.int .i64 ((gt s i).el : Nat))
  | x :: s, 0, _ => by rw [flat5_cons]; simp [gt]
  | x :: s, i + 1, h => by
    have ih := flat5_at s i (by simpa using h)
    rw [flat5_cons, show (i + 1) * 5 = i * 5 + 1 + 1 + 1 + 1 + 1 by omega, show i * 5 + 1 + 1 + 1 + 1 + 1 + 1 = (i * 5 + 1) + 1 + 1 + 1 + 1 + 1 by omega, show i * 5 + 1 + 1 + 1 + 1 + 1 + 2 = (i * 5 + 2) + 1 + 1 + 1 + 1 + 1 by omega, show i * 5 + 1 + 1 + 1 + 1 + 1 + 3 = (i * 5 + 3) + 1 + 1 + 1 + 1 + 1 by omega, show i * 5 + 1 + 1 + 1 + 1 + 1 + 4 = (i * 5 + 4) + 1 + 1 + 1 + 1 + 1 by omega]
    simpa [gt] using ih
theorem flat3_at : ∀ (s : List Tk) (i : Nat), i < s.length → (flat3 s)[i * 3]? = some (.int .i64 ((gt s i).par : Nat)) ∧ (flat3 s)[i * 3 + 1]? = some (.int .i64 ((gt s i).hol : Nat)) ∧ (flat3 s)[i * 3 + 2]? = some (.int .i64 ((gt s i).why : Nat))
  | x :: s, 0, _ => by rw [flat3_cons]; simp [gt]
  | x :: s, i + 1, h => by
    have ih := flat3_at s i (by simpa using h)
    rw [flat3_cons, show (i + 1) * 3 = i * 3 + 1 + 1 + 1 by omega, show i * 3 + 1 + 1 + 1 + 1 = (i * 3 + 1) + 1 + 1 + 1 by omega, show i * 3 + 1 + 1 + 1 + 2 = (i * 3 + 2) + 1 + 1 + 1 by omega]
    simpa [gt] using ih
theorem flat5_set : ∀ (s : List Tk) (i : Nat) (x : Tk), i < s.length → flat5 (s.set i x) = (((((flat5 s).set (i * 5) (.int .i64 (x.par : Nat))).set (i * 5 + 1) (.int .i64 (x.hol : Nat))).set (i * 5 + 2) (.int .i64 (x.why : Nat))).set (i * 5 + 3) (.int .i64 (x.ch : Nat))).set (i * 5 + 4) (.int .i64 (x.el : Nat))
  | a :: s, 0, x, _ => by simp [flat5_cons]
  | a :: s, i + 1, x, h => by
    have ih := flat5_set s i x (by simpa using h)
    rw [List.set_cons_succ, flat5_cons, flat5_cons, ih, show (i + 1) * 5 = i * 5 + 1 + 1 + 1 + 1 + 1 by omega, show i * 5 + 1 + 1 + 1 + 1 + 1 + 1 = (i * 5 + 1) + 1 + 1 + 1 + 1 + 1 by omega, show i * 5 + 1 + 1 + 1 + 1 + 1 + 2 = (i * 5 + 2) + 1 + 1 + 1 + 1 + 1 by omega, show i * 5 + 1 + 1 + 1 + 1 + 1 + 3 = (i * 5 + 3) + 1 + 1 + 1 + 1 + 1 by omega, show i * 5 + 1 + 1 + 1 + 1 + 1 + 4 = (i * 5 + 4) + 1 + 1 + 1 + 1 + 1 by omega]
    rfl
theorem flat3_set : ∀ (s : List Tk) (i : Nat) (x : Tk), i < s.length → flat3 (s.set i x) = (((flat3 s).set (i * 3) (.int .i64 (x.par : Nat))).set (i * 3 + 1) (.int .i64 (x.hol : Nat))).set (i * 3 + 2) (.int .i64 (x.why : Nat))
  | a :: s, 0, x, _ => by simp [flat3_cons]
  | a :: s, i + 1, x, h => by
    have ih := flat3_set s i x (by simpa using h)
    rw [List.set_cons_succ, flat3_cons, flat3_cons, ih, show (i + 1) * 3 = i * 3 + 1 + 1 + 1 by omega, show i * 3 + 1 + 1 + 1 + 1 = (i * 3 + 1) + 1 + 1 + 1 by omega, show i * 3 + 1 + 1 + 1 + 2 = (i * 3 + 2) + 1 + 1 + 1 by omega]
    rfl
theorem set_same {l : List Value} {i : Nat} {v : Value} (h : l[i]? = some v) : l.set i v = l := by
  obtain ⟨h1, h2⟩ := List.getElem?_eq_some_iff.1 h
  rw [← h2]; exact List.set_getElem_self h1
section
variable {s : List Tk} {i : Nat}
theorem flat5_hol (h : i < s.length) (k : Nat) : flat5 (s.set i { gt s i with hol := k }) = (flat5 s).set (i * 5 + 1) (.int .i64 (k : Nat)) := by
  obtain ⟨a0, a1, a2, a3, a4⟩ := flat5_at s i h
  rw [flat5_set s i _ h, set_same a0]
  rw [set_same (i := i * 5 + 2), set_same (i := i * 5 + 3), set_same (i := i * 5 + 4)]
  all_goals simpa [List.getElem?_set] using by assumption
theorem flat5_why (h : i < s.length) (k : Nat) : flat5 (s.set i { gt s i with why := k }) = (flat5 s).set (i * 5 + 2) (.int .i64 (k : Nat)) := by
  obtain ⟨a0, a1, a2, a3, a4⟩ := flat5_at s i h
  rw [flat5_set s i _ h, set_same a0, set_same a1]
  rw [set_same (i := i * 5 + 3), set_same (i := i * 5 + 4)]
  all_goals simpa [List.getElem?_set] using by assumption
theorem flat5_ch (h : i < s.length) (k : Nat) : flat5 (s.set i { gt s i with ch := k }) = (flat5 s).set (i * 5 + 3) (.int .i64 (k : Nat)) := by
  obtain ⟨a0, a1, a2, a3, a4⟩ := flat5_at s i h
  rw [flat5_set s i _ h, set_same a0, set_same a1, set_same a2]
  rw [set_same (i := i * 5 + 4)]
  all_goals simpa [List.getElem?_set] using by assumption
theorem flat3_hol (h : i < s.length) (k : Nat) : flat3 (s.set i { gt s i with hol := k }) = (flat3 s).set (i * 3 + 1) (.int .i64 (k : Nat)) := by
  obtain ⟨a0, a1, a2⟩ := flat3_at s i h
  rw [flat3_set s i _ h, set_same a0]
  rw [set_same (i := i * 3 + 2)]
  all_goals simpa [List.getElem?_set] using by assumption
theorem flat3_why (h : i < s.length) (k : Nat) : flat3 (s.set i { gt s i with why := k }) = (flat3 s).set (i * 3 + 2) (.int .i64 (k : Nat)) := by
  obtain ⟨a0, a1, a2⟩ := flat3_at s i h
  rw [flat3_set s i _ h, set_same a0, set_same a1]
end
end Go.Proofs.Ytbjnajiicljnbaa
