/- Take of a queue by time, both ways in one. -/
import Derived.Test.YtaioegefoiabhaaTms
namespace Go.Proofs.Ytaioegefoiabhaa
open Go.RowKit Go.Maps Go.ChangeMaps
set_option linter.unusedVariables false
theorem Tq.apart {w : World} {q : Nat} {F : List Nat} {p : Int} {S : List Slot} (h : Tq w q F p S) {base e k n : Nat} {v : Value} {xs : List Value} (ho : w.ownsRow base e k v n xs) (e1 : e ≠ 83) (e2 : e ≠ 86) : ∀ b, v.ownBlock = some b → ¬ b ∈ F := by
  obtain ⟨sl, m, rfl, ⟨s, h1, _⟩, _⟩ := h
  intro b hb hF
  obtain ⟨_, h2 | ⟨g, cap, cur, rfl, hg, hcc, r⟩⟩ := ho
  · rw [h2.1] at hb; cases hb
  · simp [Value.ownBlock] at hb
    subst hb
    simp [fq] at hF
    rcases hF with rfl | hF | hF
    · have := h1.hc
      unfold HC at this
      rw [hcc] at this
      simp at this
      exact e1 this.2
    · obtain ⟨_, h3 | ⟨g', cap', cur', rfl, hg', hcc', r'⟩⟩ := h1.row
      · rw [h3.1] at hF; cases hF
      · simp [Value.ownBlock] at hF
        subst hF
        rw [hcc] at hcc'
        simp at hcc'
        exact e2 hcc'.2
    · rcases h1.mp with ⟨rfl, _⟩ | ⟨b, rfl, hm⟩
      · cases hF
      · cases hF
        obtain ⟨D, ⟨es, cl, hb, _⟩, _⟩ := hm
        rw [hb] at hcc
        simp at hcc
def TkP (w w' : World) (q : Nat) (F : List Nat) (p : Int) (T : List Slot) (now i : Int) (ok : Bool) : Prop :=
  (ok = true ∧ ∃ x R F', T = x :: R ∧ x.at_ ≤ now ∧ i = x.item ∧ Tq w' q F' p R ∧ Touch F w w' ∧ Nf w F F') ∨ (ok = false ∧ i = 0 ∧ (T = [] ∨ now < (gt T 0).at_) ∧ Touch [] w w' ∧ Tq w' q F p T)
def TkE (e : Ending) (w w' : World) (q : Nat) (F : List Nat) (p : Int) (T : List Slot) (now : Int) : Prop := ∃ i ok, e = .returned (.tuple #[.int .i64 i, .bool ok]) ∧ TkP w w' q F p T now i ok
theorem take21 (w : World) (q : Nat) (F : List Nat) (p : Int) (T : List Slot) (now : Int) (h : Tq w q F p T) : Calls Try.prog 42 #[PT q, .int .i64 now] w fun e w' => TkE e w w' q F p T now := by
  by_cases c : T = [] ∨ now < (gt T 0).at_
  · refine (take21_no w q F p T now h c).mono ?_
    rintro e w' ⟨rfl, ht⟩
    exact ⟨0, false, rfl, Or.inr ⟨rfl, rfl, c, ht, h.keep0 ht⟩⟩
  · cases T with
    | nil => exact absurd (Or.inl rfl) c
    | cons x R =>
      have hx : x.at_ ≤ now := by
        have : ¬ now < x.at_ := fun e => c (Or.inr e)
        omega
      refine (take21_yes w q F p x R now h hx).mono ?_
      rintro e w' ⟨rfl, F', h1, h2, h3⟩
      exact ⟨x.item, true, rfl, Or.inl ⟨rfl, x, R, F', rfl, hx, rfl, h1, h2, h3⟩⟩
def lenOf : Value → Nat
  | .slice _ n _ => n
  | _ => 0
theorem Nf.trans {w w1 : World} {F G H : List Nat} (h : Nf w F G) (k : Nf w1 G H) (hz : w.heap.size ≤ w1.heap.size) : Nf w F H := fun i hi => by
  rcases k i hi with e | e
  · exact h i e
  · exact Or.inr (Nat.le_trans hz e)
end Go.Proofs.Ytaioegefoiabhaa
