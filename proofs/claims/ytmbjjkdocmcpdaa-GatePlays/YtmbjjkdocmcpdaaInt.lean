/- The law's ints, and what may lie beside the gates: slices of numbers and the document's boxes are no part of them. -/
import Derived.Test.YtmbjjkdocmcpdaaRla
namespace Go.Proofs.Ytmbjjkdocmcpdaa
open Go.RowKit Go.Maps Go.ChangeMaps
set_option linter.unusedVariables false
set_option maxHeartbeats 2000000 in
theorem ints12 (w : World) (a b : Value) (l : List Int) (ha : Rd w a l) (hb : Rd w b l) (hl : l.length ≤ 4398046511104) : Calls Try.prog 12 #[a, b] w fun e w' => e = .returned (.bool true) ∧ Touch [] w w' := by
  obtain ⟨a1, c1, rfl, _, _⟩ := ha.form
  obtain ⟨a2, c2, rfl, _, _⟩ := hb.form
  have HA := hid ha
  have HB := hid hb
  clear ha hb
  obtain ⟨N, hN⟩ : ∃ N, N = l.length := ⟨_, rfl⟩
  have HN := hid hN
  rw [← hN] at HA HB hl ⊢
  clear hN
  have zl : (N : Int) ≤ 4398046511104 := by omega
  clear hl
  go_enter Try.func12, Try.ntmps12
  go_wp2
  go_loopw [5] (fun i wr => ∃ n : Nat, i = .int .i64 n ∧ n ≤ N ∧ Hid (Touch [] w wr)) (fun i _ => N - (intOf i).toNat)
  case atStart => exact ⟨0, rfl, Nat.zero_le _, Touch.refl _ _⟩
  case round =>
    obtain ⟨n, rfl, hn, HT⟩ := hrel
    by_cases hlt : n < N
    · have zn : (n : Int) < (N : Int) := by omega
      have hl : n < l.length := by have := HN.out; omega
      obtain ⟨g1, rfl, y1⟩ := (HA.out.keep0 HT.out).cell hl
      obtain ⟨g2, rfl, y2⟩ := (HB.out.keep0 HT.out).cell hl
      generalize l[n] = ki at *
      clear hl
      go_wp2
      go_quiet (fail)
      go_wp2
      go_roundw
      case rel => exact ⟨n + 1, by go_num, by omega, HT.out.drewN _⟩
      case measure => simp [intOf]; omega
    · have zn : ¬ (n : Int) < (N : Int) := by omega
      go_wp2
      go_ret
      exact ⟨rfl, HT.out⟩
/-- The kinds of blocks that gates are made of. -/
def GTy (o : Option Obj) : Prop := (∃ cs t z, o = some (.cells cs t z) ∧ (t = 56 ∨ t = 71 ∨ t = 79)) ∨ ∃ es cl, o = some (.map es cl)
theorem MapAt.ty {w : World} {b n : Nat} {f : Int → Option Value} (h : MapAt w b n f) : GTy w.heap[b]? := by
  obtain ⟨D, ⟨es, cl, hb, _⟩, _⟩ := h
  exact Or.inr ⟨es, cl, hb⟩
theorem Uq.ty {w : World} {q : Nat} {F : List Nat} {xs : List Int} (h : Uq w q F xs) : ∀ k, k ∈ F → GTy w.heap[k]? := by
  obtain ⟨m, rfl, t⟩ := h
  obtain ⟨f, l, hc, hs⟩ := t.st
  intro k hk
  rcases List.mem_cons.1 hk with e | e
  · subst e
    exact Or.inl ⟨_, _, _, hc, Or.inr (Or.inr rfl)⟩
  · rcases hs with ⟨rfl, _⟩ | ⟨b, be, af, rfl, hm, _⟩
    · cases e
    · simp at e
      subst e
      exact hm.ty
theorem Lines.ty {w : World} {sl : Value} {L : List Li} (h : Lines w sl L) : ∀ k, k ∈ fpL sl L → GTy w.heap[k]? := fun k hk => by
  rcases mem_fpL.1 hk with e | ⟨l, hl, e⟩
  · rcases h.row.2 with ⟨e1, _⟩ | ⟨g, cap, cur, rfl, hg, hc, _⟩
    · rw [e1] at e; cases e
    · have : g = k := by simpa [Value.ownBlock] using e
      subst this
      exact Or.inl ⟨_, _, _, hc, Or.inr (Or.inl rfl)⟩
  · exact (h.all l hl).ty k e
theorem Gs.ty {w : World} {g : Nat} {F : List Nat} {op : Nat → Bool} {W : Nat → List Int} (h : Gs w g F op W) : ∀ k, k ∈ F → GTy w.heap[k]? := by
  obtain ⟨sl, m, L, rfl, h⟩ := h
  intro k hk
  rcases mem_fpG.1 hk with e | e | ⟨i, hi, e⟩
  · subst e
    exact Or.inl ⟨_, _, _, h.gl.bl, Or.inl rfl⟩
  · subst e
    exact (mp_some h.mp).ty
  · exact (h.gl.ln i hi).ty k e
theorem GTy.no {cs : Array Value} {t : TypeId} {z : Nat × Nat} (ht : t ≠ 56 ∧ t ≠ 71 ∧ t ≠ 79) : ¬ GTy (some (.cells cs t z)) := by
  rintro (⟨cs', t', z', h, ht'⟩ | ⟨es, cl, h⟩)
  · cases h
    rcases ht' with e | e | e
    · exact ht.1 e
    · exact ht.2.1 e
    · exact ht.2.2 e
  · cases h
section
variable {w w' : World} {g : Nat} {F : List Nat} {op : Nat → Bool} {W : Nat → List Int}
theorem Gs.away (h : Gs w g F op W) {b : Nat} {cs : Array Value} {t : TypeId} {z : Nat × Nat} (hb : w.heap[b]? = some (.cells cs t z)) (ht : t ≠ 56 ∧ t ≠ 71 ∧ t ≠ 79) : ¬ b ∈ F := fun e => by
  have := h.ty b e
  rw [hb] at this
  exact GTy.no ht this
theorem Rd.keepG {v : Value} {xs : List Int} (h : Rd w v xs) (hG : Gs w g F op W) (T : Touch F w w') : Rd w' v xs := by
  obtain ⟨a, k, rfl, h1, h2, h3, h4⟩ := h
  refine ⟨a, k, rfl, h1, h2, h3, ?_⟩
  rcases h4 with e | ⟨b, cur, e, z, rfl, hb, hc⟩
  · exact Or.inl e
  · exact Or.inr ⟨b, cur, e, z, rfl, T.keep hb (hG.away hb (by decide)), hc⟩
theorem Ds.keepG {c : Array Value} {op' : Nat → Bool} {ps : List (Int × Int)} {A B : Value} (h : Ds w c op' ps A B) (hG : Gs w g F op W) (T : Touch F w w') : Ds w' c op' ps A B := ⟨h.eq, h.who.keepG hG T, h.at_.keepG hG T⟩
end
end Go.Proofs.Ytmbjjkdocmcpdaa
