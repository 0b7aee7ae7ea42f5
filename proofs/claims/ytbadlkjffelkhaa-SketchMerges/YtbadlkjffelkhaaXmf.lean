/- The law SketchMerges' walk, where both sketches may be; no conditions. -/
import Derived.Test.YtbadlkjffelkhaaXme
namespace Go.Proofs.Ytbadlkjffelkhaa.Sk
open Go.RowKit Go.Maps Go.ChangeMaps
set_option maxRecDepth 100000
set_option linter.unusedVariables false
set_option linter.unusedSimpArgs false
/-- A sketch and the document's beside it, the same. -/
def Sd (w : World) (s : Nat) (X : S) (G cp : Nat) : Prop := ∃ g cap Q Cp, Kq w s g cap X ∧ Dq w 0 G cp Q Cp X
section
variable {w w' : World} {s G cp s2 G2 cp2 : Nat} {X Y : S}
theorem Sd.keep0 (h : Sd w s X G cp) (T : Touch [] w w') : Sd w' s X G cp := by
  obtain ⟨g, cap, Q, Cp, k, d⟩ := h
  exact ⟨g, cap, Q, Cp, k.keep0 T, d.keep0 T⟩
theorem Sd.says (h : Sd w s X G cp) {a : Option Addr} {ks : List K} {c n : Nat} (hs : KyS w a ks) (hl : ks.length ≤ 9000000000000) (hn : n = ks.length) : Calls Try.prog 10 #[PT s, dv (.slice (some ⟨G, 0, none⟩) X.r cp) X, .slice a n c] w fun e w' => e = .returned (.bool true) ∧ Touch [] w w' := by
  subst hn
  obtain ⟨g, cap, Q, Cp, k, d⟩ := h
  exact says_ k d hs hl
theorem played_sd {a : Option Addr} {xs : List ActX} {c : Nat} (r b : Int) (h : mayZ r b = true) (hA : AcS w a xs) (hl : xs.length ≤ 5000000000000) : Calls Try.prog 8 #[.int .i64 r, .int .i64 b, .slice a xs.length c] w fun e w' => ∃ s X G cp, e = .returned (.tuple #[.pointer (some ⟨s, 0, none⟩), .agg #[.int .i64 (X.b : Nat), .slice (some ⟨G, 0, none⟩) X.r cp, .int .u64 (X.t : Nat)], .bool true]) ∧ Touch [] w w' ∧ Sd w' s X G cp := by
  refine (played_ok r b h hA hl).mono ?_
  rintro e w1 ⟨v, u, rfl, s, g, cap, X, G, cp, Q, Cp, rfl, rfl, k1, d1, e1, e2, l1, l2, t1⟩
  exact ⟨s, X, G, cp, rfl, t1, g, cap, Q, Cp, k1, d1⟩
/-- What lies behind the keys' loop where the two were put together. -/
def Aft (w3 wr : World) (s3 nb G3 cp3 : Nat) (Z : S) : Prop := Calls Try.prog 13 #[PT s3, kv kA] wr fun e w7 => ∃ x y, e = .returned (.tuple #[.int .i64 x, .int .i64 y]) ∧ (w7.cell? ⟨nb, 0, none⟩ = some (.int .i64 (Z.b : Nat)) ∧ w7.cell? ⟨nb, 1, none⟩ = some (.slice (some ⟨G3, 0, none⟩) Z.r cp3) ∧ w7.cell? ⟨nb, 2, none⟩ = some (.int .u64 (Z.t : Nat))) ∧ Calls Try.prog 14 #[dv (.slice (some ⟨G3, 0, none⟩) Z.r cp3) Z, kv kA] w7 fun e w8 => ∃ Z' G' cp' x y, e = .returned (.tuple #[.agg #[.int .i64 ((Z' : S).b : Nat), .slice (some ⟨G', 0, none⟩) Z'.r cp', .int .u64 (Z'.t : Nat)], .int .i64 x, .int .i64 y]) ∧ ((∃ a b c, w8.cell? ⟨nb, 0, none⟩ = some a ∧ w8.cell? ⟨nb, 1, none⟩ = some b ∧ w8.cell? ⟨nb, 2, none⟩ = some c) ∧ ∀ j, w8.frozen? ⟨nb, j, none⟩ = false) ∧ ∀ w9, w9 = ((w8.setCell ⟨nb, 0, none⟩ (.int .i64 (Z'.b : Nat))).setCell ⟨nb, 1, none⟩ (.slice (some ⟨G', 0, none⟩) Z'.r cp')).setCell ⟨nb, 2, none⟩ (.int .u64 (Z'.t : Nat)) → (w9.cell? ⟨nb, 0, none⟩ = some (.int .i64 (Z'.b : Nat)) ∧ w9.cell? ⟨nb, 1, none⟩ = some (.slice (some ⟨G', 0, none⟩) Z'.r cp') ∧ w9.cell? ⟨nb, 2, none⟩ = some (.int .u64 (Z'.t : Nat))) ∧ Touch [] w3 w9 ∧ Sd w9 s3 Z' G' cp' ∧ ∀ (a : Option Addr) (ks : List K) (n c B : Nat), wr.ownsRow B 43 2 (.slice a n c) n (ks.flatMap kc) → w9.ownsRow B 43 2 (.slice a n c) n (ks.flatMap kc)
theorem aft_ {w3 wr : World} {s3 g3 cap3 nb G3 cp3 : Nat} {Q3 Cp3 : Nat → Nat} {Z : S} (T : Touch [] w3 wr) (k : Kq wr s3 g3 cap3 Z) (d : Dq wr 0 G3 cp3 Q3 Cp3 Z) (l1 : w3.heap.size ≤ s3) (l2 : w3.heap.size ≤ g3) (hb : wr.heap[nb]? = some (.cells (bxd Z G3 cp3) 29 (0, 0))) (l3 : w3.heap.size ≤ nb) : Aft w3 wr s3 nb G3 cp3 Z := by
  refine (add_any k kA_ok).mono ?_
  rintro e w7 ⟨rfl, t7, k7⟩
  have hb7 := t7.keep hb (kq_apart k hb)
  have d7 := d.prog k t7
  refine ⟨_, _, rfl, ⟨cell_at hb7 rfl, cell_at hb7 rfl, cell_at hb7 rfl⟩, ?_⟩
  refine (radd_ok d7 k.wf kA_ok kA_64).mono ?_
  rintro e w8 ⟨v, rfl, G', cp', Q', Cp', rfl, d8, t8⟩
  have ek : addK Z kA = addS Z (hK kA) := by unfold addK; rw [if_pos kA_64]
  rw [ek] at k7
  have hb8 := t8.keep hb7 (by simp)
  have k8 := k7.keep0 t8
  refine ⟨addS Z (hK kA), G', cp', _, _, rfl, ⟨⟨_, _, _, cell_at (j := 0) hb8 rfl, cell_at (j := 1) hb8 rfl, cell_at (j := 2) hb8 rfl⟩, froz_at hb8⟩, ?_⟩
  rintro w9 rfl
  have tt : Touch [nb] w8 _ := (((Touch.refl _ w8).setCell (p := ⟨nb, 0, none⟩) (Or.inl (by simp)) (.int .i64 ((addS Z (hK kA)).b : Nat))).setCell (p := ⟨nb, 1, none⟩) (Or.inl (by simp)) (.slice (some ⟨G', 0, none⟩) (addS Z (hK kA)).r cp')).setCell (p := ⟨nb, 2, none⟩) (Or.inl (by simp)) (.int .u64 ((addS Z (hK kA)).t : Nat))
  have hb9 := bset (i := 2) (bset (i := 1) (bset (i := 0) hb8 (.int .i64 ((addS Z (hK kA)).b : Nat))) (.slice (some ⟨G', 0, none⟩) (addS Z (hK kA)).r cp')) (.int .u64 ((addS Z (hK kA)).t : Nat))
  have hm := kq_apart k8 hb8
  simp only [List.mem_cons, List.mem_nil_iff, or_false, not_or] at hm
  obtain ⟨a1, a2⟩ := d8.apart hb8 (by decide) (by decide)
  refine ⟨⟨cell_at hb9 rfl, cell_at hb9 rfl, cell_at hb9 rfl⟩, ?_, ⟨g3, cap3, Q', Cp', k8.keep tt (by simp; exact Ne.symm hm.1) (by simp; exact Ne.symm hm.2), (d8.keep tt (by simp [a1]) (fun j hj => by simp [a2 j hj])).base (Nat.zero_le _)⟩, fun a ks n c B o => ?_⟩
  · refine ((T.trans t7 (fun q hq => Or.inr ?_)).trans' t8).trans tt (fun q hq => Or.inr ?_)
    · simp only [List.mem_cons, List.mem_nil_iff, or_false] at hq
      rcases hq with rfl | rfl
      · exact l1
      · exact l2
    · simp only [List.mem_singleton] at hq
      omega
  · have o7 : w7.ownsRow B 43 2 (.slice a n c) n (ks.flatMap kc) := own_touch o t7 (fun q hq => by
      obtain ⟨cs, h1⟩ := own_kind o hq
      exact kq_out k h1 (by decide) (by decide))
    have o8 := own_touch o7 t8 (fun _ _ e => by cases e)
    refine own_touch o8 tt (fun q hq hm => ?_)
    obtain ⟨cs, h1⟩ := own_kind o8 hq
    simp only [List.mem_singleton] at hm
    subst hm
    rw [hb8] at h1
    cases h1
end
end Go.Proofs.Ytbadlkjffelkhaa.Sk
