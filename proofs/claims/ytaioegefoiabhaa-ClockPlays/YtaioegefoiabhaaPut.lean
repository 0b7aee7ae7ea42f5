/- The contract of Put of a queue by time. -/
import Derived.Test.YtaioegefoiabhaaTms
namespace Go.Proofs.Ytaioegefoiabhaa
open Go.RowKit Go.Maps Go.ChangeMaps
set_option linter.unusedVariables false
theorem put24_arg (w : World) (q : Nat) (t k : Int) (ht : isT t = false) :
    Calls Try.prog 23 #[PT q, .int .i64 t, .int .i64 k] w fun e w' => e = .returned (.int .i64 1) ∧ w' = w := by
  have HI := hid (is37 t w)
  rw [ht] at HI
  clear ht
  unfold PT at *
  go_enter Try.func23, Try.ntmps23
  go_wp2_with (go_at_call 24; refine HI.out.mono ?_; rintro e w2 ⟨rfl, rfl⟩)
  go_ret
  exact ⟨rfl, rfl⟩
theorem put24_there (w : World) (q : Nat) (F : List Nat) (p : Int) (S : List Slot) (t k : Int) (a : Nat) (hk : W64 k) (h : Tq w q F p S) (ht : isT t = true) (hi : idx S k = some a) :
    Calls Try.prog 23 #[PT q, .int .i64 t, .int .i64 k] w fun e w' => e = .returned (.int .i64 40) ∧ w' = w := by
  have HI := hid (is37 t w)
  rw [ht] at HI
  have HA := hid (at29_some w q F p S k a hk h hi)
  clear ht h hi
  generalize (gt S a).at_ = u at *
  unfold PT at *
  go_enter Try.func23, Try.ntmps23
  go_wp2_with (first | (go_at_call 24; refine HI.out.mono ?_; rintro e w2 ⟨rfl, rfl⟩) | (go_at_call 36; refine HA.out.mono ?_; rintro e w2 ⟨rfl, rfl⟩))
  go_ret
  exact ⟨rfl, rfl⟩
theorem put24_many (w : World) (q : Nat) (F : List Nat) (p : Int) (S : List Slot) (t k : Int) (hk : W64 k) (h : Tq w q F p S) (ht : isT t = true) (hi : idx S k = none) (hl : 65536 ≤ S.length) :
    Calls Try.prog 23 #[PT q, .int .i64 t, .int .i64 k] w fun e w' => e = .returned (.int .i64 3) ∧ w' = w := by
  have HI := hid (is37 t w)
  rw [ht] at HI
  have HA := hid (at29_none w q F p S k hk h hi)
  have HL := hid (len26 w q F p S h)
  have zl : (65536 : Int) ≤ (S.length : Int) := by omega
  have zl2 := h.len
  clear ht h hi
  generalize S.length = n at *
  unfold PT at *
  go_enter Try.func23, Try.ntmps23
  go_wp2_with (first | (go_at_call 24; refine HI.out.mono ?_; rintro e w2 ⟨rfl, rfl⟩) | (go_at_call 36; refine HA.out.mono ?_; rintro e w2 ⟨rfl, rfl⟩) | (go_at_call 25; refine HL.out.mono ?_; rintro e w2 ⟨rfl, rfl⟩))
  go_ret
  exact ⟨rfl, rfl⟩
theorem Tq.put {w w1 : World} {q : Nat} {sl : Value} {m : Option Nat} {p : Int} {S s : List Slot} {t k : Int} {i : Nat} (h : TM w q sl m p S) (hp : s.Perm S) (ht : 0 ≤ t ∧ t ≤ 4611686018427387904) (hi : Pos S t i)
    {sl' : Value} {b' : Nat} {s' : List Slot} (r1 : s'.Perm (s ++ [⟨t, p, k⟩])) (r2 : Heap s'.length s') (r3 : HQ w1 q sl' (some b') p s') (r4 : Touch (fq q sl m) w w1) (r5 : Nq w q sl m sl' (some b')) :
    ∃ F', Tq (w1.setCell ⟨q, 2, none⟩ (.int .i64 (p + 1))) q F' (p + 1) (ins S i ⟨t, p, k⟩) ∧ Touch (fq q sl m) w (w1.setCell ⟨q, 2, none⟩ (.int .i64 (p + 1))) ∧ Nf w (fq q sl m) F' := by
  have hP : s'.Perm (ins S i ⟨t, p, k⟩) := (r1.trans (hp.append_right _)).trans (ins_perm S i _).symm
  have M : ∀ y ∈ ins S i ⟨t, p, k⟩, y ∈ S ∨ y = ⟨t, p, k⟩ := fun y hy => by
    have := (ins_perm S i _).mem_iff.1 hy
    simpa using this
  refine ⟨_, ⟨sl', some b', rfl, ⟨s', ?_, r2, hP⟩, ins_srt h.srt hi h.lo, fun y hy => ?_, by have := h.p0; omega, fun y hy => ?_⟩, r4.setCell (by simp [fq]) _, r5⟩
  · have hbq := r3.hc.map_ne r3.map
    refine ⟨r3.hc.set2 _, ?_, Or.inr ⟨b', rfl, r3.map.kept (Below.heap_setCell _ _ _ _ hbq)⟩, r3.nd, r3.wf, r3.le⟩
    exact own_keep r3.row (fun g hg => Below.heap_setCell _ _ _ _ (row_ne r3.hc r3.row (by decide) g hg))
  · rcases M y hy with e | e
    · have := h.lo y e; omega
    · rw [e]; show p < p + 1; omega
  · rcases M y hy with e | e
    · exact h.tk y e
    · rw [e]; exact ht
set_option maxHeartbeats 2000000 in
set_option maxRecDepth 100000 in
theorem put24_ok (w : World) (q : Nat) (F : List Nat) (p : Int) (S : List Slot) (t k : Int) (i : Nat) (hk : W64 k) (h : Tq w q F p S) (ht : isT t = true) (hi : idx S k = none) (hl : S.length < 65536) (hp : Pos S t i) (hpb : p < 4611686018427387904) :
    Calls Try.prog 23 #[PT q, .int .i64 t, .int .i64 k] w fun e w' => e = .returned (.int .i64 0) ∧ ∃ F', Tq w' q F' (p + 1) (ins S i ⟨t, p, k⟩) ∧ Touch F w w' ∧ Nf w F F' := by
  have HI := hid (is37 t w)
  rw [ht] at HI
  have HA := hid (at29_none w q F p S k hk h hi)
  have HL := hid (len26 w q F p S h)
  have zl : (S.length : Int) < 65536 := by omega
  have ht' : 0 ≤ t ∧ t ≤ 4611686018427387904 := of_decide_eq_true ht
  obtain ⟨sl, m, rfl, tm⟩ := h
  obtain ⟨s, h1, h2, h3⟩ := tm.ex
  have p0 := tm.p0
  have pb2 : p + 1 ≤ 4611686018427387904 := by omega
  have c2 := h1.hc.c2
  have hx : ∀ y ∈ s, y.item ≠ k := fun y hy => idx_none.1 hi y (h3.mem_iff.1 hy)
  have HP : Hid (∀ w1, Touch [] w w1 → Calls Try.prog 41 #[.iface 90 (.pointer (some ⟨q, 0, none⟩)), .iface 86 (.agg #[.int .i64 t, .int .i64 p, .int .i64 k])] w1 fun e w' => e = .returned (.tuple #[]) ∧ (w'.cell? ⟨q, 2, none⟩ = some (.int .i64 p) ∧ w'.frozen? ⟨q, 2, none⟩ = false) ∧ ∃ F', Tq (w'.setCell ⟨q, 2, none⟩ (.int .i64 (p + 1))) q F' (p + 1) (ins S i ⟨t, p, k⟩) ∧ Touch (fq q sl m) w (w'.setCell ⟨q, 2, none⟩ (.int .i64 (p + 1))) ∧ Nf w (fq q sl m) F') := fun w1 t1 => by
    refine (hpush38 w1 q sl m p s ⟨t, p, k⟩ (h1.keep t1 (fun _ _ e => by cases e)) h2 (by rw [h3.length_eq]; exact hl) hx ⟨W64.mk (by show _ ≤ t; omega) (by show t ≤ _; omega), W64.mk (by show _ ≤ p; omega) (by show p ≤ _; omega), hk⟩).mono ?_
    rintro e w2 ⟨he, sl', b', s', r1, r2, r3, r4, r5⟩
    refine ⟨he, ⟨r3.hc.c2, r3.hc.fr 2⟩, ?_⟩
    have t0 : Touch (fq q sl m) w w2 := (t1.mono (fun _ e => by cases e)).trans' r4
    exact Tq.put tm h3 ht' hp r1 r2 r3 t0 (fun k hk => by
      rcases r5 k hk with e | e
      · exact Or.inl e
      · exact Or.inr (Nat.le_trans t1.size e))
  clear ht hi tm h1 h2 h3 hx ht' hp hl
  generalize ins S i ⟨t, p, k⟩ = S' at *
  generalize (S.length : Int) = n at *
  unfold PT at HA HL ⊢
  have HPB := hid (And.intro hpb pb2)
  clear hpb pb2
  go_enter Try.func23, Try.ntmps23
  go_wp2_with (first | (go_at_call 24; refine HI.out.mono ?_; rintro e w2 ⟨rfl, rfl⟩) | (go_at_call 36; refine HA.out.mono ?_; rintro e w2 ⟨rfl, rfl⟩) | (go_at_call 25; refine HL.out.mono ?_; rintro e w2 ⟨rfl, rfl⟩))
  go_region_held3 (fun w' => w'.cell? ⟨q, 2, none⟩ = some (.int .i64 p)) (first | assumption | go_keep)
    (first | (go_at_call 41; refine (HP.out _ (Touch.refl _ _).drew).mono ?_; rintro e w1 ⟨rfl, ⟨y2, yf⟩, r⟩; have R := hid r; clear r))
  have pb1 : p < 9223372036854775807 := by have := HPB.out; omega
  go_wp2
  go_ret
  exact ⟨rfl, R.out⟩
end Go.Proofs.Ytaioegefoiabhaa
