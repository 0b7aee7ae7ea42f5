/- The contract of Progress: all runs in progress, rising. -/
import Derived.Test.YtpihhlllembdeaaTbr
import Derived.Test.YtpihhlllembdeaaShf
import Derived.Lib.SlKeysI
namespace Go.Proofs.Ytpihhlllembdeaa
open Go.RowKit Go.Maps Go.ChangeMaps Go.Sort Go.Shelf
set_option linter.unusedVariables false
set_option linter.unusedSimpArgs false
theorem sortsP (m : Nat) : AnyZI.SortsIn Try.prog Try.sortedA_ren Fence.wide m :=
  ⟨fun blk off cap ss W hH hblk hsz => callsIn_wide.2 (AnyM.slices_Sort_int Try.sortA blk off cap ss W hH hblk hsz),
   fun p cap W => callsIn_wide.2 (AnyM.slices_Sort_int_none Try.sortA p cap W)⟩
set_option maxHeartbeats 2000000 in
theorem progRaw (w : World) (t p nn : Nat) (D0 : DataW Value) (hown : w.ownsMap Try.prog 3 HR p nn D0) (c2 : w.cell? ⟨t, 2, none⟩ = some (.map (some p))) (hmax : Maps.size D0 ≤ maxLen) (hbytes : Maps.size D0 * 8 ≤ 140737488355328) :
    Calls Try.prog 16 #[.pointer (some ⟨t, 0, none⟩)] w fun e w' => ∃ (v : Value) (ss : List Int), e = .returned v ∧ ss.Perm (intKeys D0) ∧ w'.ownsRow w.heap.size 3 1 v ss.length ((ss.mergeSort (fun x y => decide (x ≤ y))).map encZ) ∧ Below w.heap.size w w' := by
  refine (callsIn_wide (n := 6)).1 ?_
  have hbl := hown.lt
  have hseq : SeqGives Fence.wide 2 Try.prog 52 #[.pointer (some ⟨w.heap.size, 0, none⟩)] encZ (fun ss => ss.Perm (intKeys D0)) (Maps.size D0) (w.alloc (.cells #[.map (some p)] 69)) :=
    AnyZI.keys_gives (ρ := Try.keysA_ren) { Try.keysA with } Fence.wide _ trivial rfl (by omega) w.heap.size p nn D0 _ (by simp) (by simp) (by
      obtain ⟨es, clock, hb, Ft, hs, hD⟩ := hown
      exact ⟨es, clock, (Below.heap_alloc _ _ p hbl).trans hb, Ft, hs, hD⟩)
  have cK : ∀ mb W, CallsIn Fence.wide 5 Try.prog 36 #[.map mb] W fun e w' => e = .returned (.func (.func 52) #[] #[.pointer (some ⟨W.heap.size, 0, none⟩)]) ∧ w' = W.alloc (.cells #[.map mb] 69) := fun mb W => AnyZI.keys_in Try.keysA Fence.wide 5 trivial rfl mb W
  have cS := AnyZI.sorted_in Try.sortedA Fence.wide 5 trivial trivial trivial trivial rfl (by omega) (sortsP _) (enters_of Try.func51 (by kernel_rfl) rfl) 52 #[.pointer (some ⟨w.heap.size, 0, none⟩)] trivial (enters_of Try.func52 (by kernel_rfl) rfl) _ _ hmax hbytes _ hseq
  change CallsIn _ _ Try.prog 35 _ _ _ at cS
  have hfK : Fence.wide.fn 36 := trivial
  have hfS : Fence.wide.fn 35 := trivial
  refine callsIn_of_wp Try.func16 rfl trivial ?_ rfl
  simp only [Try.ntmps16, List.size_toArray, List.length_cons, List.length_nil, Nat.reduceAdd, Nat.reduceSub, Array.replicate_succ, Array.replicate_zero, List.push_toArray, List.append_toArray, List.nil_append, List.cons_append]
  gi_wp2_with (first
    | (gi_at_call 36; refine (cK _ _).mono ?_; rintro e w' ⟨rfl, rfl⟩)
    | (gi_at_call 35; refine cS.mono ?_; rintro e w' ⟨v, ss, rfl, hS, hrow, hnil, hb⟩))
  go_ret
  exact ⟨v, ss, rfl, hS, ownsRow_base_a hrow (by simp), ((Below.refl _ w).alloc (Nat.le_refl _) _).trans (hb.mono (by simp))⟩
def runsOf (T : Tb) : List Int := T.rs.map (fun p => p.1.run)
theorem runs_sorted {T : Tb} {N : Nat} (h : Ti T N) : (runsOf T).Pairwise (fun a b => a < b) := List.pairwise_map.2 h.ord
section
variable {w : World} {t p c : Nat} {g : Option Nat} {nc ng : Nat} {Ps : List Rb} {T : Tb} {N : Nat}
theorem ptr_has (h : Tm w t p c g nc ng Ps T N) (n : Int) : (ptr Ps n).isSome = decide (n ∈ runsOf T) := by
  unfold runsOf
  rw [h.rs, rsOf, List.map_map]
  unfold ptr
  rw [Option.isSome_map, Bool.eq_iff_iff, List.find?_isSome]
  simp only [decide_eq_true_eq, List.mem_map, Function.comp]
theorem tProg (h : Tm w t p c g nc ng Ps T N) (hN : N ≤ 3000000000000) : Calls Try.prog 16 #[PT t] w fun e w' => WtE e w w' (runsOf T) := by
  have c2 := h.cs.c2
  have hh := ptr_has h
  have hR : (runsOf T).length ≤ 4096 := by
    have := h.iv.len
    have := h.iv.fl
    unfold runsOf
    rw [List.length_map]
    omega
  have hs := runs_sorted h.iv
  have hw : ∀ x ∈ runsOf T, W64 x := fun x hx => by
    obtain ⟨q, hq, rfl⟩ := List.mem_map.1 hx
    have h1 := h.iv.rng q hq
    have h2 := h.iv.bg.2
    exact W64.mk (by omega) (by omega)
  have hl : Ps.length = (runsOf T).length := by unfold runsOf; rw [h.rs]; simp [rsOf]
  obtain ⟨D, hown, hsz, hD⟩ := h.pm
  obtain ⟨es, hes, hp, hkl⟩ := hown.entries keyed3
  have hmem : ∀ q ∈ es, ∃ x, W64 x ∧ q.1 = .int .i64 x := fun q hq => by
    have hq' : Maps.has D q.1 = true := by
      rw [hes, Maps.has_eq]
      exact List.any_eq_true.2 ⟨q, hq, WideAt.sameKey_self (hkl q hq)⟩
    obtain ⟨k, hk, e⟩ := hD.dom _ hq'
    exact ⟨k, hk, e⟩
  have hhas : ∀ x, x ∈ runsOf T ↔ Maps.has D (.int .i64 x) = true := fun x => by
    constructor
    · intro hx
      have := (hD.at_ x (hw x hx)).1
      rw [show (KI : KK Try.prog 3 Int).lit x = .int .i64 x from rfl] at this
      rw [this, hh]
      simp [hx]
    · intro hx
      obtain ⟨k, hk, e⟩ := hD.dom _ hx
      have e' : x = k := by
        rw [show (KI : KK Try.prog 3 Int).lit k = .int .i64 k from rfl] at e
        injection e
      subst e'
      have := (hD.at_ x hk).1
      rw [show (KI : KK Try.prog 3 Int).lit x = .int .i64 x from rfl, hx, hh] at this
      simpa using this.symm
  have hperm : (runsOf T).Perm (intKeys D) := by
    rw [hes]
    exact perm_intKeys hp (fun q hq => by obtain ⟨x, _, e⟩ := hmem q hq; exact ⟨x, e⟩) (hs.imp (fun {a b} hab => by omega)) (fun x => by rw [← hes]; exact hhas x)
  refine (progRaw w t p _ D hown c2 (by rw [hsz, hl]; unfold maxLen; omega) (by rw [hsz, hl]; omega)).mono ?_
  rintro e w' ⟨v, ss, rfl, h1, h2, h3⟩
  have e1 : ss.mergeSort leI = (runsOf T).mergeSort leI := mergeSort_of_perm_i (h1.trans hperm.symm)
  have e2 : (runsOf T).mergeSort leI = runsOf T := List.mergeSort_of_pairwise (hs.imp (fun {a b} hab => by simp only [leI, decide_eq_true_eq]; omega))
  have e3 : ss.length = (runsOf T).length := (h1.trans hperm.symm).length_eq
  rw [show (fun x y : Int => decide (x ≤ y)) = leI from rfl, e1, e2, e3] at h2
  exact ⟨v, rfl, Rd.of_own (own_base h2 (Nat.zero_le _)), fun b hb => (h2.lt b hb).1, Touch.of_below h3⟩
end
theorem progT (w : World) (t : Nat) (F : List Nat) (T : Tb) (N : Nat) (h : Tq w t F T N) (hN : N ≤ 3000000000000) : Calls Try.prog 16 #[PT t] w fun e w' => WtE e w w' (runsOf T) := by
  obtain ⟨p, c, g, nc, ng, Ps, rfl, h, hL⟩ := h
  exact tProg h hN
end Go.Proofs.Ytpihhlllembdeaa
