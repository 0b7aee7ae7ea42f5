/- The law of stale values, at every input. -/
import Derived.Test.YtkfophlhpjbmgaaGreatRows
import Derived.WalkKit
import Derived.ProofKit
import Derived.OpenShut
import Derived.ShutString
import Derived.SizedLaws
import Derived.Test.YtkfophlhpjbmgaaGreatQs13
namespace Go.Proofs.YtkfophlhpjbmgaaGreat.groupStale
open Go.ChangeShapes Go.WideShapes Go.ChangeAt Go.RowKit
set_option linter.unusedVariables false
theorem own : ownKnob Tryz.prog.godebug = none := by kernel_rfl
set_option maxRecDepth 100000 in
theorem lifted (os : Go.Os) (started : os.Started) (H : Type) (enc : TypeId × Value → H) :
    ReturnsInHanded {} Tryz.checked os 6 .any (Rows.groupStaleSpec.pre6 enc Tryz.prog Tryz.f6 Rows.groupStaleRow.domain false) (Rows.groupStaleSpec.post enc Tryz.prog Tryz.f6 false true false false) := by
  refine returnsInHanded_of_change_sized (C := Tryz.checked) own started (by kernel_rfl) Tryz.func6
    (ChangeSpec.witness6 (enc := enc) (C := Tryz.checked) false ⟨#[], #[.agg #[.int .i64 0, .int .i64 0, .slice none 0 0], .agg #[.int .u16 0, .string ⟨#[]⟩], .agg #[.int .i64 0, .int .i64 0, .int .i64 0, .int .i64 0]], []⟩ 8 (by kernel_rfl) (by kernel_rfl) (by kernel_rfl) (by kernel_rfl)) ?_
  intro W base args ds gs before hval0 hW hcnd hsz _
  have hval : ∀ (j : Nat) t v, Tryz.f6.params[j]? = some t → args[j]? = some v → Value.okWide Tryz.prog W .any base t v := hval0
  have hW' := hW
  obtain ⟨p, q, hA0, hV, rfl, hfz, hnd⟩ := hW
  have hA : DataW.TrodAll enc Tryz.prog W 0 (fun _ => true) true Tryz.f6.params.toList args.toList ds p := hA0
  rw [Tryz.params6] at hA hval
  obtain ⟨v0, vs0, d0, ds0, p0, q0, hargs, rfl, rfl, h0, r0⟩ := trodAll_cons hA
  obtain ⟨v1, vs1, d1, ds1, p1, q1, rfl, rfl, rfl, h1, r1⟩ := trodAll_cons r0
  obtain ⟨v2, vs2, d2, ds2, p2, q2, rfl, rfl, rfl, h2, r2⟩ := trodAll_cons r1
  obtain ⟨rfl, rfl, rfl⟩ := trodAll_nil r2
  obtain rfl : args = #[v0, v1, v2] := by cases args; simp_all
  obtain ⟨rfl, rfl⟩ := trodVars_none hV
  have k0 := h0
  have lt0 : ∀ x ∈ p0, x.block < W.heap.size := by obtain ⟨m, hm⟩ := k0; exact DataW.trod_lt m _ _ _ hm
  have k1 := h1
  have lt1 : ∀ x ∈ p1, x.block < W.heap.size := by obtain ⟨m, hm⟩ := k1; exact DataW.trod_lt m _ _ _ hm
  have k2 := h2
  have lt2 : ∀ x ∈ p2, x.block < W.heap.size := by obtain ⟨m, hm⟩ := k2; exact DataW.trod_lt m _ _ _ hm
  obtain ⟨x0, rfl, row0, hd0⟩ := open_AgA (hval 0 104 v0 rfl rfl) h0
  have hlen0 : x0.xs.length ≤ 17592186043904 := by
    rcases hd0 with e | ⟨e0, e1, es, sp, rfl, he⟩
    · rw [e]; simp
    · have hb : Tryz.prog.bytesOf 2 = 8 := by kernel_rfl
      have hz := List.all_eq_true.1 (show (DataW.weightsEach Tryz.prog _ _).all (· ≤ reachBytes) = true from hsz) _ (DataW.weights_mem_each (j := 0) (t := 104) (d := .agg [e0, e1, .slice es sp]) rfl rfl ((es.length + sp.length) * 8) (by
        simp only [DataW.weights, Tryz.underlying104]
        exact DataW.weights_mem_each (j := 2) (t := 102) (d := .slice es sp) rfl rfl _ (by simp [DataW.weights, Tryz.underlying102, hb])))
      simp only [decide_eq_true_eq] at hz
      have h3 : reachBytes = 140737488351232 := rfl
      omega
  obtain ⟨x1, rfl, w1⟩ := open_KyA (hval 1 38 v1 rfl rfl) h1
  obtain ⟨x2, rfl, w2⟩ := open_OuA (hval 2 42 v2 rfl rfl) h2
  clear hA0 hval0
  refine (stale_law W x0 x1 x2 row0 hlen0 w1).mono fun e W' ⟨he, ht⟩ => ?_
  subst he
  have bel : Below W.heap.size W W' := ht.below (fun _ h => by cases h) (Nat.le_refl _)
  exact ⟨_, rfl, _, _, _, [], _, [], hW', trodAll_mk1 (shut_bool Tryz.underlying4 _), (trodAll_cons_mk (Below.trod laidOut (by kernel_rfl) (of_decide_eq_true (by kernel_rfl)) k0 bel lt0) (trodAll_cons_mk (Below.trod laidOut (by kernel_rfl) (of_decide_eq_true (by kernel_rfl)) k1 bel lt1) (trodAll_cons_mk (Below.trod laidOut (by kernel_rfl) (of_decide_eq_true (by kernel_rfl)) k2 bel lt2) trodAll_mk0))), rfl, bel.frame _, fun h => by cases h⟩
theorem over : Rows.groupStaleRow.holds Tryz.pinned (OpenSpec.ofChange Rows.groupStaleSpec) :=
  OpenClaim.holds_of_wide 6 Tryz.f6 rfl rfl rfl rfl rfl rfl rfl ⟨rfl, rfl, rfl, rfl, rfl⟩ rfl rfl rfl rfl rfl (by kernel_rfl) Tryz.func6 (by kernel_rfl)
    (of_decide_eq_true (by kernel_rfl)) (by unfold Func.isWrapper; first | (rw [if_pos (by decide +kernel)]; kernel_rfl) | (rw [if_neg (by decide +kernel)]; exact ⟨rfl, rfl⟩))
    (fun os started H enc _ => lifted os started H enc)
end Go.Proofs.YtkfophlhpjbmgaaGreat.groupStale
namespace Go.Proofs.YtkfophlhpjbmgaaGreat
theorem groupStale_holds : Rows.GroupStaleSaid := groupStale.over
#print axioms groupStale_holds
end Go.Proofs.YtkfophlhpjbmgaaGreat
