/- Of every schedule, policy and list of acts: with the places that were picked as the schedule, the same wakes, rests and picks tell the same, whatever the policy; lengths are within the form's reach. -/
import Derived.Test.YthpkkfmphoopnaaRows
import Derived.WalkKit
import Derived.ProofKit
import Derived.OpenShut
import Derived.ShutString
import Derived.SizedLaws
import Derived.Test.YthpkkfmphoopnaaJop
import Derived.Test.YthpkkfmphoopnaaJax
namespace Go.Proofs.Ythpkkfmphoopnaa.readyAgain
open Go.ChangeShapes Go.WideShapes Go.ChangeAt Go.RowKit
set_option linter.unusedVariables false
theorem own : ownKnob Try.prog.godebug = none := by kernel_rfl
set_option maxRecDepth 100000 in
theorem lifted (os : Go.Os) (started : os.Started) (H : Type) (enc : TypeId × Value → H) :
    ReturnsInHanded {} Try.checked os 4 .any (Rows.readyAgainSpec.pre6 enc Try.prog Try.f4 Rows.readyAgainRow.domain false) (Rows.readyAgainSpec.post enc Try.prog Try.f4 false true false false) := by
  refine returnsInHanded_of_change_sized (C := Try.checked) own started (by kernel_rfl) Try.func4
    (ChangeSpec.witness6 (enc := enc) (C := Try.checked) false ⟨#[], #[.agg #[.int .i64 0, .int .u64 0, .slice none 0 0], .int .i64 0, .slice none 0 0], []⟩ 8 (by kernel_rfl) (by kernel_rfl) (by kernel_rfl) (by kernel_rfl)) ?_
  intro W base args ds gs before hval0 hW hcnd hsz _
  have hval : ∀ (j : Nat) t v, Try.f4.params[j]? = some t → args[j]? = some v → Value.okWide Try.prog W .any base t v := hval0
  have hW' := hW
  obtain ⟨p, q, hA0, hV, rfl, hfz, hnd⟩ := hW
  have hA : DataW.TrodAll enc Try.prog W 0 (fun _ => true) true Try.f4.params.toList args.toList ds p := hA0
  rw [Try.params4] at hA hval
  obtain ⟨v0, vs0, d0, ds0, p0, q0, hargs, rfl, rfl, h0, r0⟩ := trodAll_cons hA
  obtain ⟨v1, vs1, d1, ds1, p1, q1, rfl, rfl, rfl, h1, r1⟩ := trodAll_cons r0
  obtain ⟨v2, vs2, d2, ds2, p2, q2, rfl, rfl, rfl, h2, r2⟩ := trodAll_cons r1
  obtain ⟨rfl, rfl, rfl⟩ := trodAll_nil r2
  obtain rfl : args = #[v0, v1, v2] := by cases args; simp_all
  obtain ⟨rfl, rfl⟩ := trodVars_none hV
  have k0 := h0
  have lt0 : ∀ x ∈ p0, x.block < W.heap.size := by obtain ⟨m, hm⟩ := k0; exact DataW.trod_lt m _ _ _ hm
  have k2 := h2
  have lt2 : ∀ x ∈ p2, x.block < W.heap.size := by obtain ⟨m, hm⟩ := k2; exact DataW.trod_lt m _ _ _ hm
  obtain ⟨x0, rfl, row0, hd0⟩ := open_SchA (hval 0 25 v0 rfl rfl) h0
  have hlen0 : x0.xs.length ≤ 17592186043904 := by
    rcases hd0 with e | ⟨e0, e1, es, sp, rfl, he⟩
    · rw [e]; simp
    · have hb : Try.prog.bytesOf 3 = 8 := by kernel_rfl
      have hz := List.all_eq_true.1 (show (DataW.weightsEach Try.prog _ _).all (· ≤ reachBytes) = true from hsz) _ (DataW.weights_mem_each (j := 0) (t := 25) (d := .agg [e0, e1, .slice es sp]) rfl rfl ((es.length + sp.length) * 8) (by
        simp only [DataW.weights, Try.underlying25]
        exact DataW.weights_mem_each (j := 2) (t := 23) (d := .slice es sp) rfl rfl _ (by simp [DataW.weights, Try.underlying23, hb])))
      simp only [decide_eq_true_eq] at hz
      have h3 : reachBytes = 140737488351232 := rfl
      omega
  obtain ⟨a1, rfl, rfl, rfl, w1⟩ := open_int Try.underlying3 (hval 1 3 v1 rfl rfl) h1
  obtain ⟨xs2, row2, wf2, hd2⟩ := open_ActRs (hval 2 26 v2 rfl rfl) h2
  have hlen2 : xs2.length ≤ 8796093021952 := by
    rcases hd2 with rfl | ⟨es, sp, rfl, he⟩
    · simp
    · have hz : (es.length + sp.length) * Try.prog.bytesOf 38 ≤ reachBytes := sized_slice hsz (j := 2) (t := 26) (e := 38) (elems := es) (spare := sp) rfl rfl Try.underlying26
      have hb : Try.prog.bytesOf 38 = 16 := by kernel_rfl
      rw [hb] at hz
      have h3 : reachBytes = 140737488351232 := rfl
      omega
  clear hA0 hval0
  refine (Re.again_ W x0 a1 xs2 v2 row0 hlen0 w1 row2 wf2 hlen2).mono fun e W' ⟨he, ht⟩ => ?_
  subst he
  have bel : Below W.heap.size W W' := ht.below (fun _ h => by cases h) (Nat.le_refl _)
  exact ⟨_, rfl, _, _, _, [], _, [], hW', trodAll_mk1 (shut_bool Try.underlying4 _), (trodAll_cons_mk (Below.trod laidOut (by kernel_rfl) (of_decide_eq_true (by kernel_rfl)) k0 bel lt0) (trodAll_cons_mk (shut_int Try.underlying3 w1) (trodAll_cons_mk (Below.trod laidOut (by kernel_rfl) (of_decide_eq_true (by kernel_rfl)) k2 bel lt2) trodAll_mk0))), rfl, bel.frame _, fun h => by cases h⟩
theorem over : Rows.readyAgainRow.holds Try.pinned (OpenSpec.ofChange Rows.readyAgainSpec) :=
  OpenClaim.holds_of_wide 4 Try.f4 rfl rfl rfl rfl rfl rfl rfl ⟨rfl, rfl, rfl, rfl, rfl⟩ rfl rfl rfl rfl rfl (by kernel_rfl) Try.func4 (by kernel_rfl)
    (of_decide_eq_true (by kernel_rfl)) (by unfold Func.isWrapper; first | (rw [if_pos (by decide +kernel)]; kernel_rfl) | (rw [if_neg (by decide +kernel)]; exact ⟨rfl, rfl⟩))
    (fun os started H enc _ => lifted os started H enc)
end Go.Proofs.Ythpkkfmphoopnaa.readyAgain

namespace Go.Proofs.Ythpkkfmphoopnaa
theorem readyAgain_holds : Rows.ReadyAgainSaid := readyAgain.over
#print axioms readyAgain_holds
end Go.Proofs.Ythpkkfmphoopnaa
