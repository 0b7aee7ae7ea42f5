/- Of every schedule and every list of acts: who becomes ready, is picked and rests, by any policy and picks, is as in the document's list, and all stands so behind each act; lengths are within the form's reach. -/
import Derived.Test.YthpkkfmphoopnaaRows
import Derived.WalkKit
import Derived.ProofKit
import Derived.OpenShut
import Derived.ShutString
import Derived.SizedLaws
import Derived.Test.YthpkkfmphoopnaaJop
import Derived.Test.YthpkkfmphoopnaaJpz
namespace Go.Proofs.Ythpkkfmphoopnaa.readyPlays
open Go.ChangeShapes Go.WideShapes Go.ChangeAt Go.RowKit
set_option linter.unusedVariables false
theorem own : ownKnob Try.prog.godebug = none := by kernel_rfl
set_option maxRecDepth 100000 in
theorem lifted (os : Go.Os) (started : os.Started) (H : Type) (enc : TypeId × Value → H) :
    ReturnsInHanded {} Try.checked os 3 .any (Rows.readyPlaysSpec.pre6 enc Try.prog Try.f3 Rows.readyPlaysRow.domain false) (Rows.readyPlaysSpec.post enc Try.prog Try.f3 false true false false) := by
  refine returnsInHanded_of_change_sized (C := Try.checked) own started (by kernel_rfl) Try.func3
    (ChangeSpec.witness6 (enc := enc) (C := Try.checked) false ⟨#[], #[.agg #[.int .i64 0, .int .u64 0, .slice none 0 0], .slice none 0 0], []⟩ 8 (by kernel_rfl) (by kernel_rfl) (by kernel_rfl) (by kernel_rfl)) ?_
  intro W base args ds gs before hval0 hW hcnd hsz _
  have hval : ∀ (j : Nat) t v, Try.f3.params[j]? = some t → args[j]? = some v → Value.okWide Try.prog W .any base t v := hval0
  have hW' := hW
  obtain ⟨p, q, hA0, hV, rfl, hfz, hnd⟩ := hW
  have hA : DataW.TrodAll enc Try.prog W 0 (fun _ => true) true Try.f3.params.toList args.toList ds p := hA0
  rw [Try.params3] at hA hval
  obtain ⟨v0, vs0, d0, ds0, p0, q0, hargs, rfl, rfl, h0, r0⟩ := trodAll_cons hA
  obtain ⟨v1, vs1, d1, ds1, p1, q1, rfl, rfl, rfl, h1, r1⟩ := trodAll_cons r0
  obtain ⟨rfl, rfl, rfl⟩ := trodAll_nil r1
  obtain rfl : args = #[v0, v1] := by cases args; simp_all
  obtain ⟨rfl, rfl⟩ := trodVars_none hV
  have k0 := h0
  have lt0 : ∀ x ∈ p0, x.block < W.heap.size := by obtain ⟨m, hm⟩ := k0; exact DataW.trod_lt m _ _ _ hm
  have k1 := h1
  have lt1 : ∀ x ∈ p1, x.block < W.heap.size := by obtain ⟨m, hm⟩ := k1; exact DataW.trod_lt m _ _ _ hm
  obtain ⟨x0, rfl, row0, hd0⟩ := open_SchA (hval 0 25 v0 rfl rfl) h0
  have hlen0 : x0.xs.length ≤ 17592186043904 := by
    rcases hd0 with e | ⟨e0, e1, es, sp, rfl, he⟩
    · rw [e]; simp
    · have hb : Try.prog.bytesOf 3 = 8 := by kernel_rfl
      have hz := List.all_eq_true.1 (show (DataW.weightsEach Try.prog _ _).all (· ≤ reachBytes) = true from hsz) _ (DataW.weights_mem_each (j := 0) (t := 25) (d := .agg [e0, e1, .slice es sp]) rfl rfl ((es.length + sp.length) * 8) (by
        simp only [DataW.weights, Try.underlying25]
        exact DataW.weights_mem_each (j := 2) (t := 23) (d := .slice es sp) rfl rfl _ (by simp [DataW.weights, Try.underlying23, hb])))
      simp only [decide_eq_true_eq] at hz
      have h3 : reachBytes = 140737488351232 := rfl
      omega
  obtain ⟨xs1, row1, wf1, hd1⟩ := open_ActRs (hval 1 26 v1 rfl rfl) h1
  have hlen1 : xs1.length ≤ 8796093021952 := by
    rcases hd1 with rfl | ⟨es, sp, rfl, he⟩
    · simp
    · have hz : (es.length + sp.length) * Try.prog.bytesOf 38 ≤ reachBytes := sized_slice hsz (j := 1) (t := 26) (e := 38) (elems := es) (spare := sp) rfl rfl Try.underlying26
      have hb : Try.prog.bytesOf 38 = 16 := by kernel_rfl
      rw [hb] at hz
      have h3 : reachBytes = 140737488351232 := rfl
      omega
  clear hA0 hval0
  refine (Re.plays_ W x0 xs1 v1 row0 hlen0 row1 wf1 hlen1).mono fun e W' ⟨he, ht⟩ => ?_
  subst he
  have bel : Below W.heap.size W W' := ht.below (fun _ h => by cases h) (Nat.le_refl _)
  exact ⟨_, rfl, _, _, _, [], _, [], hW', trodAll_mk1 (shut_bool Try.underlying4 _), (trodAll_cons_mk (Below.trod laidOut (by kernel_rfl) (of_decide_eq_true (by kernel_rfl)) k0 bel lt0) (trodAll_cons_mk (Below.trod laidOut (by kernel_rfl) (of_decide_eq_true (by kernel_rfl)) k1 bel lt1) trodAll_mk0)), rfl, bel.frame _, fun h => by cases h⟩
theorem over : Rows.readyPlaysRow.holds Try.pinned (OpenSpec.ofChange Rows.readyPlaysSpec) :=
  OpenClaim.holds_of_wide 3 Try.f3 rfl rfl rfl rfl rfl rfl rfl ⟨rfl, rfl, rfl, rfl, rfl⟩ rfl rfl rfl rfl rfl (by kernel_rfl) Try.func3 (by kernel_rfl)
    (of_decide_eq_true (by kernel_rfl)) (by unfold Func.isWrapper; first | (rw [if_pos (by decide +kernel)]; kernel_rfl) | (rw [if_neg (by decide +kernel)]; exact ⟨rfl, rfl⟩))
    (fun os started H enc _ => lifted os started H enc)
end Go.Proofs.Ythpkkfmphoopnaa.readyPlays

namespace Go.Proofs.Ythpkkfmphoopnaa
theorem readyPlays_holds : Rows.ReadyPlaysSaid := readyPlays.over
#print axioms readyPlays_holds
end Go.Proofs.Ythpkkfmphoopnaa
