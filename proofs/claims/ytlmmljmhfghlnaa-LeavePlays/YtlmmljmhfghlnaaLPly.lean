/- Of every list of acts and every runs: seats that are sat down on, stood up from, ended, cancelled and copied in whatever order say what the document's say (promises 15.1 to 15.4); no conditions. -/
import Derived.Test.YtlmmljmhfghlnaaRows
import Derived.WalkKit
import Derived.ProofKit
import Derived.OpenShut
import Derived.ShutString
import Derived.SizedLaws
import Derived.Test.YtlmmljmhfghlnaaVly
namespace Go.Proofs.Ytlmmljmhfghlnaa.leavePlays
open Go.ChangeShapes Go.WideShapes Go.ChangeAt Go.RowKit
set_option linter.unusedVariables false
theorem own : ownKnob Try.prog.godebug = none := by kernel_rfl
set_option maxRecDepth 100000 in
theorem lifted (os : Go.Os) (started : os.Started) (H : Type) (enc : TypeId × Value → H) :
    ReturnsInHanded {} Try.checked os 3 .any (Rows.leavePlaysSpec.pre6 enc Try.prog Try.f3 Rows.leavePlaysRow.domain false) (Rows.leavePlaysSpec.post enc Try.prog Try.f3 false true false false) := by
  refine returnsInHanded_of_change_sized (C := Try.checked) own started (by kernel_rfl) Try.func3
    (ChangeSpec.witness6 (enc := enc) (C := Try.checked) false ⟨#[], #[.slice none 0 0, .slice none 0 0], []⟩ 8 (by kernel_rfl) (by kernel_rfl) (by kernel_rfl) (by kernel_rfl)) ?_
  intro W base args ds gs before hval0 hW hcnd hsz _
  have hval : ∀ (j : Nat) t v, Try.f3.params[j]? = some t → args[j]? = some v → Value.okWide Try.prog W .any base t v := hval0
  have hW' := hW
  obtain ⟨p, q, hA0, hV, rfl, hfz, hnd⟩ := hW
  have hA : DataW.TrodAll enc Try.prog W 0 (fun _ => true) true Try.f3.params.toList args.toList ds p := hA0
  rw [Try.params3] at hA hval
  obtain ⟨v0, vs0, d0, ds0, p0, q0, hargs, rfl, rfl, h0, r0⟩ := trodAll_cons hA
  obtain ⟨v1, vs1, d1, ds1, p1, q1, rfl, rfl, rfl, h1, r1⟩ := trodAll_cons r0
  obtain ⟨rfl, rfl, rfl⟩ := trodAll_nil r1
  obtain rfl : args = #[v0, v1] := by cases args; simp_all
  obtain ⟨rfl, rfl⟩ := trodVars_none hV
  have k0 := h0
  have lt0 : ∀ x ∈ p0, x.block < W.heap.size := by obtain ⟨m, hm⟩ := k0; exact DataW.trod_lt m _ _ _ hm
  have k1 := h1
  have lt1 : ∀ x ∈ p1, x.block < W.heap.size := by obtain ⟨m, hm⟩ := k1; exact DataW.trod_lt m _ _ _ hm
  obtain ⟨xs0, row0, wf0, hd0⟩ := open_ActVs (hval 0 22 v0 rfl rfl) h0
  have hlen0 : xs0.length ≤ 4398046510976 := by
    rcases hd0 with rfl | ⟨es, sp, rfl, he⟩
    · simp
    · have hz : (es.length + sp.length) * Try.prog.bytesOf 35 ≤ reachBytes := sized_slice hsz (j := 0) (t := 22) (e := 35) (elems := es) (spare := sp) rfl rfl Try.underlying22
      have hb : Try.prog.bytesOf 35 = 32 := by kernel_rfl
      rw [hb] at hz
      have h3 : reachBytes = 140737488351232 := rfl
      omega
  obtain ⟨xs1, row1, wf1, hd1⟩ := open_ints (hval 1 23 v1 rfl rfl) h1
  have hlen1 : xs1.length ≤ 17592186043904 := by
    rcases hd1 with rfl | ⟨es, sp, rfl, he⟩
    · simp
    · have hz : (es.length + sp.length) * Try.prog.bytesOf 3 ≤ reachBytes := sized_slice hsz (j := 1) (t := 23) (e := 3) (elems := es) (spare := sp) rfl rfl Try.underlying23
      have hb : Try.prog.bytesOf 3 = 8 := by kernel_rfl
      rw [hb] at hz
      have h3 : reachBytes = 140737488351232 := rfl
      omega
  clear hA0 hval0
  refine (plays_ W xs0 v0 xs1 v1 row0 wf0 hlen0 row1 wf1 hlen1).mono fun e W' ⟨he, ht⟩ => ?_
  subst he
  have bel : Below W.heap.size W W' := ht.below (fun _ h => by cases h) (Nat.le_refl _)
  exact ⟨_, rfl, _, _, _, [], _, [], hW', trodAll_mk1 (shut_bool Try.underlying4 _), (trodAll_cons_mk (Below.trod laidOut (by kernel_rfl) (of_decide_eq_true (by kernel_rfl)) k0 bel lt0) (trodAll_cons_mk (Below.trod laidOut (by kernel_rfl) (of_decide_eq_true (by kernel_rfl)) k1 bel lt1) trodAll_mk0)), rfl, bel.frame _, fun h => by cases h⟩
theorem over : Rows.leavePlaysRow.holds Try.pinned (OpenSpec.ofChange Rows.leavePlaysSpec) :=
  OpenClaim.holds_of_wide 3 Try.f3 rfl rfl rfl rfl rfl rfl rfl ⟨rfl, rfl, rfl, rfl, rfl⟩ rfl rfl rfl rfl rfl (by kernel_rfl) Try.func3 (by kernel_rfl)
    (of_decide_eq_true (by kernel_rfl)) (by unfold Func.isWrapper; first | (rw [if_pos (by decide +kernel)]; kernel_rfl) | (rw [if_neg (by decide +kernel)]; exact ⟨rfl, rfl⟩))
    (fun os started H enc _ => lifted os started H enc)
end Go.Proofs.Ytlmmljmhfghlnaa.leavePlays

namespace Go.Proofs.Ytlmmljmhfghlnaa
theorem leavePlays_holds : Rows.LeavePlaysSaid := leavePlays.over
#print axioms leavePlays_holds
end Go.Proofs.Ytlmmljmhfghlnaa
