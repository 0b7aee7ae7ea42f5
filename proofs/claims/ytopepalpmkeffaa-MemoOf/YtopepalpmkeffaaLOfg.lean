/- The law MemoOf of the program's tenth layer, proved at every input within the form's reach; no conditions. -/
import Derived.Test.YtopepalpmkeffaaRows
import Derived.WalkKit
import Derived.ProofKit
import Derived.OpenShut
import Derived.ShutString
import Derived.SizedLaws
import Derived.Test.YtopepalpmkeffaaOpn
import Derived.Test.YtopepalpmkeffaaOpa
import Derived.Test.YtopepalpmkeffaaGmo
namespace Go.Proofs.Ytopepalpmkeffaa.memoOf
open Go.ChangeShapes Go.WideShapes Go.ChangeAt Go.RowKit
set_option linter.unusedVariables false
theorem own : ownKnob Try.prog.godebug = none := by kernel_rfl
set_option maxRecDepth 100000 in
theorem lifted (os : Os) (started : os.Started) (H : Type) (enc : TypeId × Value → H) :
    ReturnsInHanded {} Try.checked os 4 .any (Rows.memoOfSpec.pre6 enc Try.prog Try.f4 Rows.memoOfRow.domain false) (Rows.memoOfSpec.post enc Try.prog Try.f4 false true false false) := by
  refine returnsInHanded_of_change_sized (C := Try.checked) own started (by kernel_rfl) Try.func4
    (ChangeSpec.witness6 (enc := enc) (C := Try.checked) false ⟨#[], #[.agg #[.int .i64 0, .int .i64 0, .int .i64 0, .int .i64 0, .int .i64 0, .int .i64 0, .int .i64 0], .agg #[.int .i64 0, .slice none 0 0], .slice none 0 0], []⟩ 8 (by kernel_rfl) (by kernel_rfl) (by kernel_rfl) (by kernel_rfl)) ?_
  intro W base args ds gs before hval0 hW hcnd hsz _
  have hval : ∀ (j : Nat) t v, Try.f4.params[j]? = some t → args[j]? = some v → Value.okWide Try.prog W .any base t v := hval0
  have hW' := hW
  obtain ⟨p, q, hA0, hV, rfl, hfz, hnd⟩ := hW
  have hA : DataW.TrodAll enc Try.prog W 0 (fun _ => true) true Try.f4.params.toList args.toList ds p := hA0
  rw [Try.params4] at hA hval
  obtain ⟨v0, vs0, d0, ds0, p0, q0, hargs, rfl, rfl, h0, r0⟩ := trodAll_cons hA
  obtain ⟨v1, vs1, d1, ds1, p1, q1, rfl, rfl, rfl, h1, r1⟩ := trodAll_cons r0
  obtain ⟨v2, vs2, d2, ds2, p2, q2, rfl, rfl, rfl, h2, r2⟩ := trodAll_cons r1
  obtain ⟨rfl, rfl, rfl⟩ := trodAll_nil r2
  obtain rfl : args = #[v0, v1, v2] := by cases args; simp_all
  obtain ⟨rfl, rfl⟩ := trodVars_none hV
  have k0 := h0
  have lt0 : ∀ x ∈ p0, x.block < W.heap.size := by obtain ⟨m, hm⟩ := k0; exact DataW.trod_lt m _ _ _ hm
  have k1 := h1
  have lt1 : ∀ x ∈ p1, x.block < W.heap.size := by obtain ⟨m, hm⟩ := k1; exact DataW.trod_lt m _ _ _ hm
  have k2 := h2
  have lt2 : ∀ x ∈ p2, x.block < W.heap.size := by obtain ⟨m, hm⟩ := k2; exact DataW.trod_lt m _ _ _ hm
  obtain ⟨x0, rfl, w0⟩ := open_cfg (hval 0 23 v0 rfl rfl) h0
  obtain ⟨now1, u1, es1, rfl, wn1, se1, oke1, hd1⟩ := open_whole (hval 1 52 v1 rfl rfl) h1
  have hel1 : es1.length ≤ 2199023255488 := by
    rcases hd1 with rfl | ⟨l, el, sp, rfl, he⟩
    · simp
    · have := sized_whole hsz (j := 1) (l := l) (es := el) (sp := sp) rfl rfl
      omega
  obtain ⟨xs2, row2, wf2, hd2⟩ := open_acts (hval 2 24 v2 rfl rfl) h2
  have hlen2 : xs2.length ≤ 1759218604390 := by
    rcases hd2 with rfl | ⟨es, sp, rfl, he⟩
    · simp
    · have hz : (es.length + sp.length) * Try.prog.bytesOf 45 ≤ reachBytes := sized_slice hsz (j := 2) (t := 24) (e := 45) (elems := es) (spare := sp) rfl rfl Try.underlying24
      have hb : Try.prog.bytesOf 45 = 80 := by kernel_rfl
      rw [hb] at hz
      have h3 : reachBytes = 140737488351232 := rfl
      omega
  clear hA0 hval0
  refine (law4 W x0 now1 u1 es1 xs2 v2 w0 se1 oke1 hel1 row2 wf2 hlen2).mono fun e W' ⟨he, ht⟩ => ?_
  subst he
  have bel : Below W.heap.size W W' := ht.below (fun _ h => by cases h) (Nat.le_refl _)
  exact ⟨_, rfl, _, _, _, [], _, [], hW', trodAll_mk1 (shut_bool Try.underlying4 _), (trodAll_cons_mk (Below.trod laidOut (by kernel_rfl) (of_decide_eq_true (by kernel_rfl)) k0 bel lt0) (trodAll_cons_mk (Below.trod laidOut (by kernel_rfl) (of_decide_eq_true (by kernel_rfl)) k1 bel lt1) (trodAll_cons_mk (Below.trod laidOut (by kernel_rfl) (of_decide_eq_true (by kernel_rfl)) k2 bel lt2) trodAll_mk0))), rfl, bel.frame _, fun h => by cases h⟩
theorem over : Rows.memoOfRow.holds Try.pinned (OpenSpec.ofChange Rows.memoOfSpec) :=
  OpenClaim.holds_of_wide 4 Try.f4 rfl rfl rfl rfl rfl rfl rfl ⟨rfl, rfl, rfl, rfl, rfl⟩ rfl rfl rfl rfl rfl (by kernel_rfl) Try.func4 (by kernel_rfl)
    (of_decide_eq_true (by kernel_rfl)) (by unfold Func.isWrapper; first | (rw [if_pos (by decide +kernel)]; kernel_rfl) | (rw [if_neg (by decide +kernel)]; exact ⟨rfl, rfl⟩))
    (fun os started H enc _ => lifted os started H enc)
end Go.Proofs.Ytopepalpmkeffaa.memoOf

namespace Go.Proofs.Ytopepalpmkeffaa
theorem memoOf_holds : Rows.MemoOfSaid := memoOf.over
#print axioms memoOf_holds
end Go.Proofs.Ytopepalpmkeffaa
