/- SnapshotTells holds: for every whole and every text the law returns true, and the input reads as it did; no conditions. -/
import Derived.Test.YtpefbmheblfbeaaGreatRows
import Derived.WalkKit
import Derived.ProofKit
import Derived.OpenShut
import Derived.ShutString
import Derived.SizedLaws
import Derived.Test.YtpefbmheblfbeaaGreatQt12
import Derived.Test.YtpefbmheblfbeaaGreatQt06
namespace Go.Proofs.YtpefbmheblfbeaaGreat.snapshotTells
open Go.ChangeShapes Go.WideShapes Go.ChangeAt Go.RowKit
set_option linter.unusedVariables false
theorem own : ownKnob Tryz.prog.godebug = none := by kernel_rfl
set_option maxRecDepth 100000 in
theorem lifted (os : Go.Os) (started : os.Started) (H : Type) (enc : TypeId × Value → H) :
    ReturnsInHanded {} Tryz.checked os 3 .any (Rows.snapshotTellsSpec.pre6 enc Tryz.prog Tryz.f3 Rows.snapshotTellsRow.domain false) (Rows.snapshotTellsSpec.post enc Tryz.prog Tryz.f3 false true false false) := by
  refine returnsInHanded_of_change_sized (C := Tryz.checked) own started (by kernel_rfl) Tryz.func3
    (ChangeSpec.witness6 (enc := enc) (C := Tryz.checked) false ⟨#[], #[.agg #[.int .i64 0, .int .i64 0, .int .i64 0, .int .i64 0, .int .i64 0, .int .i64 0, .int .i64 0, .int .i64 0, .slice none 0 0], .string ⟨#[]⟩], []⟩ 8 (by kernel_rfl) (by kernel_rfl) (by kernel_rfl) (by kernel_rfl)) ?_
  intro W base args ds gs before hval0 hW hcnd hsz _
  have hval : ∀ (j : Nat) t v, Tryz.f3.params[j]? = some t → args[j]? = some v → Value.okWide Tryz.prog W .any base t v := hval0
  have hW' := hW
  obtain ⟨p, q, hA0, hV, rfl, hfz, hnd⟩ := hW
  have hA : DataW.TrodAll enc Tryz.prog W 0 (fun _ => true) true Tryz.f3.params.toList args.toList ds p := hA0
  rw [Tryz.params3] at hA hval
  obtain ⟨v0, vs0, d0, ds0, p0, q0, hargs, rfl, rfl, h0, r0⟩ := trodAll_cons hA
  obtain ⟨v1, vs1, d1, ds1, p1, q1, rfl, rfl, rfl, h1, r1⟩ := trodAll_cons r0
  obtain ⟨rfl, rfl, rfl⟩ := trodAll_nil r1
  obtain rfl : args = #[v0, v1] := by cases args; simp_all
  obtain ⟨rfl, rfl⟩ := trodVars_none hV
  have k0 := h0
  have lt0 : ∀ x ∈ p0, x.block < W.heap.size := by obtain ⟨m, hm⟩ := k0; exact DataW.trod_lt m _ _ _ hm
  obtain ⟨c0, n0, u0, x0, rfl, wc0, wn0, ra0, ok0, hd0⟩ := Sn.open_whole (hval 0 26 v0 rfl rfl) h0
  have hlen0 : x0.length ≤ 2199023255488 := by
    rcases hd0 with rfl | ⟨l0, l1, es, sp, rfl, he⟩
    · simp
    · have := Sn.sized_whole hsz (j := 0) (es := es) (sp := sp) (l0 := l0) (l1 := l1) rfl rfl
      omega
  obtain ⟨s1, rfl, rfl, rfl, ws1⟩ := ChangeMaps.open_string Tryz.underlying9 (hval 1 9 v1 rfl rfl) h1
  have sz1 : s1.size ≤ 140737488351232 := by
    have h3 := sized_string hsz (j := 1) (t := 9) (bytes := s1.data.toList) rfl rfl
    have h4 : reachBytes = 140737488351232 := rfl
    have h5 : s1.data.toList.length = s1.size := by simp
    omega
  clear hA0 hval0
  refine (Sn.tellsL_ W c0 n0 u0 x0 s1 wc0 wn0 ra0 ok0 hlen0 sz1).mono fun e W' ⟨he, ht⟩ => ?_
  subst he
  have bel : Below W.heap.size W W' := ht.below (fun _ h => by cases h) (Nat.le_refl _)
  exact ⟨_, rfl, _, _, _, [], _, [], hW', trodAll_mk1 (shut_bool Tryz.underlying4 _), (trodAll_cons_mk (Below.trod Me.laidOut (by kernel_rfl) (of_decide_eq_true (by kernel_rfl)) k0 bel lt0) (trodAll_cons_mk (ChangeMaps.shut_string Tryz.underlying9 ws1) trodAll_mk0)), rfl, bel.frame _, fun h => by cases h⟩
theorem over : Rows.snapshotTellsRow.holds Tryz.pinned (OpenSpec.ofChange Rows.snapshotTellsSpec) :=
  OpenClaim.holds_of_wide 3 Tryz.f3 rfl rfl rfl rfl rfl rfl rfl ⟨rfl, rfl, rfl, rfl, rfl⟩ rfl rfl rfl rfl rfl (by kernel_rfl) Tryz.func3 (by kernel_rfl)
    (of_decide_eq_true (by kernel_rfl)) (by unfold Func.isWrapper; first | (rw [if_pos (by decide +kernel)]; kernel_rfl) | (rw [if_neg (by decide +kernel)]; exact ⟨rfl, rfl⟩))
    (fun os started H enc _ => lifted os started H enc)
end Go.Proofs.YtpefbmheblfbeaaGreat.snapshotTells
namespace Go.Proofs.YtpefbmheblfbeaaGreat
theorem snapshotTells_holds : Rows.SnapshotTellsSaid := snapshotTells.over
#print axioms snapshotTells_holds
end Go.Proofs.YtpefbmheblfbeaaGreat
