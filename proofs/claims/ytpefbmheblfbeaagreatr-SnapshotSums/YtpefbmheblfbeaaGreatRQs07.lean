/- SnapshotSums holds: for every text and two wholes the law returns true, and the input reads as it did; no conditions. -/
import Derived.Test.YtpefbmheblfbeaaGreatRRows
import Derived.WalkKit
import Derived.ProofKit
import Derived.OpenShut
import Derived.ShutString
import Derived.SizedLaws
import Derived.Test.YtpefbmheblfbeaaGreatRQs06
namespace Go.Proofs.YtpefbmheblfbeaaGreatR.snapshotSums
open Go.ChangeShapes Go.WideShapes Go.ChangeAt Go.RowKit
set_option linter.unusedVariables false
theorem own : ownKnob Tryz.prog.godebug = none := by kernel_rfl
set_option maxRecDepth 100000 in
theorem lifted (os : Go.Os) (started : os.Started) (H : Type) (enc : TypeId × Value → H) :
    ReturnsInHanded {} Tryz.checked os 5 .any (Rows.snapshotSumsSpec.pre6 enc Tryz.prog Tryz.f5 Rows.snapshotSumsRow.domain false) (Rows.snapshotSumsSpec.post enc Tryz.prog Tryz.f5 false true false false) := by
  refine returnsInHanded_of_change_sized (C := Tryz.checked) own started (by kernel_rfl) Tryz.func5
    (ChangeSpec.witness6 (enc := enc) (C := Tryz.checked) false ⟨#[], #[.string ⟨#[]⟩, .agg #[.int .i64 0, .int .i64 0, .int .i64 0, .int .i64 0, .int .i64 0, .int .i64 0, .int .i64 0, .int .i64 0, .slice none 0 0], .agg #[.int .i64 0, .int .i64 0, .int .i64 0, .int .i64 0, .int .i64 0, .int .i64 0, .int .i64 0, .int .i64 0, .slice none 0 0]], []⟩ 8 (by kernel_rfl) (by kernel_rfl) (by kernel_rfl) (by kernel_rfl)) ?_
  intro W base args ds gs before hval0 hW hcnd hsz _
  have hval : ∀ (j : Nat) t v, Tryz.f5.params[j]? = some t → args[j]? = some v → Value.okWide Tryz.prog W .any base t v := hval0
  have hW' := hW
  obtain ⟨p, q, hA0, hV, rfl, hfz, hnd⟩ := hW
  have hA : DataW.TrodAll enc Tryz.prog W 0 (fun _ => true) true Tryz.f5.params.toList args.toList ds p := hA0
  rw [Tryz.params5] at hA hval
  obtain ⟨v0, vs0, d0, ds0, p0, q0, hargs, rfl, rfl, h0, r0⟩ := trodAll_cons hA
  obtain ⟨v1, vs1, d1, ds1, p1, q1, rfl, rfl, rfl, h1, r1⟩ := trodAll_cons r0
  obtain ⟨v2, vs2, d2, ds2, p2, q2, rfl, rfl, rfl, h2, r2⟩ := trodAll_cons r1
  obtain ⟨rfl, rfl, rfl⟩ := trodAll_nil r2
  obtain rfl : args = #[v0, v1, v2] := by cases args; simp_all
  obtain ⟨rfl, rfl⟩ := trodVars_none hV
  have k1 := h1
  have lt1 : ∀ x ∈ p1, x.block < W.heap.size := by obtain ⟨m, hm⟩ := k1; exact DataW.trod_lt m _ _ _ hm
  have k2 := h2
  have lt2 : ∀ x ∈ p2, x.block < W.heap.size := by obtain ⟨m, hm⟩ := k2; exact DataW.trod_lt m _ _ _ hm
  obtain ⟨s0, rfl, rfl, rfl, ws0⟩ := ChangeMaps.open_string Tryz.underlying9 (hval 0 9 v0 rfl rfl) h0
  have sz0 : s0.size ≤ 140737488351232 := by
    have h3 := sized_string hsz (j := 0) (t := 9) (bytes := s0.data.toList) rfl rfl
    have h4 : reachBytes = 140737488351232 := rfl
    have h5 : s0.data.toList.length = s0.size := by simp
    omega
  obtain ⟨c1, n1, u1, x1, rfl, wc1, wn1, ra1, ok1, hd1⟩ := Sn.open_whole (hval 1 26 v1 rfl rfl) h1
  have hlen1 : x1.length ≤ 2199023255488 := by
    rcases hd1 with rfl | ⟨l0, l1, es, sp, rfl, he⟩
    · simp
    · have := Sn.sized_whole hsz (j := 1) (es := es) (sp := sp) (l0 := l0) (l1 := l1) rfl rfl
      omega
  obtain ⟨c2, n2, u2, x2, rfl, wc2, wn2, ra2, ok2, hd2⟩ := Sn.open_whole (hval 2 26 v2 rfl rfl) h2
  have hlen2 : x2.length ≤ 2199023255488 := by
    rcases hd2 with rfl | ⟨l0, l1, es, sp, rfl, he⟩
    · simp
    · have := Sn.sized_whole hsz (j := 2) (es := es) (sp := sp) (l0 := l0) (l1 := l1) rfl rfl
      omega
  clear hA0 hval0
  refine (Sn.sumsL_ W s0 c1 n1 u1 x1 c2 n2 u2 x2 sz0 wc1 wn1 ra1 ok1 hlen1 wc2 wn2 ra2 ok2 hlen2).mono fun e W' ⟨he, ht⟩ => ?_
  subst he
  have bel : Below W.heap.size W W' := ht.below (fun _ h => by cases h) (Nat.le_refl _)
  exact ⟨_, rfl, _, _, _, [], _, [], hW', trodAll_mk1 (shut_bool Tryz.underlying4 _), (trodAll_cons_mk (ChangeMaps.shut_string Tryz.underlying9 ws0) (trodAll_cons_mk (Below.trod Me.laidOut (by kernel_rfl) (of_decide_eq_true (by kernel_rfl)) k1 bel lt1) (trodAll_cons_mk (Below.trod Me.laidOut (by kernel_rfl) (of_decide_eq_true (by kernel_rfl)) k2 bel lt2) trodAll_mk0))), rfl, bel.frame _, fun h => by cases h⟩
theorem over : Rows.snapshotSumsRow.holds Tryz.pinned (OpenSpec.ofChange Rows.snapshotSumsSpec) :=
  OpenClaim.holds_of_wide 5 Tryz.f5 rfl rfl rfl rfl rfl rfl rfl ⟨rfl, rfl, rfl, rfl, rfl⟩ rfl rfl rfl rfl rfl (by kernel_rfl) Tryz.func5 (by kernel_rfl)
    (of_decide_eq_true (by kernel_rfl)) (by unfold Func.isWrapper; first | (rw [if_pos (by decide +kernel)]; kernel_rfl) | (rw [if_neg (by decide +kernel)]; exact ⟨rfl, rfl⟩))
    (fun os started H enc _ => lifted os started H enc)
end Go.Proofs.YtpefbmheblfbeaaGreatR.snapshotSums
namespace Go.Proofs.YtpefbmheblfbeaaGreatR
theorem snapshotSums_holds : Rows.SnapshotSumsSaid := snapshotSums.over
#print axioms snapshotSums_holds
end Go.Proofs.YtpefbmheblfbeaaGreatR
