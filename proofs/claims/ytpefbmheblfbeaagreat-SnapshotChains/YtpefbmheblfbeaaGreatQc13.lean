/- SnapshotChains: a memo that changes again and again is followed by patches, and the patch from the first to the last comes to the same: for every configuration, time, list and script that a machine may hold. -/
import Derived.Test.YtpefbmheblfbeaaGreatRows
import Derived.WalkKit
import Derived.ProofKit
import Derived.OpenShut
import Derived.ShutString
import Derived.SizedLaws
import Derived.Test.YtpefbmheblfbeaaGreatQc12
namespace Go.Proofs.YtpefbmheblfbeaaGreat.snapshotChains
open Go.ChangeShapes Go.WideShapes Go.ChangeAt Go.RowKit
set_option linter.unusedVariables false
theorem own : ownKnob Tryz.prog.godebug = none := by kernel_rfl
set_option maxRecDepth 100000 in
theorem lifted (os : Go.Os) (started : os.Started) (H : Type) (enc : TypeId × Value → H) :
    ReturnsInHanded {} Tryz.checked os 7 .any (Rows.snapshotChainsSpec.pre6 enc Tryz.prog Tryz.f7 Rows.snapshotChainsRow.domain false) (Rows.snapshotChainsSpec.post enc Tryz.prog Tryz.f7 false true false false) := by
  refine returnsInHanded_of_change_sized (C := Tryz.checked) own started (by kernel_rfl) Tryz.func7
    (ChangeSpec.witness6 (enc := enc) (C := Tryz.checked) false ⟨#[], #[.agg #[.int .i64 0, .int .i64 0, .int .i64 0, .int .i64 0, .int .i64 0, .int .i64 0, .int .i64 0, .int .i64 0, .slice none 0 0], .slice none 0 0], []⟩ 8 (by kernel_rfl) (by kernel_rfl) (by kernel_rfl) (by kernel_rfl)) ?_
  intro W base args ds gs before hval0 hW hcnd hsz _
  have hval : ∀ (j : Nat) t v, Tryz.f7.params[j]? = some t → args[j]? = some v → Value.okWide Tryz.prog W .any base t v := hval0
  have hW' := hW
  obtain ⟨p, q, hA0, hV, rfl, hfz, hnd⟩ := hW
  have hA : DataW.TrodAll enc Tryz.prog W 0 (fun _ => true) true Tryz.f7.params.toList args.toList ds p := hA0
  rw [Tryz.params7] at hA hval
  obtain ⟨v0, vs0, d0, ds0, p0, q0, hargs, rfl, rfl, h0, r0⟩ := trodAll_cons hA
  obtain ⟨v1, vs1, d1, ds1, p1, q1, rfl, rfl, rfl, h1, r1⟩ := trodAll_cons r0
  obtain ⟨rfl, rfl, rfl⟩ := trodAll_nil r1
  obtain rfl : args = #[v0, v1] := by cases args; simp_all
  obtain ⟨rfl, rfl⟩ := trodVars_none hV
  have k0 := h0
  have lt0 : ∀ x ∈ p0, x.block < W.heap.size := by obtain ⟨m, hm⟩ := k0; exact DataW.trod_lt m _ _ _ hm
  have k1 := h1
  have lt1 : ∀ x ∈ p1, x.block < W.heap.size := by obtain ⟨m, hm⟩ := k1; exact DataW.trod_lt m _ _ _ hm
  obtain ⟨c0, n0, u0, x0, rfl, wc0, wn0, ra0, ok0, hd0⟩ := Sn.open_whole (hval 0 26 v0 rfl rfl) h0
  have hlen0 : x0.length ≤ 2199023255488 := by
    rcases hd0 with rfl | ⟨l0, l1, es, sp, rfl, he⟩
    · simp
    · have := Sn.sized_whole hsz (j := 0) (es := es) (sp := sp) (l0 := l0) (l1 := l1) rfl rfl
      omega
  obtain ⟨xs1, row1, wf1, hd1⟩ := open_ChQs (hval 1 73 v1 rfl rfl) h1
  have hlen1 : xs1.length ≤ 1954687338212 := by
    rcases hd1 with rfl | ⟨es, sp, rfl, he⟩
    · simp
    · have hz : (es.length + sp.length) * Tryz.prog.bytesOf 75 ≤ reachBytes := sized_slice hsz (j := 1) (t := 73) (e := 75) (elems := es) (spare := sp) rfl rfl Tryz.underlying73
      have hb : Tryz.prog.bytesOf 75 = 72 := by kernel_rfl
      rw [hb] at hz
      have h3 : reachBytes = 140737488351232 := rfl
      omega
  clear hA0 hval0
  refine (Sn.chainsL_ W c0 n0 u0 x0 xs1 v1 wc0 wn0 ra0 ok0 hlen0 row1 wf1 hlen1).mono fun e W' ⟨he, ht⟩ => ?_
  subst he
  have bel : Below W.heap.size W W' := ht.below (fun _ h => by cases h) (Nat.le_refl _)
  exact ⟨_, rfl, _, _, _, [], _, [], hW', trodAll_mk1 (shut_bool Tryz.underlying4 _), (trodAll_cons_mk (Below.trod Me.laidOut (by kernel_rfl) (of_decide_eq_true (by kernel_rfl)) k0 bel lt0) (trodAll_cons_mk (Below.trod Me.laidOut (by kernel_rfl) (of_decide_eq_true (by kernel_rfl)) k1 bel lt1) trodAll_mk0)), rfl, bel.frame _, fun h => by cases h⟩
theorem over : Rows.snapshotChainsRow.holds Tryz.pinned (OpenSpec.ofChange Rows.snapshotChainsSpec) :=
  OpenClaim.holds_of_wide 7 Tryz.f7 rfl rfl rfl rfl rfl rfl rfl ⟨rfl, rfl, rfl, rfl, rfl⟩ rfl rfl rfl rfl rfl (by kernel_rfl) Tryz.func7 (by kernel_rfl)
    (of_decide_eq_true (by kernel_rfl)) (by unfold Func.isWrapper; first | (rw [if_pos (by decide +kernel)]; kernel_rfl) | (rw [if_neg (by decide +kernel)]; exact ⟨rfl, rfl⟩))
    (fun os started H enc _ => lifted os started H enc)
end Go.Proofs.YtpefbmheblfbeaaGreat.snapshotChains
namespace Go.Proofs.YtpefbmheblfbeaaGreat
theorem snapshotChains_holds : Rows.SnapshotChainsSaid := snapshotChains.over
#print axioms snapshotChains_holds
end Go.Proofs.YtpefbmheblfbeaaGreat
