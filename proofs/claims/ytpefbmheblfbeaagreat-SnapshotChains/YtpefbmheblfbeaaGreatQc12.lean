/- The contract of Apply: what comes of an old memo by any bytes, with the place of what is wrong; the text's length is a number of the language's, the old memo's numbers are of 64 bits, and those of what is read, if a memo may be made of it. -/
import Derived.Test.YtpefbmheblfbeaaGreatQc11
import Derived.Test.YtpefbmheblfbeaaGreatQc01
import Derived.Test.YtpefbmheblfbeaaGreatQc04
import Derived.Shelf.SlMaps.Clone
import Derived.Test.YtpefbmheblfbeaaGreatRows
import Derived.WalkKit
import Derived.ProofKit
import Derived.OpenShut
import Derived.ShutString
import Derived.Deep.Slices
import Derived.Test.YtpefbmheblfbeaaGreatQc06
namespace Go.Proofs.YtpefbmheblfbeaaGreat.Sn
open Go.RowKit Go.Sort Go.Shelf Me
set_option linter.unusedVariables false
set_option linter.unusedSimpArgs false
theorem CfOk.wc {c : Cf} (h : CfOk c) : Wc c := ⟨w64' h.t.1 h.t.2, w64' h.n.1 h.n.2, w64' h.s.1 h.s.2, w64' h.e.1 h.e.2, w64' h.f.1 h.f.2, w64' h.b.1 h.b.2, w64' h.d.1 h.d.2⟩
theorem entN_ok (G : List K) (os ys : List En) {k : K} (hk : Ok k) : Ok (entN G os ys k).1 := by
  unfold entN
  split
  · exact hk
  · exact ⟨by decide, by decide⟩
def smO (c : Cf) (now : Int) (L : List En) : Nat := if (ofP c now L).2 = 0 then smM c now L else 0
def ApQ (w : World) (c : Cf) (n0 : Int) (ys : List En) (s : ByteArray) (e : Ending) (w' : World) : Prop :=
  ((pt8 s c n0 ys).er ≠ 0 ∧ e = .returned (.tuple #[.pointer none, .int .i64 (pt8 s c n0 ys).at_, .int .i64 (pt8 s c n0 ys).er]) ∧ Touch [] w w') ∨
  ((pt8 s c n0 ys).er = 0 ∧ (pt2 s).2 ≠ smM c n0 ys ∧ e = .returned (.tuple #[.pointer none, .int .i64 8, .int .i64 202]) ∧ Touch [] w w') ∨
  ((pt8 s c n0 ys).er = 0 ∧ (pt2 s).2 = smM c n0 ys ∧ (pt3 s).2 ≠ smO c (pt4 s n0).2 (pt9 s c n0 ys) ∧ e = .returned (.tuple #[.pointer none, .int .i64 16, .int .i64 202]) ∧ Touch [] w w') ∨
  ((pt8 s c n0 ys).er = 0 ∧ (pt2 s).2 = smM c n0 ys ∧ (pt3 s).2 = smO c (pt4 s n0).2 (pt9 s c n0 ys) ∧ ∃ pm w9 w10, e = .returned (.tuple #[pm, .int .i64 (ofP c (pt4 s n0).2 (pt9 s c n0 ys)).1, .int .i64 (ofP c (pt4 s n0).2 (pt9 s c n0 ys)).2]) ∧ Touch [] w w9 ∧ OfA w9 c (pt4 s n0).2 (pt9 s c n0 ys) pm w10 ∧ Touch [] w10 w')
theorem Rin.sum {s : ByteArray} {x : Rd} (h : Rin s x) : Rin s (sumR s x).1 := by
  unfold sumR
  exact h.pass (fun e => by have := of_decide_eq_true e; have := h.1; omega)
set_option maxRecDepth 20000 in
set_option maxHeartbeats 4000000 in
theorem apply_ {w : World} {m0 : Nat} {F0 : List Nat} {c : Cf} {n0 : Int} {ys : List En} {s : ByteArray} (h0 : Mq w m0 F0 c n0 ys) (k0 : MmOk c n0 ys) (hs : s.size ≤ 140737488351232) (hmm : (ofP c (pt4 s n0).2 (pt9 s c n0 ys)).2 = 0 → MmOk c (pt4 s n0).2 (pt9 s c n0 ys)) : Calls Tryz.prog 17 #[PT m0, .string s] w fun e w' => ApQ w c n0 ys s e w' := by
  have HM0 := hid (fun w' (t : Touch [] w w') => h0.keep0 t)
  have hnT := h0.gd.n0
  have hnM := h0.gd.n1
  obtain ⟨V, hV⟩ : ∃ V, V = w.alloc (.cells #[.string s, .int .i64 0, .int .i64 0] 108) := ⟨_, rfl⟩
  obtain ⟨r, hr⟩ : ∃ r, r = w.heap.size := ⟨_, rfl⟩
  have TV : Touch [] w V := by rw [hV]; exact (Touch.refl _ _).alloc _
  have q0 : Rq V r s ⟨0, 0⟩ := by rw [hV, hr]; exact heap_alloc_new w _
  have i0 : Rin s ⟨0, 0⟩ := ⟨Int.le_refl _, by show (0 : Int) ≤ s.size; omega⟩
  have i1 : Rin s (pt1 s) := i0.mark mk2
  have i2 : Rin s (pt2 s).1 := i1.sum
  have i3 : Rin s (pt3 s).1 := i2.sum
  have i4 : Rin s (pt4 s n0).1 := i3.num _ _
  have i7 : Rin s (pt7 s c n0 ys).1 := Rin.keysG _ _ ((Rin.ents _ _ ((Rin.keysG _ _ (i4.num _ _)).num _ _)).num _ _)
  have HTV := hid TV
  have HQ : Hid (∀ w', Touch [r] V w' → Touch [] w w') := hid (fun w' t => HTV.out.trans t (fun k hk => by simp at hk; rw [hk, hr]; exact Or.inr (Nat.le_refl _)))
  have H1 : Hid (Calls Tryz.prog 44 #[PT r, .string ⟨#[99, 111, 110, 118, 111, 121, 112, 49]⟩] V fun e w' => e = .returned (.tuple #[]) ∧ Rq w' r s (pt1 s) ∧ Touch [r] V w') := hid (mark_r q0 i0 hs ⟨#[99, 111, 110, 118, 111, 121, 112, 49]⟩ (by decide))
  have H2 : Hid (∀ w', Rq w' r s (pt1 s) → Calls Tryz.prog 65 #[PT r] w' fun e w'' => e = .returned (.int .u64 ((pt2 s).2 : Nat)) ∧ Rq w'' r s (pt2 s).1 ∧ Touch [r] w' w'') := hid (fun w' q => sum_r q i1 hs)
  have H3 : Hid (∀ w', Rq w' r s (pt2 s).1 → Calls Tryz.prog 65 #[PT r] w' fun e w'' => e = .returned (.int .u64 ((pt3 s).2 : Nat)) ∧ Rq w'' r s (pt3 s).1 ∧ Touch [r] w' w'') := hid (fun w' q => sum_r q i2 hs)
  have HN0 := hid (fun w' (t : Touch [] w w') => (by obtain ⟨b, o, G, _, hb⟩ := HM0.out w' t; exact now26 w' m0 c n0 b o hb.md : Calls Tryz.prog 22 #[PT m0] w' fun e w'' => e = .returned (.int .i64 n0) ∧ w'' = w'))
  have HC0 := hid (fun w' (t : Touch [] w w') => (by obtain ⟨b, o, G, _, hb⟩ := HM0.out w' t; exact config27 w' m0 c n0 b o hb.md : Calls Tryz.prog 35 #[PT m0] w' fun e w'' => e = .returned (cv c) ∧ Touch [] w' w''))
  have H4 : Hid (∀ w', Rq w' r s (pt3 s).1 → Calls Tryz.prog 46 #[PT r, .int .i64 n0, .int .i64 4611686018427387904] w' fun e w'' => e = .returned (.int .i64 (pt4 s n0).2) ∧ Rq w'' r s (pt4 s n0).1 ∧ Touch [r] w' w'') := hid (fun w' q => number_r q i3 hs n0 4611686018427387904 hnT (by unfold MT at hnM; omega) (by omega) (by omega))
  have v4 := numR_v (s := s) (x := (pt3 s).1) (a := n0) (b := 4611686018427387904) hnT (by omega)
  have HV4 : Hid (0 ≤ (pt4 s n0).2 ∧ (pt4 s n0).2 ≤ 9223372036854775807) := hid ⟨v4.1, by have := v4.2; show (numR s (pt3 s).1 n0 4611686018427387904).2 ≤ _; omega⟩
  have H7 : Hid (∀ w', Touch [] w w' → Rq w' r s (pt4 s n0).1 → Calls Tryz.prog 66 #[PT r, PT m0, .int .i64 (pt4 s n0).2] w' fun e w'' => ∃ v, e = .returned v ∧ w''.ownsRow w'.heap.size 60 7 v (pt9 s c n0 ys).length (cellsN (pt9 s c n0 ys)) ∧ Rq w'' r s (pt7 s c n0 ys).1 ∧ Touch [r] w' w'') := hid (fun w' t q => patched_ (HM0.out w' t) q i4 hs HV4.out)
  have H8 : Hid (∀ w', Rq w' r s (pt7 s c n0 ys).1 → Calls Tryz.prog 48 #[PT r] w' fun e w'' => e = .returned (.tuple #[]) ∧ Rq w'' r s (pt8 s c n0 ys) ∧ Touch [r] w' w'') := hid (fun w' q => end_r q i7 hs)
  have HS0 := hid (fun w' (t : Touch [] w w') => sumOfMemo_ (HM0.out w' t) k0)
  have hok : (∀ z ∈ pt9 s c n0 ys, Ok z.1) ∧ ((pt9 s c n0 ys).length : Int) ≤ 9223372036854775807 := by
    have q1 := keysG_len (s := s) (may := fun k => (fndN (pt5 s c n0 ys).2 (pt6 s c n0 ys).2 ys k).isSome) (numR s (pt6 s c n0 ys).1 0 c.e).2.toNat (numR s (pt6 s c n0 ys).1 0 c.e).1 []
    have hce := okC_e h0.gd.oc
    have q2 := numR_v (s := s) (x := (pt6 s c n0 ys).1) (a := 0) (b := c.e) (by omega) hce.1
    constructor
    · intro z hz
      unfold pt9 at hz
      obtain ⟨k, hk, rfl⟩ := List.mem_map.1 hz
      exact entN_ok _ _ _ (keysG_ok _ _ [] (fun e he => by cases he) k hk)
    · unfold pt9
      rw [List.length_map]
      simp at q1
      show ((keysG s _ _ _ _).2.length : Int) ≤ _
      omega
  have H9 := hid (fun w' v (hv : RN 60 w' v (pt9 s c n0 ys)) => of15 w' c (pt4 s n0).2 (pt9 s c n0 ys) v k0.c.wc hok.2 hv hok.1)
  have HSM : Hid (∀ w' m F, Mq w' m F c (pt4 s n0).2 (pt9 s c n0 ys) → (ofP c (pt4 s n0).2 (pt9 s c n0 ys)).2 = 0 → Calls Tryz.prog 56 #[PT m] w' fun e w'' => e = .returned (.int .u64 ((smO c (pt4 s n0).2 (pt9 s c n0 ys) : Nat) : Int)) ∧ Touch [] w' w'') := hid (fun w' m F hm he => by
    have := sumOfMemo_ hm (hmm he)
    unfold smO
    rw [if_pos he]
    exact this)
  have HSN : Hid ((ofP c (pt4 s n0).2 (pt9 s c n0 ys)).2 ≠ 0 → smO c (pt4 s n0).2 (pt9 s c n0 ys) = 0) := hid (fun he => by unfold smO; rw [if_neg he])
  have HAP : Hid (∀ e w', ((pt8 s c n0 ys).er ≠ 0 ∧ e = .returned (.tuple #[.pointer none, .int .i64 (pt8 s c n0 ys).at_, .int .i64 (pt8 s c n0 ys).er]) ∧ Touch [] w w') ∨
      ((pt8 s c n0 ys).er = 0 ∧ (pt2 s).2 ≠ smM c n0 ys ∧ e = .returned (.tuple #[.pointer none, .int .i64 8, .int .i64 202]) ∧ Touch [] w w') ∨
      ((pt8 s c n0 ys).er = 0 ∧ (pt2 s).2 = smM c n0 ys ∧ (pt3 s).2 ≠ smO c (pt4 s n0).2 (pt9 s c n0 ys) ∧ e = .returned (.tuple #[.pointer none, .int .i64 16, .int .i64 202]) ∧ Touch [] w w') ∨
      ((pt8 s c n0 ys).er = 0 ∧ (pt2 s).2 = smM c n0 ys ∧ (pt3 s).2 = smO c (pt4 s n0).2 (pt9 s c n0 ys) ∧ ∃ pm w9 w10, e = .returned (.tuple #[pm, .int .i64 (ofP c (pt4 s n0).2 (pt9 s c n0 ys)).1, .int .i64 (ofP c (pt4 s n0).2 (pt9 s c n0 ys)).2]) ∧ Touch [] w w9 ∧ OfA w9 c (pt4 s n0).2 (pt9 s c n0 ys) pm w10 ∧ Touch [] w10 w') → ApQ w c n0 ys s e w') := hid (fun e w' h => h)
  generalize ApQ w c n0 ys s = AP at *
  clear i0 i1 i2 i3 i4 i7 v4 TV hs hok hnT hnM h0 hmm
  generalize (pt2 s).1 = x2 at *
  generalize (pt3 s).1 = x3 at *
  generalize (pt4 s n0).1 = x4 at *
  generalize (pt7 s c n0 ys).1 = x7 at *
  generalize pt8 s c n0 ys = x8 at *
  generalize smO c (pt4 s n0).2 (pt9 s c n0 ys) = sO at *
  generalize (ofP c (pt4 s n0).2 (pt9 s c n0 ys)).1 = oa at *
  generalize hoe : (ofP c (pt4 s n0).2 (pt9 s c n0 ys)).2 = oe at *
  generalize smM c n0 ys = sM at *
  generalize pt9 s c n0 ys = LL at *
  generalize (pt4 s n0).2 = NW at *
  generalize pt1 s = x1 at *
  generalize (pt2 s).2 = g0 at *
  generalize (pt3 s).2 = g1 at *
  have HOE := hid hoe
  clear hoe
  unfold PT cv at *
  go_enter Tryz.func17, Tryz.ntmps17
  go_upto_region 4 with fail
  rw [← hV]
  try rw [← hr]
  have HR := hid hr
  clear hV hr
  go_upto_region 5 with (go_at_call 44; refine H1.out.mono ?_; rintro e w1 ⟨rfl, q1, t1⟩; have T1 := hid t1; clear t1 H1)
  go_upto_region 6 with (first
    | (go_at_call 65; refine (H2.out _ q1).mono ?_; rintro e w2 ⟨rfl, q2, t2⟩; have T2 := hid (T1.out.trans' t2); clear q1 t2 H2)
    | (go_at_call 65; refine (H3.out _ q2).mono ?_; rintro e w3 ⟨rfl, q3, t3⟩; have T3 := hid (T2.out.trans' t3); clear q2 t3 H3))
  go_upto_region 7 with (first
    | (go_at_call 22; refine (HN0.out _ (HQ.out _ T3.out)).mono ?_; rintro e w9 ⟨rfl, e9⟩; rw [e9]; clear e9 w9)
    | (go_at_call 46; refine (H4.out _ q3).mono ?_; rintro e w4 ⟨rfl, q4, t4⟩; have T4 := hid (T3.out.trans' t4); clear q3 t4 H4))
  go_upto_region 8 with (go_at_call 66; refine (H7.out _ (HQ.out _ T4.out) q4).mono ?_; rintro e w7 ⟨v7, rfl, o7, q7, t7⟩; have T7 := hid (T4.out.trans' t7); obtain ⟨a7, c7, e7⟩ := own_form o7; subst e7; have HRL := hid q4.lt; have O7 := hid o7; clear q4 t7 o7 H7)
  go_upto_region 9 with (go_at_call 48; refine (H8.out _ q7).mono ?_; rintro e w8 ⟨rfl, q8, t8⟩; have T8 := hid (HQ.out _ (T7.out.trans' t8)); have O8 := hid (own_touch O7.out t8 (fun b hb e => by have h1 := (O7.out.lt b hb).1; have h2 := HRL.out; simp at e; omega)); clear q7 t8 O7 H8)
  have cE := cell_of (n := 2) q8 rfl
  by_cases he : x8.er = 0
  · rw [he] at cE
    have HE := hid he
    by_cases hg : g0 = sM
    · have HG := hid hg
      have hb : ((g0 : Int) != (sM : Int)) = false := by rw [hg]; simp
      have R8 := hid (fun w' (t : Touch [] w8 w') => RN.own (own_touch O8.out t (fun _ _ e => by cases e)))
      clear he hg
      go_upto_region 14 with (first
        | (go_at_call 56; refine (HS0.out _ T8.out).mono ?_; rintro e w9 ⟨rfl, t9⟩; have T9 := hid t9; clear t9 HS0 cE)
        | (go_at_call 35; refine (HC0.out _ (T8.out.trans' T9.out)).mono ?_; rintro e w10 ⟨rfl, t10⟩; have T10 := hid (T9.out.trans' t10); clear t10)
        | (go_at_call 31; refine (H9.out _ _ (R8.out _ T10.out)).mono ?_; rintro e w11 ⟨pm, rfl, hA⟩; have HA := hid hA; clear hA))
      have T10w := hid (T8.out.trans' T10.out)
      clear hb
      rcases HA.out with ⟨ho, rfl, tA⟩ | ⟨ho, ho1, m, F, rfl, hmq, hF, tA⟩
      · rw [HOE.out] at ho
        have hs0 := HSN.out ho
        have TA := hid (T10w.out.trans' tA)
        clear tA ho
        by_cases hg1 : g1 = sO
        · have hb : ((g1 : Int) != 0) = false := by rw [hg1, hs0]; rfl
          have HG1 := hid hg1
          clear hg1 hs0
          go_wp2_with (go_at_call 56; refine (sumOfMemo_nil _).mono ?_; rintro e w12 ⟨rfl, e12⟩; rw [e12]; clear e12 w12)
          exact bodyPost_ret (v := .tuple #[.pointer none, .int .i64 oa, .int .i64 oe]) (by simp [results, Tryz.results17, go_sem]) rfl (HAP.out _ _ (Or.inr (Or.inr (Or.inr ⟨HE.out, HG.out, HG1.out, _, _, _, rfl, T10w.out, HA.out, Touch.refl _ _⟩))))
        · have hb : ((g1 : Int) != 0) = true := by rw [hs0] at hg1; simp; omega
          have HG1 := hid hg1
          clear hg1 hs0
          go_wp2_with (go_at_call 56; refine (sumOfMemo_nil _).mono ?_; rintro e w12 ⟨rfl, e12⟩; rw [e12]; clear e12 w12)
          exact bodyPost_ret (v := .tuple #[.pointer none, .int .i64 16, .int .i64 202]) (by simp [results, Tryz.results17, go_sem]) rfl (HAP.out _ _ (Or.inr (Or.inr (Or.inl ⟨HE.out, HG.out, HG1.out, rfl, TA.out⟩))))
      · rw [HOE.out] at ho
        have HSu := hid (HSM.out _ m F hmq ho)
        have TA := hid (T10w.out.trans' tA)
        clear tA ho ho1 hmq hF
        unfold PT at *
        by_cases hg1 : g1 = sO
        · have hb : ((g1 : Int) != (sO : Int)) = false := by rw [hg1]; simp
          have HG1 := hid hg1
          clear hg1
          go_wp2_with (go_at_call 56; refine HSu.out.mono ?_; rintro e w12 ⟨rfl, t12⟩; have T12 := hid t12; clear t12)
          exact bodyPost_ret (v := .tuple #[.pointer (some ⟨m, 0, none⟩), .int .i64 oa, .int .i64 oe]) (by simp [results, Tryz.results17, go_sem]) rfl (HAP.out _ _ (Or.inr (Or.inr (Or.inr ⟨HE.out, HG.out, HG1.out, _, _, _, rfl, T10w.out, HA.out, T12.out⟩))))
        · have hb : ((g1 : Int) != (sO : Int)) = true := by simp; omega
          have HG1 := hid hg1
          clear hg1
          go_wp2_with (go_at_call 56; refine HSu.out.mono ?_; rintro e w12 ⟨rfl, t12⟩; have T12 := hid t12; clear t12)
          exact bodyPost_ret (v := .tuple #[.pointer none, .int .i64 16, .int .i64 202]) (by simp [results, Tryz.results17, go_sem]) rfl (HAP.out _ _ (Or.inr (Or.inr (Or.inl ⟨HE.out, HG.out, HG1.out, rfl, TA.out.trans' T12.out⟩))))
    · have HG := hid hg
      have hb : ((g0 : Int) != (sM : Int)) = true := by simp; omega
      clear he hg
      go_wp2_with (go_at_call 56; refine (HS0.out _ T8.out).mono ?_; rintro e w9 ⟨rfl, t9⟩; have T9 := hid t9; clear t9 HS0 cE)
      exact bodyPost_ret (v := .tuple #[.pointer none, .int .i64 8, .int .i64 202]) (by simp [results, Tryz.results17, go_sem]) rfl (HAP.out _ _ (Or.inr (Or.inl ⟨HE.out, HG.out, rfl, T8.out.trans' T9.out⟩)))
  · have hb : (x8.er != 0) = true := by simpa using he
    have hb' : (x8.er == 0) = false := by simpa using he
    have C1 : ∀ w', Touch [] w8 w' → w'.cell? ⟨r, 1, none⟩ = some (.int .i64 x8.at_) := fun w' t => cell_at (t.keep q8 (by simp)) rfl
    have C2 : ∀ w', Touch [] w8 w' → w'.cell? ⟨r, 2, none⟩ = some (.int .i64 x8.er) := fun w' t => cell_at (t.keep q8 (by simp)) rfl
    have zz := q8.lt
    go_upto_region 10 with fail
    clear cE hb hb' q8
    go_region_held3 (fun w' => Touch [] w8 w') (first | assumption | exact (Touch.refl _ _).drew | exact Touch.refl _ _ | exact Touch.drew (by assumption)) (fail)
    all_goals
      go_wp2_with fail
      exact bodyPost_ret (v := .tuple #[.pointer none, .int .i64 x8.at_, .int .i64 x8.er]) (by simp [results, Tryz.results17, go_sem]) rfl (HAP.out _ _ (Or.inl ⟨he, rfl, T8.out.trans' (by assumption)⟩))
end Go.Proofs.YtpefbmheblfbeaaGreat.Sn
/- The statements' own look that the program is awake: it is; no conditions. -/
namespace Go.Proofs.YtpefbmheblfbeaaGreat.Sn
open Go.RowKit Go.Sort
set_option linter.unusedVariables false
theorem n300 : numL 300 = [172, 2] := by
  rw [numL_go (by omega), numL_end (by omega)]; decide
theorem take300 : takeAt ⟨#[172, 2]⟩ 0 = some (300, 2) := by decide
theorem awake_ (w : World) : Calls Tryz.prog 8 #[] w fun e w' => e = .returned (.bool true) ∧ Touch [] w w' := by
  have H1 := hid (take_ w ⟨#[172, 2]⟩ 0 (by decide) (by omega) (by omega))
  rw [take300] at H1
  unfold takeV at H1
  have H2 := hid (number_ w 300 (by omega))
  rw [n300] at H2
  have H3 : Hid (∀ w, Calls Tryz.prog 30 #[.int .i64 (-1)] w fun e w' => e = .returned (.int .u64 1) ∧ w' = w) := hid (fun w => sign_ w (-1) (by omega) (by omega))
  go_enter Tryz.func8, Tryz.ntmps8
  go_wp2_with (first
    | (go_at_call 28; refine H1.out.mono ?_; rintro e w1 ⟨rfl, rfl⟩)
    | (go_at_call 29; refine H2.out.mono ?_; rintro e w2 ⟨rfl, T2⟩)
    | (go_at_call 30; refine (H3.out _).mono ?_; rintro e w3 ⟨rfl, rfl⟩))
  go_ret
  exact ⟨rfl, T2⟩
end Go.Proofs.YtpefbmheblfbeaaGreat.Sn
/- The contract of a memo's Drop; no conditions. -/
namespace Go.Proofs.YtpefbmheblfbeaaGreat.Me
open Go.RowKit Go.Sort Go.Maps Go.ChangeMaps Go.WideMaps
set_option maxRecDepth 100000
set_option linter.unusedVariables false
set_option linter.unusedSimpArgs false
theorem drx_length {xs : List En} (hn : (keysL xs).Nodup) (k : K) : (drx xs k).length = if (mpf xs k).isSome then xs.length - 1 else xs.length := by
  have h := putY_len hn k ((0, 0, 0, 0), 0)
  unfold putY at h
  rw [List.length_append, List.length_singleton] at h
  split at h
  · rename_i e; rw [if_pos e]; omega
  · rename_i e; rw [if_neg e]; omega
theorem del_mpf (xs : List En) (k : K) : YtpefbmheblfbeaaGreat.Me.del (mpf xs) k = mpf (drx xs k) := by
  funext j
  unfold YtpefbmheblfbeaaGreat.Me.del mpf
  by_cases e : j = k
  · rw [if_pos e, e, fnd_drx_same]; rfl
  · rw [if_neg e, fnd_drx_other xs e]
theorem dropB (w : World) (o : Nat) (F : List Nat) (most : Int) (ks : List K) (k : K) (hk : Ok k) (h : Oq w o F most ks) : Calls Tryz.prog 77 #[PT o, kv k] w fun x w' => x = .returned (.bool (hs ks k)) ∧ Ch w o F most (dr ks k) w' := by
  by_cases hm : k ∈ ks
  · rw [hs_yes hm]
    exact dropO_yes w o F most ks k hm h
  · rw [hs_no hm, dr_no hm]
    exact (dropO_no w o F most ks k hk hm h).mono fun x w' ⟨he, t⟩ => ⟨he, F, h.keep0 t, t.mono (fun _ e => by cases e), Nf.refl _ _⟩
set_option maxHeartbeats 2000000 in
theorem dropM (w : World) (m : Nat) (F : List Nat) (c : Cf) (now : Int) (xs : List En) (h : Mq w m F c now xs) (k : K) (hk : Ok k) :
    Calls Tryz.prog 23 #[PT m, kv k] w fun e w' => e = .returned (.bool (hs (keysL xs) k)) ∧ Mc w m F c now (drx xs k) w' := by
  obtain ⟨b, o, G, rfl, h⟩ := h
  obtain ⟨V, hV⟩ : ∃ V, V = w.alloc (bx k) := ⟨_, rfl⟩
  have TV : Touch [] w V := by rw [hV]; exact (Touch.refl _ _).alloc _
  have hB : V.heap[w.heap.size]? = some (bx k) := by rw [hV]; exact heap_alloc_new w _
  have hV' := h.keep0 TV
  obtain ⟨ob, hu, hmp⟩ := (show MapAt V.drew b _ _ from hV'.mp.kept rfl).del (t := 141) Tryz.underlying141 hk 0
  obtain ⟨W1, hW⟩ : ∃ W1, W1 = setBlock V.drew b ob := ⟨_, rfl⟩
  rw [← hW] at hu hmp
  have T1 : Touch [b] V W1 := by rw [hW]; exact touch_setBlock ((Touch.refl _ _).drew) (Or.inl (by simp)) _
  have hlt := h.lt
  have hbl := hlt b (by simp)
  have O1 : Oq W1 o G c.e (keysL xs) := hV'.oq.keep T1 (fun i hi hh => by simp only [List.mem_singleton] at hh; subst hh; exact h.bg hi)
  have m1 : Md W1 m c now b o := T1.keep hV'.md (by simpa using h.mb.symm)
  have B1 : W1.heap[w.heap.size]? = some (bx k) := T1.keep hB (by simp; omega)
  have HD : Hid (Calls Tryz.prog 77 #[PT o, kv k] W1.drew fun x w' => x = .returned (.bool (hs (keysL xs) k)) ∧ Touch G W1 w' ∧ Mc w m (m :: b :: G) c now (drx xs k) w') := hid ((dropB W1.drew o G c.e (keysL xs) k hk (O1.keep0 (Touch.refl _ _).drew)).mono (by
    rintro x w3 ⟨rfl, G', c1, c2, c3⟩
    have T3 : Touch G W1 w3 := ((Touch.refl G W1).drew).trans' c2
    have hz1 := T1.size
    have hz0 := TV.size
    refine ⟨rfl, T3, m :: b :: G', ⟨b, o, G', rfl, T3.keep m1 h.mg, ?_, ?_, h.gd.drop k, fun hh => (c3 b hh).elim h.bg (fun e => by have : W1.heap.size ≤ b := e; omega)⟩, ?_, fun i hi => ?_⟩
    · rw [drx_length h.nd, ← del_mpf]
      exact hmp.kept (T3.block b hmp.lt h.bg)
    · rw [drx_keys]
      exact c1
    · exact ((TV.mono (fun _ e => by cases e)).trans' (T1.mono (fun i hi => by simp only [List.mem_singleton] at hi; subst hi; simp))).trans' (T3.mono (fun i hi => by simp [hi]))
    · simp only [List.mem_cons] at hi ⊢
      rcases hi with rfl | rfl | hi
      · exact Or.inl (Or.inl rfl)
      · exact Or.inl (Or.inr (Or.inl rfl))
      · exact (c3 i hi).elim (fun e => Or.inl (Or.inr (Or.inr e))) (fun e => Or.inr (by have : W1.heap.size ≤ i := e; omega))))
  have c8 : V.cell? ⟨m, 8, none⟩ = some (.map (some b)) := hV'.md.cs.c8
  have sA : ∀ w', Touch G W1 w' → w'.cell? ⟨m, 9, none⟩ = some (.pointer (some ⟨o, 0, none⟩)) := fun w' t => (show Md w' m c now b o from t.keep m1 h.mg).cs.c9
  have sB : ∀ w', Touch G W1 w' → w'.cell? ⟨w.heap.size, 0, none⟩ = some (.int .u16 k.1) := fun w' t => by
    have := t.keep B1 (fun hh => by have := hlt w.heap.size (by simp [hh]); omega)
    unfold bx at this
    simp [World.cell?, this]
  have sC : ∀ w', Touch G W1 w' → w'.cell? ⟨w.heap.size, 1, none⟩ = some (.string k.2) := fun w' t => by
    have := t.keep B1 (fun hh => by have := hlt w.heap.size (by simp [hh]); omega)
    unfold bx at this
    simp [World.cell?, this]
  unfold bx at hB
  have b0 : V.cell? ⟨w.heap.size, 0, none⟩ = some (.int .u16 k.1) := by simp [World.cell?, hB]
  have b1 : V.cell? ⟨w.heap.size, 1, none⟩ = some (.string k.2) := by simp [World.cell?, hB]
  clear h hV' hmp T1 O1 m1 B1 hB hW TV
  generalize hs (keysL xs) k = B at *
  unfold PT kv at *
  go_enter Tryz.func23, Tryz.ntmps23
  go_wp2
  unfold bx at hV
  rw [← hV]
  clear hV
  go_region
  clear b0 b1 c8 hu
  go_upto_region 4 with fail
  have t0 : Touch G W1 W1.drew := (Touch.refl _ _).drew
  go_region_held3 (fun w' => Touch G W1 w') (first | assumption | exact (Touch.refl _ _).drew) ((go_at_call 77; refine HD.out.mono ?_; rintro e w3 ⟨rfl, t3, c3⟩; have C3 := hid c3; clear c3))
  go_wp2
  go_ret
  exact ⟨rfl, C3.out⟩
end Go.Proofs.YtpefbmheblfbeaaGreat.Me
/- The contract of a memo's Clone: a memo of its own that keeps the same; no conditions. -/
namespace Go.Proofs.YtpefbmheblfbeaaGreat.Me
open Go.RowKit Go.Sort Go.Maps Go.ChangeMaps Go.WideMaps
set_option maxRecDepth 100000
set_option linter.unusedVariables false
set_option linter.unusedSimpArgs false
theorem MapAt.copy {w : World} {b n : Nat} {f : K → Option Value} (h : MapAt w b n f) : ∃ es cl, w.heap[b]? = some (.map es cl) ∧ MapAt (w.alloc (.map es cl)) w.heap.size n f := by
  obtain ⟨D, ⟨es, cl, hb, r⟩, h2, h3⟩ := h
  exact ⟨es, cl, hb, D, ⟨es, cl, heap_alloc_new w _, r⟩, h2, h3⟩
set_option maxHeartbeats 1000000 in
theorem clone54 (w : World) (b n : Nat) (f : K → Option Value) (h : MapAt w b n f) : Calls Tryz.prog 71 #[.map (some b)] w fun e w' => e = .returned (.map (some w.heap.size)) ∧ MapAt w' w.heap.size n f ∧ Touch [] w w' := by
  obtain ⟨es, cl, hb, hm⟩ := h.copy
  have HM := hid hm
  have hq := fun w => run_eql_map_nil_sl (P := Tryz.prog) w 141 _ _ (some b) Tryz.underlying141
  have hta := fun w v => run_typeAssert_map_sl (P := Tryz.prog) w 141 20 _ _ v Tryz.underlying141
  clear h hm
  go_enter Tryz.func71, Tryz.ntmps71
  go_wp2
  rw [run_callFunc_extern Tryz.func111 (by kernel_rfl) (by kernel_rfl) (by kernel_rfl) (e := Extern.MapsClone.clone) (by kernel_rfl), run_maps_clone_sl w 141 hb]
  simp only [Result.andThen]
  rw [Oper.upon_value]
  go_wp2
  go_ret
  exact ⟨rfl, HM.out, (Touch.refl _ _).alloc _⟩
def CpQ (w : World) (m2 : Nat) (c : Cf) (now : Int) (xs : List En) (w' : World) : Prop := ∃ F', Mq w' m2 F' c now xs ∧ (∀ k ∈ F', w.heap.size ≤ k) ∧ Touch [] w w'
set_option maxHeartbeats 2000000 in
theorem cloneM (w : World) (m : Nat) (F : List Nat) (c : Cf) (now : Int) (xs : List En) (h : Mq w m F c now xs) : Calls Tryz.prog 20 #[PT m] w fun e w' => ∃ m2, e = .returned (PT m2) ∧ CpQ w m2 c now xs w' := by
  obtain ⟨b, o, G, rfl, h⟩ := h
  have hg := h.gd
  have hlen := h.len
  have HA : Hid (∀ w', Touch [] w w' → Calls Tryz.prog 71 #[.map (some b)] w' fun e w2 => ∃ b2, e = .returned (.map (some b2)) ∧ Touch [] w w2 ∧ w.heap.size ≤ b2 ∧ MapAt w2 b2 xs.length (mpf xs)) := hid (fun w' t => by
    refine (clone54 w' b _ _ (h.keep0 t).mp).mono ?_
    rintro e w2 ⟨rfl, h1, h2⟩
    exact ⟨_, rfl, t.trans' h2, t.size, h1⟩)
  have HB : Hid (∀ w' b2, Touch [] w w' → MapAt w' b2 xs.length (mpf xs) → Calls Tryz.prog 72 #[.pointer (some ⟨o, 0, none⟩)] w' fun e w2 => ∃ o2, e = .returned (.pointer (some ⟨o2, 0, none⟩)) ∧ Touch [] w w2 ∧ ∃ G2, Oq w2 o2 G2 c.e (keysL xs) ∧ (∀ k ∈ G2, w.heap.size ≤ k) ∧ ¬ b2 ∈ G2 ∧ MapAt w2 b2 xs.length (mpf xs)) := hid (fun w' b2 t hm => by
    refine (cloneO w' o G c.e (keysL xs) (by rw [keysL_len]; omega) (h.keep0 t).oq).mono ?_
    rintro e w2 ⟨rfl, G2, h1, h2, h3⟩
    exact ⟨_, rfl, t.trans' h3, G2, h1, fun k hk => Nat.le_trans t.size (h2 k hk), fun hh => by have := h2 _ hh; have := hm.lt; omega, hm.kept (h3.block _ hm.lt (by simp))⟩)
  have sC : ∀ w', Touch [] w w' → MdC w' m c now b o := fun w' t => (h.keep0 t).md.cs
  have s0 := fun w' t => (sC w' t).c0
  have s1 := fun w' t => (sC w' t).c1
  have s2 := fun w' t => (sC w' t).c2
  have s3 := fun w' t => (sC w' t).c3
  have s4 := fun w' t => (sC w' t).c4
  have s5 := fun w' t => (sC w' t).c5
  have s6 := fun w' t => (sC w' t).c6
  have s7 := fun w' t => (sC w' t).c7
  have s8 := fun w' t => (sC w' t).c8
  have s9 := fun w' t => (sC w' t).c9
  have HG := hid hg
  clear h sC hg hlen
  unfold PT
  go_enter Tryz.func20, Tryz.ntmps20
  go_upto_region 3 with fail
  have t0 : Touch [] w w.drew := (Touch.refl _ _).drew
  go_region_held3 (fun w' => Touch [] w w') (repeat (first | assumption | exact Touch.refl _ _ | apply Touch.alloc | apply Touch.drew)) (first
    | (go_at_call 71; refine (HA.out _ (by first | assumption | exact (Touch.refl _ _).drew)).mono ?_; rintro e w2 ⟨b2, rfl, t2, z2, m2⟩; have M2 := hid m2; clear m2)
    | (go_at_call 72; refine (HB.out _ b2 (by assumption) M2.out).mono ?_; rintro e w3 ⟨o2, rfl, t3, q3⟩; have Q3 := hid q3; clear q3)
    | fail)
  all_goals
    go_wp2
    refine bodyPost_ret (v := .pointer (some ⟨w3.heap.size, 0, none⟩)) (by simp [results, Tryz.results20, go_sem]) rfl ⟨_, rfl, ?_⟩
    obtain ⟨G2, q1, q2, q3, q4⟩ := Q3.out
    have tn : Touch [] w3 (w3.alloc (.cells (mcs c now b2 o2) 144)) := (Touch.refl _ _).alloc _
    refine ⟨w3.heap.size :: b2 :: G2, ⟨b2, o2, G2, rfl, heap_alloc_new w3 _, q4.kept (tn.block _ q4.lt (by simp)), q1.keep0 tn, HG.out, q3⟩, fun k hk => ?_, t3.trans' tn⟩
    simp only [List.mem_cons] at hk
    rcases hk with rfl | rfl | hk
    · exact t3.size
    · exact z2
    · exact q2 k hk
end Go.Proofs.YtpefbmheblfbeaaGreat.Me
/- The contract of Tell; a key's space is a number of 16 bits, a name's length fits. -/
namespace Go.Proofs.YtpefbmheblfbeaaGreat.Me
open Go.RowKit Go.Sort Go.Maps Go.ChangeMaps Go.WideMaps
set_option maxRecDepth 100000
set_option linter.unusedVariables false
set_option linter.unusedSimpArgs false
def useX (xs : List En) (k : K) : List En := match fnd xs k with
  | none => xs
  | some v => putY xs k v
def isUse (h : Int) : Bool := decide (h = 1) || decide (h = 2)
def tellX (c : Cf) (now n : Int) (xs : List En) (k : K) : List En := if isUse (askR c now n xs k).1 then useX xs k else xs
theorem mpf_use {xs : List En} {k : K} {v : V} (h : fnd xs k = some v) : mpf (putY xs k v) = mpf xs := by
  funext j
  unfold mpf
  rw [fnd_putY]
  by_cases e : j = k
  · rw [if_pos e, e, h]
  · rw [if_neg e]
theorem putY_len' {xs : List En} {k : K} {v : V} (hn : (keysL xs).Nodup) (h : fnd xs k = some v) : (putY xs k v).length = xs.length := by
  rw [putY_len hn]
  unfold mpf
  rw [h]
  rfl
theorem Gd.use {c : Cf} {now : Int} {xs : List En} {k : K} {v : V} (h : Gd c now xs) (hn : (keysL xs).Nodup) (hf : fnd xs k = some v) : Gd c now (putY xs k v) :=
  h.sub (fun x hx => (mem_putY hx).elim id (fun e => e ▸ fnd_mem hf)) (Nat.le_of_eq (putY_len' hn hf))
theorem Mb.touch {w w' : World} {m b o : Nat} {G : List Nat} {c : Cf} {now : Int} {xs : List En} {k : K} {v : V} (h : Mb w m b o G c now xs) (hf : fnd xs k = some v) (hc : Ch w o G c.e (dr (keysL xs) k ++ [k]) w') : Mc w m (m :: b :: G) c now (putY xs k v) w' := by
  obtain ⟨G', c1, c2, c3⟩ := hc
  have hlt := h.lt
  refine ⟨m :: b :: G', ⟨b, o, G', rfl, c2.keep h.md h.mg, ?_, ?_, h.gd.use h.nd hf, fun hh => (c3 b hh).elim h.bg (fun e => by have := hlt b (by simp); omega)⟩, c2.mono (fun i hi => by simp [hi]), fun i hi => ?_⟩
  · rw [putY_len' h.nd hf, mpf_use hf]
    exact h.mp.kept (c2.block b h.mp.lt h.bg)
  · rw [putY_keys]
    exact c1
  · simp only [List.mem_cons] at hi ⊢
    rcases hi with rfl | rfl | hi
    · exact Or.inl (Or.inl rfl)
    · exact Or.inl (Or.inr (Or.inl rfl))
    · exact (c3 i hi).elim (fun e => Or.inl (Or.inr (Or.inr e))) Or.inr
def sbx (h a : Int) (x : O) : Obj := .cells #[.int .i64 h, .int .i64 a, .int .i64 x.1, .int .i64 x.2.1, .int .i64 x.2.2.1, .int .i64 x.2.2.2] 155
structure S6 (w : World) (r : Nat) (h a : Int) (x : O) : Prop where
  c0 : w.cell? ⟨r, 0, none⟩ = some (.int .i64 h)
  c1 : w.cell? ⟨r, 1, none⟩ = some (.int .i64 a)
  c2 : w.cell? ⟨r, 2, none⟩ = some (.int .i64 x.1)
  c3 : w.cell? ⟨r, 3, none⟩ = some (.int .i64 x.2.1)
  c4 : w.cell? ⟨r, 4, none⟩ = some (.int .i64 x.2.2.1)
  c5 : w.cell? ⟨r, 5, none⟩ = some (.int .i64 x.2.2.2)
theorem S6.mk' {w : World} {r : Nat} {h a : Int} {x : O} (hh : w.heap[r]? = some (sbx h a x)) : S6 w r h a x := by
  unfold sbx at hh
  constructor <;> simp [World.cell?, hh]
structure TlV (w : World) (k : K) (V : World) : Prop where
  t : Touch [] w V
  hB : V.heap[w.heap.size]? = some (bx k)
  hZ : V.heap[w.heap.size + 1]? = some zbx
theorem TlV.mk' (w : World) (k : K) : TlV w k ((w.alloc (bx k)).alloc zbx) :=
  ⟨((Touch.refl _ _).alloc _).alloc _, (Below.heap_alloc _ _ _ (by simp)).trans (heap_alloc_new w _), by
    have := heap_alloc_new (w.alloc (bx k)) zbx
    rwa [World.size_alloc] at this⟩
set_option maxHeartbeats 2000000 in
theorem tell22_not (w : World) (m : Nat) (F : List Nat) (c : Cf) (now n : Int) (xs : List En) (h : Mq w m F c now xs) (k : K) (ok : Ok k) (hu : isUse (askR c now n xs k).1 = false) :
    Calls Tryz.prog 81 #[PT m, .int .i64 n, kv k] w fun e w' => e = .returned (.tuple #[lv (askR c now n xs k), .int .i64 (askE now n k)]) ∧ Mc w m F c (askN now n k) xs w' := by
  obtain ⟨V, hV⟩ : ∃ V, V = (w.alloc (bx k)).alloc zbx := ⟨_, rfl⟩
  have KV : TlV w k V := by rw [hV]; exact TlV.mk' w k
  have hF := h.lt
  have HL := hid (lookM V m F c now n xs (h.keep0 KV.t) k ok)
  generalize askR c now n xs k = s at *
  generalize askE now n k = E at *
  generalize askN now n k = n' at *
  obtain ⟨sh, sa, so⟩ := s
  have HW : Hid (∀ w2, Mc V m F c n' xs w2 → Z6 (w2.alloc (sbx sh sa so)) (w.heap.size + 1) ∧ S6 (w2.alloc (sbx sh sa so)) w2.heap.size sh sa so ∧ ∀ w5, Touch [w.heap.size + 1] (w2.alloc (sbx sh sa so)) w5 → Mc w m F c n' xs w5) := fun w2 C => by
    have hz := block_lt KV.hZ
    have C' := C.keep0 ((Touch.refl [] w2).alloc (sbx sh sa so))
    exact ⟨Z6.mk' (C'.block KV.hZ (fun hh => by have := hF _ hh; omega)), S6.mk' (heap_alloc_new w2 _), fun w5 t5 => C'.own t5 KV.t (Nat.le_succ _) hz hF⟩
  unfold isUse at hu
  simp only [Bool.or_eq_false_iff, decide_eq_false_iff_not] at hu
  have u1 : (sh == 1) = false := by simp [hu.1]
  have u2 : (sh == 2) = false := by simp [hu.2]
  have hB := KV.hB
  unfold bx at hB
  have b0 : V.cell? ⟨w.heap.size, 0, none⟩ = some (.int .u16 k.1) := by simp [World.cell?, hB]
  have b1 : V.cell? ⟨w.heap.size, 1, none⟩ = some (.string k.2) := by simp [World.cell?, hB]
  clear KV hB hu h ok hF
  unfold PT kv lv sv at *
  unfold sbx at HW
  simp only at HL HW ⊢
  go_enter Tryz.func81, Tryz.ntmps81
  go_upto_region 1 with fail
  unfold bx zbx at hV
  rw [← hV]
  clear hV
  go_wp2_with (go_at_call 119; refine HL.out.mono ?_; rintro e w2 ⟨rfl, c2⟩; obtain ⟨hz, hs, hc⟩ := HW.out _ c2; obtain ⟨z0, z1, z2, z3, z4, z5, f0, f1, f2, f3, f4, f5⟩ := hz; obtain ⟨s0, s1, s2, s3, s4, s5⟩ := hs; have HC := hid hc; clear hc c2)
  refine bodyPost_ret (v := .tuple #[.agg #[.int .i64 sh, .int .i64 sa, .int .i64 so.1, .int .i64 so.2.1, .int .i64 so.2.2.1, .int .i64 so.2.2.2], .int .i64 E]) (by simp [results, Tryz.results81, go_sem, z0, z1, z2, z3, z4, z5]) rfl ⟨rfl, ?_⟩
  exact HC.out _ (tset6 _ _ _ _ _ _ _ _)
set_option maxHeartbeats 2000000 in
theorem tell22_yes (w : World) (m : Nat) (F : List Nat) (c : Cf) (now n : Int) (xs : List En) (h : Mq w m F c now xs) (k : K) (ok : Ok k) (hu : isUse (askR c now n xs k).1 = true) (v : V) (hf : fnd xs k = some v) :
    Calls Tryz.prog 81 #[PT m, .int .i64 n, kv k] w fun e w' => e = .returned (.tuple #[lv (askR c now n xs k), .int .i64 (askE now n k)]) ∧ Mc w m F c (askN now n k) (putY xs k v) w' := by
  obtain ⟨V, hV⟩ : ∃ V, V = (w.alloc (bx k)).alloc zbx := ⟨_, rfl⟩
  have KV : TlV w k V := by rw [hV]; exact TlV.mk' w k
  have hF := h.lt
  have HL := hid (lookM V m F c now n xs (h.keep0 KV.t) k ok)
  generalize askR c now n xs k = s at *
  generalize askE now n k = E at *
  generalize askN now n k = n' at *
  obtain ⟨sh, sa, so⟩ := s
  have HW : Hid (∀ w2, Mc V m F c n' xs w2 → ∃ o G, (∀ w', Touch G (w2.alloc (sbx sh sa so)) w' → w'.cell? ⟨m, 9, none⟩ = some (.pointer (some ⟨o, 0, none⟩)) ∧ (w'.cell? ⟨w.heap.size, 0, none⟩ = some (.int .u16 k.1) ∧ w'.cell? ⟨w.heap.size, 1, none⟩ = some (.string k.2)) ∧ Z6 w' (w.heap.size + 1) ∧ S6 w' w2.heap.size sh sa so) ∧
      (Calls Tryz.prog 120 #[PT o, kv k] (w2.alloc (sbx sh sa so)).drew fun e w' => e = .returned (.bool true) ∧ Touch G (w2.alloc (sbx sh sa so)) w' ∧ ∀ w5, Touch [w.heap.size + 1] w' w5 → Mc w m F c n' (putY xs k v) w5)) := fun w2 C => by
    have hz := block_lt KV.hZ
    obtain ⟨F2, C1, C2, C3⟩ := C.keep0 ((Touch.refl [] w2).alloc (sbx sh sa so))
    obtain ⟨b, o, G, rfl, hm⟩ := C1
    have hlt := hm.lt
    have hzz := (Mc.keep0 C (Touch.refl [] w2))
    have hw2 : V.heap.size ≤ w2.heap.size := by obtain ⟨_, _, t, _⟩ := C; exact t.size
    have hw2' : w.heap.size + 2 ≤ V.heap.size := by omega
    have nG : ∀ q, w.heap.size ≤ q → q < V.heap.size → ¬ q ∈ m :: b :: G := fun q h1 h2 hh => by
      rcases C3 q hh with e | e
      · have := hF q e; omega
      · omega
    have nG2 : ¬ w2.heap.size ∈ G := hm.oq.away (heap_alloc_new w2 (sbx sh sa so)) (by decide) (by decide)
    refine ⟨o, G, fun w' t => ?_, ?_⟩
    · have k1 := t.keep (C2.keep KV.hB (fun hh => by have := hF _ hh; omega)) (fun hh => nG w.heap.size (Nat.le_refl _) (by omega) (by simp [hh]))
      unfold bx at k1
      exact ⟨(show Md w' m c n' b o from t.keep hm.md hm.mg).cs.c9, by simp [World.cell?, k1], Z6.mk' (t.keep (C2.keep KV.hZ (fun hh => by have := hF _ hh; omega)) (fun hh => nG (w.heap.size + 1) (by omega) (by omega) (by simp [hh]))), S6.mk' (t.keep (heap_alloc_new w2 (sbx sh sa so)) nG2)⟩
    · have hd := hm.keep0 ((Touch.refl [] _).drew)
      refine (touchO_yes _ o G c.e (keysL xs) k ?_ hd.oq).mono ?_
      · by_cases e : k ∈ keysL xs
        · exact e
        · rw [fnd_none e] at hf; cases hf
      · rintro e w3 ⟨rfl, c3⟩
        have M3 := hd.touch hf c3
        refine ⟨rfl, ?_, fun w5 t5 => ?_⟩
        · obtain ⟨_, _, t, _⟩ := c3
          exact ((Touch.refl G _).drew).trans' t
        · have M4 : Mc V m F c n' (putY xs k v) w3 := by
            obtain ⟨F3, m1, m2, m3⟩ := M3
            exact ⟨F3, m1, (C2.trans (((Touch.refl (m :: b :: G) _).drew).trans' m2) C3), C3.trans (fun i hi => m3 i hi) C2.size⟩
          exact M4.own t5 KV.t (Nat.le_succ _) hz hF
  have hB := KV.hB
  unfold bx at hB
  have b0 : V.cell? ⟨w.heap.size, 0, none⟩ = some (.int .u16 k.1) := by simp [World.cell?, hB]
  have b1 : V.cell? ⟨w.heap.size, 1, none⟩ = some (.string k.2) := by simp [World.cell?, hB]
  clear KV hB h ok hF hf
  generalize putY xs k v = ys at *
  unfold isUse at hu
  simp only [Bool.or_eq_true, decide_eq_true_eq] at hu
  unfold PT kv lv sv at *
  unfold sbx at HW
  simp only at HL HW ⊢
  rcases hu with hu | hu
  · subst hu
    go_enter Tryz.func81, Tryz.ntmps81
    go_upto_region 1 with fail
    unfold bx zbx at hV
    rw [← hV]
    clear hV
    go_upto_region 3 with (go_at_call 119; refine HL.out.mono ?_; rintro e w2 ⟨rfl, c2⟩; have C2 := hid c2; clear c2)
    obtain ⟨o, G, h1, h2⟩ := HW.out _ C2.out
    obtain ⟨W, hW⟩ : ∃ W, W = w2.alloc (.cells #[.int .i64 1, .int .i64 sa, .int .i64 so.1, .int .i64 so.2.1, .int .i64 so.2.2.1, .int .i64 so.2.2.2] 155) := ⟨_, rfl⟩
    rw [← hW] at h1 h2 ⊢
    clear hW b0 b1
    have sA : ∀ w', Touch G W w' → w'.cell? ⟨m, 9, none⟩ = some (.pointer (some ⟨o, 0, none⟩)) := fun w' t => (h1 w' t).1
    have sB : ∀ w', Touch G W w' → w'.cell? ⟨w.heap.size, 0, none⟩ = some (.int .u16 k.1) := fun w' t => (h1 w' t).2.1.1
    have sC : ∀ w', Touch G W w' → w'.cell? ⟨w.heap.size, 1, none⟩ = some (.string k.2) := fun w' t => (h1 w' t).2.1.2
    have H1 : Hid (∀ w', Touch G W w' → Z6 w' (w.heap.size + 1) ∧ S6 w' w2.heap.size 1 sa so) := fun w' t => (h1 w' t).2.2
    have H2 := hid h2
    clear h1 h2
    have t0 : Touch G W W.drew := (Touch.refl _ _).drew
    go_region_held3 (fun w' => Touch G W w') (first | assumption | exact (Touch.refl _ _).drew) ((go_at_call 120; refine H2.out.mono ?_; rintro e w3 ⟨rfl, t3, c3⟩; have C3 := hid c3; clear c3))
    obtain ⟨hz, hs⟩ := H1.out _ t3
    obtain ⟨z0, z1, z2, z3, z4, z5, f0, f1, f2, f3, f4, f5⟩ := hz
    obtain ⟨s0, s1, s2, s3, s4, s5⟩ := hs
    clear sA sB sC t0 t3
    go_wp2
    refine bodyPost_ret (v := .tuple #[.agg #[.int .i64 1, .int .i64 sa, .int .i64 so.1, .int .i64 so.2.1, .int .i64 so.2.2.1, .int .i64 so.2.2.2], .int .i64 E]) (by simp [results, Tryz.results81, go_sem, z0, z1, z2, z3, z4, z5]) rfl ⟨rfl, ?_⟩
    exact C3.out _ (tset6 _ _ _ _ _ _ _ _)
  · subst hu
    go_enter Tryz.func81, Tryz.ntmps81
    go_upto_region 1 with fail
    unfold bx zbx at hV
    rw [← hV]
    clear hV
    go_upto_region 3 with (go_at_call 119; refine HL.out.mono ?_; rintro e w2 ⟨rfl, c2⟩; have C2 := hid c2; clear c2)
    obtain ⟨o, G, h1, h2⟩ := HW.out _ C2.out
    obtain ⟨W, hW⟩ : ∃ W, W = w2.alloc (.cells #[.int .i64 2, .int .i64 sa, .int .i64 so.1, .int .i64 so.2.1, .int .i64 so.2.2.1, .int .i64 so.2.2.2] 155) := ⟨_, rfl⟩
    rw [← hW] at h1 h2 ⊢
    clear hW b0 b1
    have sA : ∀ w', Touch G W w' → w'.cell? ⟨m, 9, none⟩ = some (.pointer (some ⟨o, 0, none⟩)) := fun w' t => (h1 w' t).1
    have sB : ∀ w', Touch G W w' → w'.cell? ⟨w.heap.size, 0, none⟩ = some (.int .u16 k.1) := fun w' t => (h1 w' t).2.1.1
    have sC : ∀ w', Touch G W w' → w'.cell? ⟨w.heap.size, 1, none⟩ = some (.string k.2) := fun w' t => (h1 w' t).2.1.2
    have H1 : Hid (∀ w', Touch G W w' → Z6 w' (w.heap.size + 1) ∧ S6 w' w2.heap.size 2 sa so) := fun w' t => (h1 w' t).2.2
    have H2 := hid h2
    clear h1 h2
    have t0 : Touch G W W.drew := (Touch.refl _ _).drew
    go_region_held3 (fun w' => Touch G W w') (first | assumption | exact (Touch.refl _ _).drew) ((go_at_call 120; refine H2.out.mono ?_; rintro e w3 ⟨rfl, t3, c3⟩; have C3 := hid c3; clear c3))
    obtain ⟨hz, hs⟩ := H1.out _ t3
    obtain ⟨z0, z1, z2, z3, z4, z5, f0, f1, f2, f3, f4, f5⟩ := hz
    obtain ⟨s0, s1, s2, s3, s4, s5⟩ := hs
    clear sA sB sC t0 t3
    go_wp2
    refine bodyPost_ret (v := .tuple #[.agg #[.int .i64 2, .int .i64 sa, .int .i64 so.1, .int .i64 so.2.1, .int .i64 so.2.2.1, .int .i64 so.2.2.2], .int .i64 E]) (by simp [results, Tryz.results81, go_sem, z0, z1, z2, z3, z4, z5]) rfl ⟨rfl, ?_⟩
    exact C3.out _ (tset6 _ _ _ _ _ _ _ _)
theorem isUse_fnd {c : Cf} {now n : Int} {xs : List En} {k : K} (h : isUse (askR c now n xs k).1 = true) : ∃ v, fnd xs k = some v := by
  unfold askR lookS at h
  cases hf : fnd xs k with
  | some v => exact ⟨v, rfl⟩
  | none =>
    rw [hf] at h
    split at h <;> simp [isUse] at h
theorem tellM (w : World) (m : Nat) (F : List Nat) (c : Cf) (now n : Int) (xs : List En) (h : Mq w m F c now xs) (k : K) (ok : Ok k) :
    Calls Tryz.prog 81 #[PT m, .int .i64 n, kv k] w fun e w' => e = .returned (.tuple #[lv (askR c now n xs k), .int .i64 (askE now n k)]) ∧ Mc w m F c (askN now n k) (tellX c now n xs k) w' := by
  unfold tellX
  cases hu : isUse (askR c now n xs k).1 with
  | false => exact tell22_not w m F c now n xs h k ok hu
  | true =>
    obtain ⟨v, hf⟩ := isUse_fnd hu
    rw [if_pos rfl]
    unfold useX
    rw [hf]
    exact tell22_yes w m F c now n xs h k ok hu v hf
end Go.Proofs.YtpefbmheblfbeaaGreat.Me
/- What the statements on reading back stand on: what is kept by what is done to a memo, a patch laid over the old memo, and three memos side by side; the conditions are those that each states. -/
namespace Go.Proofs.YtpefbmheblfbeaaGreat.Sn
open Go.RowKit Go.Sort Go.Shelf Me
set_option linter.unusedVariables false
set_option linter.unusedSimpArgs false
def EK (c : Cf) (xs : List En) : Prop := ∀ x ∈ xs, EnOk x ∧ keepsC c x.2.1 = true
theorem Bk.ek {c : Cf} {now : Int} {xs : List En} (h : Bk c now xs) : EK c xs := fun x hx => ⟨h.mm.x x hx, h.kp x hx⟩
theorem Bk.ofM {w : World} {m : Nat} {F : List Nat} {c : Cf} {now : Int} {xs : List En} (h : Mq w m F c now xs) (hc : CfOk c) (he : EK c xs) : Bk c now xs := by
  have g := h.gd
  have n1 := g.n1
  unfold MT at n1
  exact ⟨g.oc, g.n0, n1, ⟨hc, ⟨g.n0, by omega⟩, fun x hx => (he x hx).1, h.len⟩, fun x hx => (g.ok x hx).1, fun x hx => (he x hx).2, fun x hx => (g.ok x hx).2.2, g.ln, h.nd⟩
theorem EK.sub {c : Cf} {xs ys : List En} (h : EK c xs) (hs : ∀ x ∈ ys, x ∈ xs) : EK c ys := fun x hx => h x (hs x hx)
theorem EK.drop {c : Cf} {xs : List En} (h : EK c xs) (k : K) : EK c (drx xs k) := h.sub (fun x hx => (List.mem_filter.1 hx).1)
theorem mem_putY {xs : List En} {k : K} {v : V} {x : En} (h : x ∈ putY xs k v) : x ∈ xs ∨ x = (k, v) := by
  unfold putY at h
  rw [List.mem_append, List.mem_singleton] at h
  rcases h with h | h
  · exact Or.inl (List.mem_filter.1 h).1
  · exact Or.inr h
theorem EK.tell {c : Cf} {xs : List En} (h : EK c xs) (now n : Int) (k : K) : EK c (tellX c now n xs k) := by
  unfold tellX
  split
  · unfold useX
    cases hf : fnd xs k with
    | none => exact h
    | some v =>
      refine h.sub (fun x hx => ?_)
      rcases mem_putY hx with q | rfl
      · exact q
      · exact fnd_mem hf
  · exact h
theorem EK.keep {c : Cf} {xs : List En} (h : EK c xs) {now n : Int} {k : K} {x : O} (ok : Ok k) (wo : Wo x) (h0 : 0 ≤ now) : EK c (kpX c now n xs k x) := by
  unfold kpX
  cases hb : kpB c now n k x with
  | false => simpa using h
  | true =>
    rw [if_pos rfl]
    unfold kpB at hb
    rw [Bool.and_eq_true, decide_eq_true_eq] at hb
    obtain ⟨he, hk⟩ := hb
    unfold keepE at he
    by_cases ht : tickE now n = 0
    · rw [if_pos ht] at he
      obtain ⟨p1, p2⟩ := pairE_ok he
      obtain ⟨t1, t2⟩ := tickE_ok ht
      unfold MT at t2
      obtain ⟨r1, r2⟩ := right_k p2 hk
      obtain ⟨w1, w2, w3, w4⟩ := wo
      have f1 : 0 ≤ k.1 ∧ k.1 ≤ 65535 := by simpa [Lit.wf, IntKind.min, IntKind.max, IntKind.signed, IntKind.bits] using ok.1
      have hn : EnOk (k, (x, n)) ∧ keepsC c x = true := ⟨⟨f1.1, f1.2, p1, by show (0 : Int) ≤ n; omega, by show n ≤ 9223372036854775807; omega, w64 w1, w64 w3, r1, ⟨r2, (w64 w4).2⟩⟩, hk⟩
      have hp : EK c (putY xs k (x, n)) := fun y hy => by
        rcases mem_putY hy with q | rfl
        · exact h y q
        · exact hn
      unfold putL
      split
      · exact hp.sub (fun y hy => List.mem_of_mem_tail hy)
      · exact hp
    · rw [if_neg ht] at he
      exact absurd he ht
theorem ofP_bk {c : Cf} {now : Int} {xs : List En} (h : Bk c now xs) : ofP c now xs = (0, 0) := by
  unfold ofP
  rw [if_neg (by rw [h.oc]; simp), if_neg (by rw [isT_yes h.n0 (by unfold MT; exact h.n1)]; simp), if_neg (by have := h.ln; omega)]
  refine ofL_zero _ _ _ [] 0 (fun pre x post e => ?_)
  have hx : x ∈ xs := by rw [e]; simp
  have hp : pairE x.1 x.2.1 = 0 := by
    unfold pairE
    rw [if_neg (by have := (h.mm.x x hx).nm; omega), if_pos (h.rt x hx)]
  have hn : hs (keysL pre) x.1 = false := hs_no (fun hm => by
    have nd := h.nd
    rw [e] at nd
    unfold keysL at nd hm
    rw [List.map_append, List.map_cons, List.nodup_append] at nd
    exact nd.2.2 _ hm _ (by simp) rfl)
  have t0 := (h.mm.x x hx).t0
  have t1 := h.tm x hx
  rw [List.nil_append]
  unfold nxE
  rw [hp, fnd_isSome, hn, h.kp x hx]
  simp
  omega
def MkQ (w : World) (c : Cf) (now : Int) (xs : List En) (m : Nat) (w' : World) : Prop := ∃ F, Mq w' m F c now xs ∧ (∀ i ∈ F, w.heap.size ≤ i) ∧ Touch [] w w'
theorem apply_ok {w : World} {m0 : Nat} {F0 : List Nat} {c : Cf} {n0 now : Int} {ys xs : List En} {gs : List K} (h0 : Mq w m0 F0 c n0 ys) (b0 : Bk c n0 ys) (b1 : Bk c now xs) (hn : n0 ≤ now) (hg : gs.Perm (gonL ys xs)) (hs : (patS c n0 ys now xs gs).size ≤ 140737488351232) : Calls Tryz.prog 17 #[PT m0, .string (patS c n0 ys now xs gs)] w fun e w' => ∃ m, e = .returned (.tuple #[PT m, .int .i64 0, .int .i64 0]) ∧ MkQ w c now xs m w' := by
  have P := patch_back b0 b1 hn hg
  have e0 := ofP_bk b1
  refine (apply_ h0 b0.mm hs (fun _ => by rw [P.n, P.l]; exact b1.mm)).mono fun e w' q => ?_
  unfold ApQ at q
  rw [P.n, P.l, P.s0, P.s1, e0] at q
  have hsm : smO c now xs = smM c now xs := by unfold smO; rw [e0, if_pos rfl]
  rw [hsm] at q
  rcases q with ⟨q, _⟩ | ⟨_, q, _⟩ | ⟨_, _, q, _⟩ | ⟨_, _, _, pm, w9, w10, rfl, t9, q, t10⟩
  · exact absurd P.er q
  · exact absurd rfl q
  · exact absurd rfl q
  · rcases q with ⟨q, _⟩ | ⟨_, _, m, F, rfl, mq, hF, t⟩
    · rw [e0] at q
      exact absurd rfl q
    · exact ⟨m, rfl, F, mq.keep0 t10, fun i hi => Nat.le_trans t9.size (hF i hi), (t9.trans' t).trans' t10⟩
theorem patS_le {c : Cf} {n0 : Int} {ys : List En} {now : Int} {xs : List En} {gs : List K} (b0 : Bk c n0 ys) (b1 : Bk c now xs) (hg : gs.Perm (gonL ys xs)) : (patS c n0 ys now xs gs).size ≤ 140737488351232 := by
  have q := keysB_len (gon_key b0.mm hg).1 (gon_key b0.mm hg).2
  have q2 := entsB_len (xs := othL ys xs) (fun x hx => b1.mm.x x (List.mem_filter.1 hx).1) (Nat.le_trans (othL_len ys xs) b1.mm.l)
  have q3 := keysB_len (ks := keysL xs) b1.key (by rw [keysL_len]; exact b1.mm.l)
  have l2 := nB_len (n := now) (by have := b1.n1; omega)
  rw [patS_size]
  unfold bodyQ
  simp only [List.length_append, by8_len]
  show 8 + _ + 8 ≤ _
  omega
theorem same_eq {w : World} {m0 m : Nat} {F0 F : List Nat} {c : Cf} {now : Int} {xs : List En} (h0 : Mq w m0 F0 c now xs) (h : Mq w m F c now xs) (b : Bk c now xs) : Calls Tryz.prog 19 #[PT m0, PT m] w fun e w' => e = .returned (.bool true) ∧ Touch [] w w' :=
  (same_ (fun w' t => tell_ (h0.keep0 t) b.mm) (fun w' t => tell_ (h.keep0 t) b.mm)).mono fun e w' q => ⟨by rw [q.1]; simp, q.2⟩
theorem kpN_le {now n : Int} {k : K} {x : O} : now ≤ kpN now n k x := by
  unfold kpN
  split
  · rename_i h
    unfold keepE at h
    by_cases ht : tickE now n = 0
    · exact (tickE_ok ht).1
    · rw [if_neg ht] at h; exact absurd h ht
  · exact Int.le_refl _
theorem askN_le {now n : Int} {k : K} : now ≤ askN now n k := by
  unfold askN
  split
  · rename_i h
    unfold askE at h
    by_cases ht : tickE now n = 0
    · exact (tickE_ok ht).1
    · rw [if_neg ht] at h; exact absurd h ht
  · exact Int.le_refl _
theorem made_no {w : World} {c : Cf} {now : Int} {xs : List En} {v : Value} (wc : Wc c) (hl : xs.length ≤ 2199023255488) (hv : RA w v xs) (hok : ∀ x ∈ xs, Ok x.1) (h1 : ¬ (ofP c now xs).2 = 0) : Calls Tryz.prog 9 #[.agg (wcs c now v)] w fun e w'' => ∃ a1 c1, e = .returned (.tuple #[.pointer none, mv c now (.slice a1 xs.length c1), .bool false]) ∧ Touch [] w w'' :=
  (made_ wc hl hv hok).mono fun e w'' ⟨pm, u, he, hrn, ht, hm⟩ => by
    obtain ⟨a1, c1, hu, _⟩ := id hrn
    subst hu
    rcases hm with ⟨_, q⟩ | ⟨q, _⟩
    · exact ⟨a1, c1, by rw [he, q, decide_eq_false h1], ht⟩
    · exact absurd q h1
end Go.Proofs.YtpefbmheblfbeaaGreat.Sn
/- A slice of changes as an argument, opened; no conditions. -/
namespace Go.Proofs.YtpefbmheblfbeaaGreat
open Go.ChangeShapes Go.WideShapes Go.ChangeAt Go.RowKit
set_option linter.unusedVariables false
theorem cl_Tintuint16 : Tryz.prog.cellsOf 52 = 1 := by kernel_rfl
theorem cl_9 : Tryz.prog.cellsOf 9 = 1 := by kernel_rfl
theorem cl_3 : Tryz.prog.cellsOf 3 = 1 := by kernel_rfl
theorem cl_2 : Tryz.prog.cellsOf 2 = 1 := by kernel_rfl
theorem cl_KeQ : Tryz.prog.cellsOf 54 = 2 := by kernel_rfl
structure KeQ where
  sp : Int
  nm : ByteArray
def KeQ.ok (a : KeQ) : Prop := (Lit.int .u16 a.sp).wf = true ∧ a.nm.size ≤ maxLen
def KeQ.cs (a : KeQ) : Array Value := #[.int .u16 a.sp, .string a.nm]
set_option maxRecDepth 100000 in
theorem fields_KeQ {H : Type} {enc : TypeId × Value → H} {W : World} {base fuel : Nat} {spare : Nat → Bool} {held : Bool} {cs : List Value} {x : DataW H × List MemPlace} (h : DataW.trod enc Tryz.prog W base spare held fuel 54 cs = some x) (hl : cs.length = 2) :
    ∃ a : KeQ, cs = a.cs.toList ∧ a.ok := by
  obtain ⟨ys, k, hk, hxy, _, hyl, hfe⟩ := DataW.trod_struct Tryz.underlying54 h
  match cs, hl with
  | [v0, v1], _ =>
    have hy : ys.length = 2 := hyl
    match ys, hy with
    | [y0, y1], _ =>
      have g0 := hfe 0 _ rfl
      have g1 := hfe 1 _ rfl
      simp [cl_9, cl_Tintuint16] at g0 g1
      obtain ⟨A0, e0, _, w0⟩ := DataW.trod_int Tryz.underlying52 g0
      obtain ⟨A1, e1, _, w1⟩ := DataW.trod_string Tryz.underlying9 g1
      simp only [List.cons.injEq, and_true] at e0 e1
      subst e0 e1
      exact ⟨⟨A0, A1⟩, rfl, w0, w1⟩
theorem cl_FaQ : Tryz.prog.cellsOf 56 = 3 := by kernel_rfl
structure FaQ where
  kd : Int
  cd : Int
  rn : Int
def FaQ.ok (a : FaQ) : Prop := W64 a.kd ∧ W64 a.cd ∧ W64 a.rn
def FaQ.cs (a : FaQ) : Array Value := #[.int .i64 a.kd, .int .i64 a.cd, .int .i64 a.rn]
set_option maxRecDepth 100000 in
theorem fields_FaQ {H : Type} {enc : TypeId × Value → H} {W : World} {base fuel : Nat} {spare : Nat → Bool} {held : Bool} {cs : List Value} {x : DataW H × List MemPlace} (h : DataW.trod enc Tryz.prog W base spare held fuel 56 cs = some x) (hl : cs.length = 3) :
    ∃ a : FaQ, cs = a.cs.toList ∧ a.ok := by
  obtain ⟨ys, k, hk, hxy, _, hyl, hfe⟩ := DataW.trod_struct Tryz.underlying56 h
  match cs, hl with
  | [v0, v1, v2], _ =>
    have hy : ys.length = 3 := hyl
    match ys, hy with
    | [y0, y1, y2], _ =>
      have g0 := hfe 0 _ rfl
      have g1 := hfe 1 _ rfl
      have g2 := hfe 2 _ rfl
      simp [cl_3] at g0 g1 g2
      obtain ⟨A0, e0, _, w0⟩ := DataW.trod_int Tryz.underlying3 g0
      obtain ⟨A1, e1, _, w1⟩ := DataW.trod_int Tryz.underlying3 g1
      obtain ⟨A2, e2, _, w2⟩ := DataW.trod_int Tryz.underlying3 g2
      simp only [List.cons.injEq, and_true] at e0 e1 e2
      subst e0 e1 e2
      exact ⟨⟨A0, A1, A2⟩, rfl, w0, w1, w2⟩
theorem cl_OuQ : Tryz.prog.cellsOf 58 = 4 := by kernel_rfl
structure OuQ where
  v : Int
  f : FaQ
def OuQ.ok (a : OuQ) : Prop := W64 a.v ∧ FaQ.ok a.f
def OuQ.cs (a : OuQ) : Array Value := #[.int .i64 a.v, .int .i64 a.f.kd, .int .i64 a.f.cd, .int .i64 a.f.rn]
set_option maxRecDepth 100000 in
theorem fields_OuQ {H : Type} {enc : TypeId × Value → H} {W : World} {base fuel : Nat} {spare : Nat → Bool} {held : Bool} {cs : List Value} {x : DataW H × List MemPlace} (h : DataW.trod enc Tryz.prog W base spare held fuel 58 cs = some x) (hl : cs.length = 4) :
    ∃ a : OuQ, cs = a.cs.toList ∧ a.ok := by
  obtain ⟨ys, k, hk, hxy, _, hyl, hfe⟩ := DataW.trod_struct Tryz.underlying58 h
  match cs, hl with
  | [v0, v1, v2, v3], _ =>
    have hy : ys.length = 2 := hyl
    match ys, hy with
    | [y0, y1], _ =>
      have g0 := hfe 0 _ rfl
      have g1 := hfe 1 _ rfl
      simp [cl_2, cl_FaQ] at g0 g1
      obtain ⟨A0, e0, _, w0⟩ := DataW.trod_int Tryz.underlying2 g0
      obtain ⟨A1, b1, w1⟩ := fields_FaQ g1 rfl
      simp only [FaQ.cs, List.cons.injEq, and_true] at b1
      obtain ⟨e1, e2, e3⟩ := b1
      simp only [List.cons.injEq, and_true] at e0
      subst e0 e1 e2 e3
      exact ⟨⟨A0, A1⟩, rfl, w0, w1⟩
theorem cl_ChQ : Tryz.prog.cellsOf 75 = 8 := by kernel_rfl
structure ChQ where
  kd : Int
  st : Int
  k : KeQ
  o : OuQ
def ChQ.ok (a : ChQ) : Prop := W64 a.kd ∧ W64 a.st ∧ KeQ.ok a.k ∧ OuQ.ok a.o
def ChQ.cs (a : ChQ) : Array Value := #[.int .i64 a.kd, .int .i64 a.st, .int .u16 a.k.sp, .string a.k.nm, .int .i64 a.o.v, .int .i64 a.o.f.kd, .int .i64 a.o.f.cd, .int .i64 a.o.f.rn]
set_option maxRecDepth 100000 in
theorem fields_ChQ {H : Type} {enc : TypeId × Value → H} {W : World} {base fuel : Nat} {spare : Nat → Bool} {held : Bool} {cs : List Value} {x : DataW H × List MemPlace} (h : DataW.trod enc Tryz.prog W base spare held fuel 75 cs = some x) (hl : cs.length = 8) :
    ∃ a : ChQ, cs = a.cs.toList ∧ a.ok := by
  obtain ⟨ys, k, hk, hxy, _, hyl, hfe⟩ := DataW.trod_struct Tryz.underlying75 h
  match cs, hl with
  | [v0, v1, v2, v3, v4, v5, v6, v7], _ =>
    have hy : ys.length = 4 := hyl
    match ys, hy with
    | [y0, y1, y2, y3], _ =>
      have g0 := hfe 0 _ rfl
      have g1 := hfe 1 _ rfl
      have g2 := hfe 2 _ rfl
      have g3 := hfe 3 _ rfl
      simp [cl_2, cl_3, cl_KeQ, cl_OuQ] at g0 g1 g2 g3
      obtain ⟨A0, e0, _, w0⟩ := DataW.trod_int Tryz.underlying3 g0
      obtain ⟨A1, e1, _, w1⟩ := DataW.trod_int Tryz.underlying2 g1
      obtain ⟨A2, b2, w2⟩ := fields_KeQ g2 rfl
      simp only [KeQ.cs, List.cons.injEq, and_true] at b2
      obtain ⟨e2, e3⟩ := b2
      obtain ⟨A3, b3, w3⟩ := fields_OuQ g3 rfl
      simp only [OuQ.cs, List.cons.injEq, and_true] at b3
      obtain ⟨e4, e5, e6, e7⟩ := b3
      simp only [List.cons.injEq, and_true] at e0 e1
      subst e0 e1 e2 e3 e4 e5 e6 e7
      exact ⟨⟨A0, A1, A2, A3⟩, rfl, w0, w1, w2, w3⟩
theorem add_plainA (b off j : Nat) : (⟨b, off, none⟩ : Addr).add j = ⟨b, off + j, none⟩ := by simp [Addr.add]
structure RowChQ (w : World) (b off : Nat) (xs : List ChQ) : Prop where
  lt : b < w.heap.size
  c0 : ∀ i (h : i < xs.length), w.cell? ⟨b, off + i * 8, none⟩ = some (.int .i64 xs[i].kd)
  c1 : ∀ i (h : i < xs.length), w.cell? ⟨b, off + i * 8 + 1, none⟩ = some (.int .i64 xs[i].st)
  c2 : ∀ i (h : i < xs.length), w.cell? ⟨b, off + i * 8 + 2, none⟩ = some (.int .u16 xs[i].k.sp)
  c3 : ∀ i (h : i < xs.length), w.cell? ⟨b, off + i * 8 + 3, none⟩ = some (.string xs[i].k.nm)
  c4 : ∀ i (h : i < xs.length), w.cell? ⟨b, off + i * 8 + 4, none⟩ = some (.int .i64 xs[i].o.v)
  c5 : ∀ i (h : i < xs.length), w.cell? ⟨b, off + i * 8 + 5, none⟩ = some (.int .i64 xs[i].o.f.kd)
  c6 : ∀ i (h : i < xs.length), w.cell? ⟨b, off + i * 8 + 6, none⟩ = some (.int .i64 xs[i].o.f.cd)
  c7 : ∀ i (h : i < xs.length), w.cell? ⟨b, off + i * 8 + 7, none⟩ = some (.int .i64 xs[i].o.f.rn)
def SlChQ (w : World) (v : Value) (xs : List ChQ) : Prop := (xs = [] ∧ ∃ a c, v = .slice a 0 c) ∨ ∃ b off cap, v = .slice (some ⟨b, off, none⟩) xs.length cap ∧ RowChQ w b off xs
theorem RowChQ.keep {w w' : World} {b off : Nat} {xs : List ChQ} (h : RowChQ w b off xs) (ht : Touch [] w w') : RowChQ w' b off xs := by
  have e : w'.heap[b]? = w.heap[b]? := ht.block b h.lt (by simp)
  refine ⟨Nat.lt_of_lt_of_le h.lt ht.size, fun i hi => ?_, fun i hi => ?_, fun i hi => ?_, fun i hi => ?_, fun i hi => ?_, fun i hi => ?_, fun i hi => ?_, fun i hi => ?_⟩
  · rw [World.cell?_of_block (by exact e)]; exact h.c0 i hi
  · rw [World.cell?_of_block (by exact e)]; exact h.c1 i hi
  · rw [World.cell?_of_block (by exact e)]; exact h.c2 i hi
  · rw [World.cell?_of_block (by exact e)]; exact h.c3 i hi
  · rw [World.cell?_of_block (by exact e)]; exact h.c4 i hi
  · rw [World.cell?_of_block (by exact e)]; exact h.c5 i hi
  · rw [World.cell?_of_block (by exact e)]; exact h.c6 i hi
  · rw [World.cell?_of_block (by exact e)]; exact h.c7 i hi
set_option maxRecDepth 100000 in
theorem open_ChQs {H : Type} {enc : TypeId × Value → H} {W : World} {b0 : Nat} {v : Value} {d : DataW H} {p : List MemPlace} (hv : Value.okWide Tryz.prog W .any b0 73 v) (h : DataW.Trod enc Tryz.prog W 0 (fun _ => true) true 73 v d p) :
    ∃ xs : List ChQ, SlChQ W v xs ∧ (∀ x ∈ xs, x.ok) ∧ (xs = [] ∨ ∃ elems spare, d = .slice elems spare ∧ elems.length = xs.length) := by
  obtain ⟨a, len, cap, rfl⟩ := okWide_slice Tryz.underlying73 hv
  obtain ⟨fuel, hf⟩ := h
  rcases Deep.open_slice Tryz.underlying73 hf with ⟨hcs, _⟩ | ⟨x, l, c, m, n, D, Pl, hcs, _, hl, hm, hmm, hx, hall⟩
  · simp [Value.cells] at hcs
    obtain ⟨rfl, rfl, rfl⟩ := hcs
    exact ⟨[], Or.inl ⟨rfl, _, _, rfl⟩, fun x hx => by simp at hx, Or.inl rfl⟩
  · simp [Value.cells] at hcs
    obtain ⟨rfl, rfl, rfl⟩ := hcs
    simp only [if_true] at hmm
    subst hmm
    simp only [Prod.mk.injEq] at hx
    obtain ⟨rfl, rfl⟩ := hx
    rw [cl_ChQ] at hall
    have each : ∀ i, i < m → ∃ q : ChQ, W.cell? (x.add (i * 8)) = some (.int .i64 q.kd) ∧ W.cell? (x.add (i * 8 + 1)) = some (.int .i64 q.st) ∧ W.cell? (x.add (i * 8 + 2)) = some (.int .u16 q.k.sp) ∧ W.cell? (x.add (i * 8 + 3)) = some (.string q.k.nm) ∧ W.cell? (x.add (i * 8 + 4)) = some (.int .i64 q.o.v) ∧ W.cell? (x.add (i * 8 + 5)) = some (.int .i64 q.o.f.kd) ∧ W.cell? (x.add (i * 8 + 6)) = some (.int .i64 q.o.f.cd) ∧ W.cell? (x.add (i * 8 + 7)) = some (.int .i64 q.o.f.rn) ∧ q.ok := fun i hi => by
      obtain ⟨cs', h1, h2⟩ := hall i hi
      obtain ⟨_, hlen, hcell⟩ := World.cells?_some h1
      obtain ⟨q, rfl, wq⟩ := fields_ChQ h2 hlen
      have e0 := hcell 0 (by omega)
      have e1 := hcell 1 (by omega)
      have e2 := hcell 2 (by omega)
      have e3 := hcell 3 (by omega)
      have e4 := hcell 4 (by omega)
      have e5 := hcell 5 (by omega)
      have e6 := hcell 6 (by omega)
      have e7 := hcell 7 (by omega)
      rw [Deep.add_add] at e0 e1 e2 e3 e4 e5 e6 e7
      exact ⟨q, by simpa [ChQ.cs] using e0, by simpa [ChQ.cs] using e1, by simpa [ChQ.cs] using e2, by simpa [ChQ.cs] using e3, by simpa [ChQ.cs] using e4, by simpa [ChQ.cs] using e5, by simpa [ChQ.cs] using e6, by simpa [ChQ.cs] using e7, wq⟩
    haveI : Inhabited ChQ := ⟨⟨0, 0, ⟨0, ⟨#[]⟩⟩, ⟨0, ⟨0, 0, 0⟩⟩⟩⟩
    obtain ⟨q, hq⟩ := Deep.choose_lt each
    rcases Nat.eq_zero_or_pos len with e | e
    · subst e
      exact ⟨[], Or.inl ⟨rfl, _, _, rfl⟩, fun x hx => by simp at hx, Or.inl rfl⟩
    · have hsp : x.spot = none := by
        have h0 := (hq 0 (by omega)).1
        rw [show x.add (0 * 8) = x by simp [Addr.add]] at h0
        unfold World.cell? at h0
        split at h0
        · split at h0
          · cases h0
          · rename_i hs
            cases hh : x.spot with
            | none => rfl
            | some z => rw [hh] at hs; exact absurd rfl hs
        · cases h0
      obtain ⟨b, off, r⟩ := x
      obtain rfl : r = none := hsp
      have hlen : ((List.range len).map q).length = len := by simp
      refine ⟨(List.range len).map q, Or.inr ⟨b, off, m, by rw [hlen], ?_, fun i hi => ?_, fun i hi => ?_, fun i hi => ?_, fun i hi => ?_, fun i hi => ?_, fun i hi => ?_, fun i hi => ?_, fun i hi => ?_⟩, fun y hy => ?_, Or.inr ⟨_, _, rfl, by simp⟩⟩
      · rcases Nat.lt_or_ge b W.heap.size with h | h
        · exact h
        · have h0 := (hq 0 (by omega)).1
          simp [World.cell?, add_plainA, Array.getElem?_eq_none h] at h0
      · rw [hlen] at hi
        have h0 := (hq i (by omega)).1
        simpa [add_plainA, Nat.add_assoc] using h0
      · rw [hlen] at hi
        have h0 := (hq i (by omega)).2.1
        simpa [add_plainA, Nat.add_assoc] using h0
      · rw [hlen] at hi
        have h0 := (hq i (by omega)).2.2.1
        simpa [add_plainA, Nat.add_assoc] using h0
      · rw [hlen] at hi
        have h0 := (hq i (by omega)).2.2.2.1
        simpa [add_plainA, Nat.add_assoc] using h0
      · rw [hlen] at hi
        have h0 := (hq i (by omega)).2.2.2.2.1
        simpa [add_plainA, Nat.add_assoc] using h0
      · rw [hlen] at hi
        have h0 := (hq i (by omega)).2.2.2.2.2.1
        simpa [add_plainA, Nat.add_assoc] using h0
      · rw [hlen] at hi
        have h0 := (hq i (by omega)).2.2.2.2.2.2.1
        simpa [add_plainA, Nat.add_assoc] using h0
      · rw [hlen] at hi
        have h0 := (hq i (by omega)).2.2.2.2.2.2.2.1
        simpa [add_plainA, Nat.add_assoc] using h0
      · simp only [List.mem_map, List.mem_range] at hy
        obtain ⟨i, hi, rfl⟩ := hy
        exact (hq i (by omega)).2.2.2.2.2.2.2.2
def KeQ.key (a : KeQ) : K := (a.sp, a.nm)
theorem KeQ.okk {a : KeQ} (h : a.ok) : Ok a.key := ⟨h.1, h.2⟩
def OuQ.out (a : OuQ) : Int × Int × Int × Int := (a.v, a.f.kd, a.f.cd, a.f.rn)
end Go.Proofs.YtpefbmheblfbeaaGreat
/- The statements' own change: something done to a memo; the memo's numbers are of 64 bits, and those of the change. -/
namespace Go.Proofs.YtpefbmheblfbeaaGreat.Sn
open Go.RowKit Go.Sort Go.Shelf Me
set_option linter.unusedVariables false
set_option linter.unusedSimpArgs false
def ChR (w : World) (m : Nat) (F : List Nat) (c : Cf) (now : Int) (w' : World) : Prop := ∃ n2 ys, Mc w m F c n2 ys w' ∧ EK c ys ∧ now ≤ n2
theorem OuQ.wo {a : OuQ} (h : a.ok) : Wo a.out := ⟨h.1, h.2.1, h.2.2.1, h.2.2.2⟩
theorem tm4 (k : Int) : -3 ≤ k.tmod 4 ∧ k.tmod 4 ≤ 3 := by
  rcases Int.le_total 0 k with h | h
  · rw [Int.tmod_eq_emod_of_nonneg h]; omega
  · have e : k.tmod 4 = -((-k).tmod 4) := by rw [Int.neg_tmod]; simp
    rw [e, Int.tmod_eq_emod_of_nonneg (by omega)]; omega
set_option maxHeartbeats 2000000 in
theorem change_ {w : World} {m : Nat} {F : List Nat} {c : Cf} {now : Int} {xs : List En} (h : Mq w m F c now xs) (he : EK c xs) (n : Int) (a : ChQ) (ha : a.ok) : Calls Tryz.prog 27 #[PT m, .int .i64 n, .agg a.cs] w fun e w' => e = .returned (.tuple #[]) ∧ ChR w m F c now w' := by
  obtain ⟨a1, a2, a3, a4⟩ := ha
  obtain ⟨V, hV⟩ : ∃ V, V = w.alloc (.cells a.cs 75) := ⟨_, rfl⟩
  have tV : Touch [] w V := by rw [hV]; exact (Touch.refl _ _).alloc _
  have hb : V.heap[w.heap.size]? = some (.cells a.cs 75 (0, 0)) := by rw [hV]; exact heap_alloc_new w _
  have hq := h.keep0 tV
  have HN0 : 0 ≤ now := h.gd.n0
  have HT : Hid (Calls Tryz.prog 81 #[PT m, .int .i64 n, kv a.k.key] V fun e w' => ∃ v, e = .returned v ∧ ChR w m F c now w') := hid ((tellM V m F c now n xs hq a.k.key (KeQ.okk a3)).mono fun e w' ⟨h1, h2⟩ => ⟨_, h1, _, _, h2.from0 tV, he.tell now n a.k.key, askN_le⟩)
  have HD : Hid (Calls Tryz.prog 23 #[PT m, kv a.k.key] V fun e w' => ∃ v, e = .returned v ∧ ChR w m F c now w') := hid ((dropM V m F c now xs hq a.k.key (KeQ.okk a3)).mono fun e w' ⟨h1, h2⟩ => ⟨_, h1, _, _, h2.from0 tV, he.drop a.k.key, Int.le_refl _⟩)
  have HK : Hid (Calls Tryz.prog 21 #[PT m, .int .i64 n, kv a.k.key, ov a.o.out] V fun e w' => ∃ v, e = .returned v ∧ ChR w m F c now w') := hid ((keepM V m F c now n xs hq a.k.key (KeQ.okk a3) a.o.out).mono fun e w' ⟨u, h1, _, h2⟩ => ⟨_, h1, _, _, h2.from0 tV, he.keep (KeQ.okk a3) (OuQ.wo a4) HN0, kpN_le⟩)
  clear hq HN0 h he a1 a2 a3 a4 tV
  unfold ChQ.cs at *
  unfold KeQ.key OuQ.out kv ov PT at *
  have x0 := cell_of (n := 0) hb rfl
  have x2 := cell_of (n := 2) hb rfl
  have x3 := cell_of (n := 3) hb rfl
  have x4 := cell_of (n := 4) hb rfl
  have x5 := cell_of (n := 5) hb rfl
  have x6 := cell_of (n := 6) hb rfl
  have x7 := cell_of (n := 7) hb rfl
  clear hb
  obtain ⟨q1, q2⟩ := tm4 a.kd
  obtain ⟨r, hr⟩ : ∃ r, r = a.kd.tmod 4 := ⟨_, rfl⟩
  rw [← hr] at q1 q2
  have hr' : a.kd.tmod 4 = r := hr.symm
  clear hr
  obtain ⟨z, hz⟩ : ∃ z, z = r + 4 := ⟨_, rfl⟩
  have hz' : r + 4 = z := hz.symm
  have z1 : 0 ≤ z := by omega
  have z2 : z ≤ 7 := by omega
  clear hz
  obtain ⟨y, hy⟩ : ∃ y, y = z % 4 := ⟨_, rfl⟩
  have hy' : z % 4 = y := hy.symm
  have y1 : 0 ≤ y := by omega
  have y2 : y ≤ 3 := by omega
  clear hy
  go_enter Tryz.func27, Tryz.ntmps27
  go_upto_region 1 with fail
  rw [← hV]
  clear hV
  by_cases e0 : (y == 0) = true
  · go_wp2_with (go_at_call 81; refine HT.out.mono ?_; rintro e w1 ⟨v1, rfl, c1⟩; have C1 := hid c1; clear c1)
    go_end0
    exact ⟨rfl, C1.out⟩
  · have e0' : (y == 0) = false := by simpa using e0
    clear e0
    by_cases e1 : (y == 1) = true
    · go_wp2_with (go_at_call 23; refine HD.out.mono ?_; rintro e w1 ⟨v1, rfl, c1⟩; have C1 := hid c1; clear c1)
      go_end0
      exact ⟨rfl, C1.out⟩
    · have e1' : (y == 1) = false := by simpa using e1
      clear e1
      go_wp2_with (go_at_call 21; refine HK.out.mono ?_; rintro e w1 ⟨v1, rfl, c1⟩; have C1 := hid c1; clear c1)
      go_end0
      exact ⟨rfl, C1.out⟩
end Go.Proofs.YtpefbmheblfbeaaGreat.Sn
/- The walk of SnapshotChains; the numbers are of 64 bits, the lists no longer than a slice may be. -/
namespace Go.Proofs.YtpefbmheblfbeaaGreat.Sn
open Go.RowKit Go.Sort Go.Shelf Me
set_option linter.unusedVariables false
set_option linter.unusedSimpArgs false
structure Cs (V wr : World) (c : Cf) (f : Nat) (Ff : List Nat) (now : Int) (xs : List En) (o : Nat) (Fo : List Nat) (no : Int) (Lo : List En) (l : Nat) (Fl : List Nat) (k : Nat) (Fk : List Nat) (nw : Int) (L : List En) : Prop where
  t : Touch [] V wr
  f : Mq wr f Ff c now xs
  o : Mq wr o Fo c no Lo
  l : Mq wr l Fl c nw L
  k : Mq wr k Fk c nw L
  fo : ∀ i ∈ Fo, V.heap.size ≤ i
  d1 : ∀ i ∈ Fo, ¬ i ∈ Ff
  d2 : ∀ i ∈ Fo, ¬ i ∈ Fl
  d3 : ∀ i ∈ Fo, ¬ i ∈ Fk
section
variable {V wr w2 w3 w4 : World} {c : Cf} {f : Nat} {Ff : List Nat} {now : Int} {xs : List En} {o : Nat} {Fo : List Nat} {no : Int} {Lo : List En} {l : Nat} {Fl : List Nat} {k : Nat} {Fk : List Nat} {nw : Int} {L : List En}
theorem Cs.keep0 (h : Cs V wr c f Ff now xs o Fo no Lo l Fl k Fk nw L) (t : Touch [] wr w2) : Cs V w2 c f Ff now xs o Fo no Lo l Fl k Fk nw L :=
  ⟨h.t.trans' t, h.f.keep0 t, h.o.keep0 t, h.l.keep0 t, h.k.keep0 t, h.fo, h.d1, h.d2, h.d3⟩
theorem Cs.setO (h : Cs V wr c f Ff now xs o Fo no Lo l Fl k Fk nw L) {n2 : Int} {ys : List En} (q : Mc wr o Fo c n2 ys w2) : ∃ Fo', Cs V w2 c f Ff now xs o Fo' n2 ys l Fl k Fk nw L := by
  obtain ⟨F', h1, h2, h3⟩ := q
  refine ⟨F', h.t.trans h2 (fun i hi => Or.inr (h.fo i hi)), h.f.keep h2 (fun i hi e => h.d1 i e hi), h1, h.l.keep h2 (fun i hi e => h.d2 i e hi), h.k.keep h2 (fun i hi e => h.d3 i e hi), fun i hi => ?_, fun i hi => ?_, fun i hi => ?_, fun i hi => ?_⟩
  · rcases h3 i hi with e | e
    · exact h.fo i e
    · exact Nat.le_trans h.t.size e
  · rcases h3 i hi with e | e
    · exact h.d1 i e
    · intro e2; have := h.f.lt i e2; omega
  · rcases h3 i hi with e | e
    · exact h.d2 i e
    · intro e2; have := h.l.lt i e2; omega
  · rcases h3 i hi with e | e
    · exact h.d3 i e
    · intro e2; have := h.k.lt i e2; omega
theorem Cs.next (h : Cs V wr c f Ff now xs o Fo no Lo l Fl k Fk nw L) {nx l2 : Nat} (q : MkQ wr c no Lo nx w2) (t : Touch [] w2 w3) (p : CpQ w3 l2 c no Lo w4) : ∃ Fl2 Fk2, Cs V w4 c f Ff now xs o Fo no Lo l2 Fl2 nx Fk2 no Lo := by
  obtain ⟨Fk2, k1, k2, k3⟩ := q
  obtain ⟨Fl2, l1, l3, l4⟩ := p
  have T := (k3.trans' t).trans' l4
  refine ⟨Fl2, Fk2, h.t.trans' T, h.f.keep0 T, h.o.keep0 T, l1, (k1.keep0 t).keep0 l4, h.fo, h.d1, fun i hi e => ?_, fun i hi e => ?_⟩
  · have := l3 i e
    have := h.o.lt i hi
    have := (k3.trans' t).size
    omega
  · have := k2 i e
    have := h.o.lt i hi
    omega
theorem Cs.start {w1 : World} (hm : Mq w1 o Fo c now xs) (hF : ∀ i ∈ Fo, V.heap.size ≤ i) (tV : Touch [] V w1) (p1 : CpQ w1 f c now xs w2) (p2 : CpQ w2 l c now xs w3) (p3 : CpQ w3 k c now xs w4) : ∃ Ff Fl Fk, Cs V w4 c f Ff now xs o Fo now xs l Fl k Fk now xs := by
  obtain ⟨Ff, a1, a2, a3⟩ := p1
  obtain ⟨Fl, b1, b2, b3⟩ := p2
  obtain ⟨Fk, c1, c2, c3⟩ := p3
  have T := (a3.trans' b3).trans' c3
  refine ⟨Ff, Fl, Fk, tV.trans' T, (a1.keep0 b3).keep0 c3, hm.keep0 T, b1.keep0 c3, c1, hF, fun i hi e => ?_, fun i hi e => ?_, fun i hi e => ?_⟩
  · have := a2 i e
    have := hm.lt i hi
    omega
  · have := b2 i e
    have := hm.lt i hi
    have := a3.size
    omega
  · have := c2 i e
    have := hm.lt i hi
    have := (a3.trans' b3).size
    omega
end
theorem made_new {w : World} {c : Cf} {now : Int} {xs : List En} {v : Value} (wc : Wc c) (hl : xs.length ≤ 2199023255488) (hv : RA w v xs) (hok : ∀ x ∈ xs, Ok x.1) (h1 : (ofP c now xs).2 = 0) : Calls Tryz.prog 9 #[.agg (wcs c now v)] w fun e w'' => ∃ m F a1 c1, e = .returned (.tuple #[PT m, mv c now (.slice a1 xs.length c1), .bool true]) ∧ Mq w'' m F c now xs ∧ (∀ i ∈ F, w.heap.size ≤ i) ∧ Touch [] w w'' :=
  (made_ wc hl hv hok).mono fun e w'' ⟨pm, u, he, hrn, ht, hm⟩ => by
    obtain ⟨a1, c1, hu, _⟩ := id hrn
    subst hu
    rcases hm with ⟨q, _⟩ | ⟨_, m, F, rfl, mq, hF⟩
    · exact absurd h1 q
    · exact ⟨m, F, a1, c1, by rw [he, decide_eq_true h1], mq, hF, ht⟩
theorem CpQ.tou {w w' : World} {m2 : Nat} {c : Cf} {now : Int} {xs : List En} (h : CpQ w m2 c now xs w') : Touch [] w w' := by
  obtain ⟨F, _, _, t⟩ := h
  exact t
def ChI (V : World) (c : Cf) (f : Nat) (Ff : List Nat) (now : Int) (xs : List En) (o l k : Nat) (wr : World) : Prop := ∃ Fo Fl Fk nw L, Cs V wr c f Ff now xs o Fo nw L l Fl k Fk nw L ∧ EK c L ∧ now ≤ nw
set_option maxRecDepth 20000 in
set_option maxHeartbeats 16000000 in
theorem chains_ {w : World} {c : Cf} {now : Int} {xs : List En} {acs : List ChQ} {v vm : Value} (wc : Wc c) (wn : W64 now) (hv : RA w v xs) (ho : ∀ x ∈ xs, Ok x.1 ∧ Wo x.2.1 ∧ W64 x.2.2) (hl : xs.length ≤ 2199023255488) (hvm : SlChQ w vm acs) (hom : ∀ x ∈ acs, x.ok) (hlm : acs.length ≤ 2199023255488) :
    Calls Tryz.prog 7 #[.agg (wcs c now v), vm] w fun e w' => e = .returned (.bool true) ∧ Touch [] w w' := by
  obtain ⟨V, hV⟩ : ∃ V, V = w.alloc (.cells (wcs c now v) 26) := ⟨_, rfl⟩
  have tV : Touch [] w V := by rw [hV]; exact (Touch.refl _ _).alloc _
  have hb : V.heap[w.heap.size]? = some (.cells (wcs c now v) 26 (0, 0)) := by rw [hV]; exact heap_alloc_new w _
  have HT := hid tV
  have AW := hid awake_
  have MY := hid (fun h1 => made_new (w := V) (now := now) wc hl (hv.keep tV) (fun x hx => (ho x hx).1) h1)
  have MN := hid (fun h1 => made_no (w := V) (now := now) wc hl (hv.keep tV) (fun x hx => (ho x hx).1) h1)
  have HBK := hid (fun h1 nd => Bk.of (c := c) (now := now) (xs := xs) h1 wc wn ho nd)
  obtain ⟨am, nm, cm, evm, hnm, hrow⟩ : ∃ am nm cm, vm = .slice am nm cm ∧ nm = acs.length ∧ (0 < nm → ∃ b off, am = some ⟨b, off, none⟩ ∧ RowChQ w b off acs) := by
    rcases hvm with ⟨e, a, cp, rfl⟩ | ⟨b, off, cp, rfl, r⟩
    · exact ⟨_, _, _, rfl, by rw [e]; rfl, fun h => absurd h (by omega)⟩
    · exact ⟨_, _, _, rfl, rfl, fun _ => ⟨b, off, rfl, r⟩⟩
  subst evm
  have HVM := hid hrow
  have HOM := hid hom
  have HNM := hid hnm
  have HLM := hid hlm
  have q0 := cell_of (n := 0) hb rfl
  have q1 := cell_of (n := 1) hb rfl
  have q2 := cell_of (n := 2) hb rfl
  have q3 := cell_of (n := 3) hb rfl
  have q4 := cell_of (n := 4) hb rfl
  have q5 := cell_of (n := 5) hb rfl
  have q6 := cell_of (n := 6) hb rfl
  have q7 := cell_of (n := 7) hb rfl
  have q8 := cell_of (n := 8) hb rfl
  clear wn hv ho hl tV hb hvm hom hlm hnm wc hrow
  go_enter Tryz.func7, Tryz.ntmps7
  unfold wcs at *
  go_upto_region 1 with fail
  rw [← hV]
  clear hV
  by_cases h1 : (ofP c now xs).2 = 0
  · have M1 := hid (MY.out h1)
    have HB1 := hid (HBK.out h1)
    unfold wcs mv at M1
    clear MY MN HBK
    go_upto_region 2 with (go_at_call 9; refine M1.out.mono ?_; rintro e u6 ⟨o, Fm, a1, c1, rfl, mq, hF, t6⟩; have MQ := hid mq; have T6 := hid t6; have HF := hid hF; clear mq t6 hF)
    clear M1 q0 q1 q2 q3 q4 q5 q6 q7 q8
    have BK := hid (HB1.out MQ.out.nd)
    clear HB1 h1
    have T7 := hid (T6.out.alloc (.cells #[.int .i64 c.t, .int .i64 c.n, .int .i64 c.s, .int .i64 c.e, .int .i64 c.f, .int .i64 c.b, .int .i64 c.d, .int .i64 now, .slice a1 xs.length c1] 32))
    have MQ7 := hid (MQ.out.keep0 ((Touch.refl [] u6).alloc (.cells #[.int .i64 c.t, .int .i64 c.n, .int .i64 c.s, .int .i64 c.e, .int .i64 c.f, .int .i64 c.b, .int .i64 c.d, .int .i64 now, .slice a1 xs.length c1] 32)))
    go_upto_region 4 with (go_at_call 8; refine (AW.out _).mono ?_; rintro e u8 ⟨rfl, t8⟩; have T8 := hid (T7.out.trans' t8); have MQ8 := hid (MQ7.out.keep0 t8); clear t8)
    clear T6 T7 MQ MQ7 AW
    have HCL := hid (fun w' (t : Touch [] u8 w') => cloneM w' o Fm c now xs (MQ8.out.keep0 t))
    unfold PT at *
    go_upto_region 5 with (go_at_call 20; refine (HCL.out _ (Touch.refl _ _)).mono ?_; rintro e u9 ⟨f, rfl, p1⟩; have P1 := hid p1; have TA := hid (CpQ.tou p1); clear p1)
    go_upto_region 6 with (first
      | (go_at_call 20; refine (HCL.out _ TA.out).mono ?_; rintro e u10 ⟨l0, rfl, p2⟩; have P2 := hid p2; have TB := hid (TA.out.trans' (CpQ.tou p2)); clear p2 TA)
      | (go_at_call 20; refine (HCL.out _ TB.out).mono ?_; rintro e u11 ⟨k0, rfl, p3⟩; have P3 := hid p3; clear p3 TB))
    have CS0 := hid (Cs.start MQ8.out HF.out T8.out P1.out P2.out P3.out)
    clear HCL MQ8 P1 P2 P3 HF
    obtain ⟨Ff, Fl, Fk, hcs0⟩ := CS0.out
    have HI0 : Hid (ChI V c f Ff now xs o l0 k0 u11) := hid ⟨_, _, _, now, xs, hcs0, BK.out.ek, Int.le_refl _⟩
    clear CS0 hcs0 T8
    go_wp2_with fail
    go_loopw [9, 10, 45] (fun s9 s10 s45 wr => ∃ i l k : Nat, s45 = .int .i64 i ∧ i ≤ nm ∧ s9 = .pointer (some ⟨l, 0, none⟩) ∧ s10 = .pointer (some ⟨k, 0, none⟩) ∧ Hid (ChI V c f Ff now xs o l k wr)) (fun _ _ s45 _ => nm - (intOf s45).toNat)
    case atStart => exact ⟨0, l0, k0, rfl, Nat.zero_le _, rfl, rfl, HI0⟩
    case round =>
      clear HI0
      obtain ⟨i, l, k, rfl, hi, rfl, rfl, HI⟩ := hrel
      obtain ⟨wo, hwo⟩ : ∃ wo, wo = wr := ⟨_, rfl⟩
      rw [← hwo] at HI ⊢
      clear hwo wr
      have hnn : nm ≤ 2199023255488 := by have := HLM.out; have := HNM.out; omega
      by_cases hlt : i < nm
      · have hz : (i : Int) < (nm : Int) := by omega
        have hix : i < acs.length := by rw [← HNM.out]; exact hlt
        obtain ⟨Fo, Fl, Fk, nw, L, hCS, hEK, hle⟩ := HI.out
        obtain ⟨g2, o2, rfl, hrw⟩ := HVM.out (by omega)
        have hrw2 := hrw.keep (HT.out.trans' hCS.t)
        have k0 := hrw2.c0 i hix
        have k1 := hrw2.c1 i hix
        have k2 := hrw2.c2 i hix
        have k3 := hrw2.c3 i hix
        have k4 := hrw2.c4 i hix
        have k5 := hrw2.c5 i hix
        have k6 := hrw2.c6 i hix
        have k7 := hrw2.c7 i hix
        have hox := HOM.out acs[i] (List.getElem_mem hix)
        generalize acs[i] = x at *
        obtain ⟨W1, hW1⟩ : ∃ W1, W1 = wo.alloc (.cells #[.int .i64 x.kd, .int .i64 x.st, .int .u16 x.k.sp, .string x.k.nm, .int .i64 x.o.v, .int .i64 x.o.f.kd, .int .i64 x.o.f.cd, .int .i64 x.o.f.rn] 75) := ⟨_, rfl⟩
        obtain ⟨kb, hkb⟩ : ∃ kb, kb = wo.heap.size := ⟨_, rfl⟩
        have tW : Touch [] wo W1 := by rw [hW1]; exact (Touch.refl _ _).alloc _
        have hbx : W1.heap[kb]? = some (.cells #[.int .i64 x.kd, .int .i64 x.st, .int .u16 x.k.sp, .string x.k.nm, .int .i64 x.o.v, .int .i64 x.o.f.kd, .int .i64 x.o.f.cd, .int .i64 x.o.f.rn] 75 (0, 0)) := by rw [hW1, hkb]; exact heap_alloc_new wo _
        have CS1 := hid (hCS.keep0 tW)
        have HBX := hid hbx
        have HLT := hid (And.intro hi hlt)
        have HOX := hid hox
        have HEK := hid hEK
        have HLE := hid hle
        have HBl := hid (Bk.ofM hCS.l BK.out.mm.c hEK)
        clear hCS hEK hle hox tW hbx hix HI hrw hrw2
        go_upto_region 9 with fail
        rw [← hW1]
        try rw [← hkb]
        clear hW1 hkb k0 k1 k2 k3 k4 k5 k6 k7
        have HNO : Hid (∀ w', Touch [] W1 w' → Calls Tryz.prog 22 #[.pointer (some ⟨o, 0, none⟩)] w' fun e w'' => e = .returned (.int .i64 nw) ∧ w'' = w') := hid (fun w' t => by obtain ⟨bq, oq, G, _, hq⟩ := (CS1.out.keep0 t).o; exact now26 w' o c nw bq oq hq.md)
        have Y1 : ∀ w', Touch [] W1 w' → w'.cell? ⟨kb, 1, none⟩ = some (.int .i64 x.st) := fun w' t => cell_at (t.keep HBX.out (by simp)) rfl
        have zz := block_lt HBX.out
        go_cut [13] from 49 to 54 (fun a wx => ∃ z : Int, a = .int .i64 z ∧ Hid (Touch [] W1 wx))
        case first =>
          go_region_held3 (fun w' => Touch [] W1 w') (first | assumption | exact (Touch.refl _ _).drew | exact Touch.refl _ _ | exact Touch.drew (by assumption)) (first | (go_at_call 22; refine (HNO.out _ (by assumption)).mono ?_; rintro e a1 ⟨rfl, e1⟩; rw [e1]; clear e1 a1))
          all_goals
            go_wp2_with fail
            go_meet
            exact ⟨_, rfl, hid (by assumption)⟩
        case rest =>
          obtain ⟨z, rfl, HTz⟩ := hcut
          clear Y1 zz
          go_upto_if 56 with fail
          go_cut [13] from 55 to 58 (fun a wx => ∃ z : Int, a = .int .i64 z ∧ Hid (Touch [] W1 wx))
          case first =>
            go_wp2_with (go_at_call 22; refine (HNO.out _ HTz.out).mono ?_; rintro e a1 ⟨rfl, e1⟩; rw [e1]; clear e1 a1)
            all_goals
              go_meet
              exact ⟨_, rfl, HTz⟩
          case rest =>
            obtain ⟨z, rfl, HTy⟩ := hcut
            have CSx := hid (CS1.out.keep0 HTy.out)
            have hbx := HTy.out.keep HBX.out (by simp)
            have HCH := hid (change_ CSx.out.o HEK.out z x HOX.out)
            unfold ChQ.cs PT at HCH
            have y0 := cell_of (n := 0) hbx rfl
            have y1 := cell_of (n := 1) hbx rfl
            have y2 := cell_of (n := 2) hbx rfl
            have y3 := cell_of (n := 3) hbx rfl
            have y4 := cell_of (n := 4) hbx rfl
            have y5 := cell_of (n := 5) hbx rfl
            have y6 := cell_of (n := 6) hbx rfl
            have y7 := cell_of (n := 7) hbx rfl
            clear hbx HNO HTz CS1
            go_upto_region 13 with (go_at_call 27; refine HCH.out.mono ?_; rintro e w2 ⟨rfl, n2, ys, hmc, hek2, hle2⟩; have EK2 := hid hek2; have LE2 := hid hle2; have CS2 := hid (CSx.out.setO hmc); clear hmc hek2 hle2 HCH)
            clear y0 y1 y2 y3 y4 y5 y6 y7
            obtain ⟨Fo2, hcs2⟩ := CS2.out
            have CS3 := hid hcs2
            have HBo := hid (Bk.ofM hcs2.o BK.out.mm.c EK2.out)
            have HPA := hid (patch_ hcs2.l hcs2.o HBl.out.mm HBo.out.mm LE2.out)
            clear hcs2 CS2 CSx HEK
            unfold PT at HPA
            go_upto_region 14 with (go_at_call 15; refine HPA.out.mono ?_; rintro e w4 ⟨gs, hg, _, rfl, t4⟩; have HG := hid hg; have CS4 := hid (CS3.out.keep0 t4); clear hg t4)
            have HAP := hid (apply_ok CS4.out.k HBl.out HBo.out LE2.out HG.out (patS_le HBl.out HBo.out HG.out))
            generalize patS c nw L n2 ys gs = sp at *
            unfold PT at HAP
            go_upto_region 15 with (go_at_call 17; refine HAP.out.mono ?_; rintro e w5 ⟨nx, rfl, hq5⟩; have QK := hid hq5; clear hq5 HAP)
            have HSE := hid (by obtain ⟨Fq, h1, h2, h3⟩ := QK.out; exact same_eq h1 (CS4.out.o.keep0 h3) HBo.out)
            unfold PT at HSE
            go_upto_region 17 with (go_at_call 19; refine HSE.out.mono ?_; rintro e w6 ⟨rfl, t6⟩; have T6 := hid t6; clear t6 HSE)
            have HC2 := hid (by obtain ⟨Fq, h1, h2, h3⟩ := QK.out; exact cloneM w6 o Fo2 c n2 ys ((CS4.out.o.keep0 h3).keep0 T6.out))
            unfold PT at HC2
            go_wp2_with (go_at_call 20; refine HC2.out.mono ?_; rintro e w7 ⟨l2, rfl, p7⟩; have CS7 := hid (CS4.out.next QK.out T6.out p7); clear p7 HC2)
            have HI2 : Hid (ChI V c f Ff now xs o l2 nx w7) := hid (by obtain ⟨Fl2, Fk2, h⟩ := CS7.out; exact ⟨_, _, _, n2, ys, h, EK2.out, Int.le_trans HLE.out LE2.out⟩)
            clear CS7
            go_roundw
            case rel => exact ⟨i + 1, l2, nx, by go_num, by have := HLT.out; omega, rfl, rfl, HI2⟩
            case measure => simp [intOf]; have := HLT.out; omega
      · have hz : ¬ (i : Int) < (nm : Int) := by omega
        obtain ⟨Fo, Fl, Fk, nw, L, hCS, hEK, hle⟩ := HI.out
        have HBo := hid (Bk.ofM hCS.o BK.out.mm.c hEK)
        have CS1 := hid hCS
        have HLE := hid hle
        have HPA := hid (patch_ hCS.f hCS.o BK.out.mm HBo.out.mm hle)
        clear hCS hEK hle HI
        unfold PT at HPA
        go_upto_region 20 with (go_at_call 15; refine HPA.out.mono ?_; rintro e w4 ⟨gs, hg, _, rfl, t4⟩; have HG := hid hg; have CS4 := hid (CS1.out.keep0 t4); clear hg t4)
        have HAP := hid (apply_ok CS4.out.f BK.out HBo.out HLE.out HG.out (patS_le BK.out HBo.out HG.out))
        generalize patS c now xs nw L gs = sp at *
        unfold PT at HAP
        go_upto_region 21 with (go_at_call 17; refine HAP.out.mono ?_; rintro e w5 ⟨nx, rfl, hq5⟩; have QK := hid hq5; clear hq5 HAP)
        have HSE := hid (by obtain ⟨Fq, h1, h2, h3⟩ := QK.out; exact same_eq h1 (CS4.out.o.keep0 h3) HBo.out)
        unfold PT at HSE
        go_wp2_with (go_at_call 19; refine HSE.out.mono ?_; rintro e w6 ⟨rfl, t6⟩; have T6 := hid (by obtain ⟨Fq, h1, h2, h3⟩ := QK.out; exact HT.out.trans' (CS4.out.t.trans' (h3.trans' t6))); clear t6 HSE)
        go_ret
        exact ⟨rfl, T6.out⟩
  · have M1 := hid (MN.out h1)
    unfold wcs mv at M1
    clear MY MN HBK h1
    go_upto_region 2 with (go_at_call 9; refine M1.out.mono ?_; rintro e u6 ⟨a1, c1, rfl, t6⟩; have T6 := hid t6; clear t6)
    clear M1 q0 q1 q2 q3 q4 q5 q6 q7 q8
    have T7 := hid ((HT.out.trans' T6.out).alloc (.cells #[.int .i64 c.t, .int .i64 c.n, .int .i64 c.s, .int .i64 c.e, .int .i64 c.f, .int .i64 c.b, .int .i64 c.d, .int .i64 now, .slice a1 xs.length c1] 32))
    go_upto_region 3 with (go_at_call 8; refine (AW.out _).mono ?_; rintro e u8 ⟨rfl, t8⟩; have T8 := hid (T7.out.trans' t8); clear t8)
    go_wp2_with (go_at_call 8; refine (AW.out _).mono ?_; rintro e u9 ⟨rfl, t9⟩; have T9 := hid (T8.out.trans' t9); clear t9)
    go_ret
    exact ⟨rfl, T9.out⟩
end Go.Proofs.YtpefbmheblfbeaaGreat.Sn
/- SnapshotChains as its frame calls it; no conditions but those of the form. -/
namespace Go.Proofs.YtpefbmheblfbeaaGreat.Sn
open Go.RowKit Me
set_option linter.unusedVariables false
theorem chainsL_ (W : World) (c : Cf) (n : Int) (v : Value) (xs : List En) (acs : List ChQ) (vm : Value) (wc : Wc c) (wn : W64 n) (hv : RA W v xs) (ho : ∀ x ∈ xs, Ok x.1 ∧ Wo x.2.1 ∧ W64 x.2.2) (hl : xs.length ≤ 2199023255488) (hvm : SlChQ W vm acs) (hom : ∀ x ∈ acs, x.ok) (hlm : acs.length ≤ 1954687338212) :
    Calls Tryz.prog 7 #[.agg (wcs c n v), vm] W fun e w' => e = .returned (.bool true) ∧ Touch [] W w' := chains_ wc wn hv ho hl hvm hom (by omega)
end Go.Proofs.YtpefbmheblfbeaaGreat.Sn
