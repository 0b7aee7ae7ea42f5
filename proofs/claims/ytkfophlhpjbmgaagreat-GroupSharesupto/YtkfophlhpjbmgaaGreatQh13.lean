/- One key that is kept, grows stale and is refreshed, in plain words; no program. -/
import Derived.Test.YtkfophlhpjbmgaaGreatQh12
import Derived.Test.YtkfophlhpjbmgaaGreatProg
import Derived.Shelf.SlIterI.Nil
import Derived.Shelf.SortM.Plain
import Derived.Shelf.SortM.SortNone
import Derived.Test.YtkfophlhpjbmgaaGreatQh05
import Derived.Lib.SlKeysI
import Derived.Test.YtkfophlhpjbmgaaGreatQh11
import Derived.Test.YtkfophlhpjbmgaaGreatQh02
import Derived.Test.YtkfophlhpjbmgaaGreatRows
import Derived.WalkKit
import Derived.ProofKit
import Derived.OpenShut
import Derived.ShutString
import Derived.Deep.Slices
import Derived.Test.YtkfophlhpjbmgaaGreatQh04
import Derived.Test.YtkfophlhpjbmgaaGreatQh01
namespace Go.Proofs.YtkfophlhpjbmgaaGreat
set_option linter.unusedVariables false
set_option linter.unusedSimpArgs false
def rn (b : Int) (k : K) (rf : Bool) : Ta.Rn := ⟨b, k.1, k.2, 0, rf⟩
theorem kOf_rn (b : Int) (k : K) (rf : Bool) : Ta.kOf (rn b k rf) = k := rfl
theorem mayO {X : Gp} {n : Int} {k : K} {x : Int} (h0 : 0 ≤ n) (h1 : n ≤ 4611686018427387904) (h2 : X.now ≤ n) (h64 : k.2.size ≤ 64) (hx : 1 ≤ x) (hG : X.G = []) (hL : X.L = []) : mayE X n k x 0 = 0 := by
  have ht : tkE X n = 0 := by
    unfold tkE Me.tickE
    rw [Me.isT_yes h0 h1, if_pos rfl, if_neg (by omega)]
  unfold mayE
  rw [ht, hG, hL]
  simp [Lv.whr]
  omega
section
variable {t s : Int} {k : K}
theorem tk0 {X : Gp} {n : Int} (h0 : 0 ≤ n) (h1 : n ≤ 4611686018427387904) (h2 : X.now ≤ n) : tkE X n = 0 := by
  unfold tkE Me.tickE
  rw [Me.isT_yes h0 h1, if_pos rfl, if_neg (by omega)]
end
end Go.Proofs.YtkfophlhpjbmgaaGreat
/- The contracts of the library's Keys, Sorted and Sort, laid at this program: facts of the program alone; no conditions. -/
namespace Go.Proofs
open Go.Shelf
def Tryz.keysA_ren : Go.Shelf.Ren := ⟨fun | 7 => 102 | 10 => 141 | n => n, fun | 23 => 176 | 26 => 3 | 3 => 171 | 28 => 189 | 0 => 0 | 27 => 188 | 33 => 90 | 4 => 4 | n => n, fun | n => n⟩
theorem Tryz.keysA : Go.Proofs.SlLaysZI.n7 Tryz.prog Tryz.keysA_ren := {
  mixed := by kernel_rfl
  f7 := ⟨Tryz.f102.name, by decide, Tryz.func102.trans (congrArg some (by kernel_rfl))⟩
  f10 := ⟨Tryz.f141.name, by decide, Tryz.func141.trans (congrArg some (by kernel_rfl))⟩
  t0 := Tryz.underlying0
  a0 := Tryz.isAgg0
  z0 := Tryz.sizeOf0
  v0 := Tryz.zeroValue0
  t4 := Tryz.underlying4
  a4 := Tryz.isAgg4
  z4 := Tryz.sizeOf4
  v4 := Tryz.zeroValue4
  t23 := Tryz.underlying176
  a23 := Tryz.isAgg176
  z23 := Tryz.sizeOf176
  v23 := Tryz.zeroValue176
  t26 := Tryz.underlying3
  a26 := Tryz.isAgg3
  z26 := Tryz.sizeOf3
  v26 := Tryz.zeroValue3
  t27 := Tryz.underlying188
  a27 := Tryz.isAgg188
  z27 := Tryz.sizeOf188
  v27 := Tryz.zeroValue188
  t28 := Tryz.underlying189
  a28 := Tryz.isAgg189
  z28 := Tryz.sizeOf189
  v28 := Tryz.zeroValue189
  t33 := Tryz.underlying90
  a33 := Tryz.isAgg90
  z33 := Tryz.sizeOf90
  v33 := Tryz.zeroValue90 }
def Tryz.sortedA_ren : Go.Shelf.Ren := ⟨fun | 6 => 101 | 8 => 139 | 9 => 140 | 11 => 169 | 13 => 149 | 12 => 170 | 23 => 181 | 24 => 182 | 14 => 190 | 15 => 191 | 16 => 192 | 17 => 193 | 18 => 194 | 19 => 195 | 20 => 196 | 21 => 197 | 22 => 198 | 25 => 207 | 26 => 201 | 27 => 202 | 28 => 208 | 29 => 209 | 30 => 210 | 31 => 214 | n => n, fun | 26 => 3 | 28 => 189 | 24 => 47 | 0 => 0 | 3 => 3 | 37 => 253 | 48 => 279 | 50 => 281 | 4 => 4 | 40 => 273 | 39 => 272 | 45 => 81 | 5 => 5 | 9 => 9 | 51 => 294 | 55 => 298 | 57 => 303 | 58 => 304 | 33 => 90 | n => n, fun | n => n⟩
theorem Tryz.sortedA : Go.Proofs.SlLaysZI.n6 Tryz.prog Tryz.sortedA_ren := {
  mixed := by kernel_rfl
  f6 := ⟨Tryz.f101.name, by decide, Tryz.func101.trans (congrArg some (by kernel_rfl))⟩
  f8 := ⟨Tryz.f139.name, by decide, Tryz.func139.trans (congrArg some (by kernel_rfl))⟩
  f11 := ⟨Tryz.f169.name, by decide, Tryz.func169.trans (congrArg some (by kernel_rfl))⟩
  t0 := Tryz.underlying0
  a0 := Tryz.isAgg0
  z0 := Tryz.sizeOf0
  v0 := Tryz.zeroValue0
  t24 := Tryz.underlying47
  a24 := Tryz.isAgg47
  z24 := Tryz.sizeOf47
  v24 := Tryz.zeroValue47
  t26 := Tryz.underlying3
  a26 := Tryz.isAgg3
  z26 := Tryz.sizeOf3
  v26 := Tryz.zeroValue3
  t28 := Tryz.underlying189
  a28 := Tryz.isAgg189
  z28 := Tryz.sizeOf189
  v28 := Tryz.zeroValue189
  i26 := by kernel_rfl }
def Tryz.sortA_ren : Go.Shelf.Ren := ⟨fun | 5 => 140 | 8 => 149 | 7 => 170 | 19 => 181 | 20 => 182 | 10 => 190 | 11 => 191 | 12 => 192 | 13 => 193 | 14 => 194 | 15 => 195 | 16 => 196 | 17 => 197 | 18 => 198 | 30 => 207 | 31 => 201 | 32 => 202 | 33 => 208 | 34 => 209 | 35 => 210 | 40 => 214 | n => n, fun | 23 => 47 | 25 => 3 | 3 => 3 | 32 => 253 | 22 => 47 | 0 => 0 | 44 => 279 | 46 => 281 | 4 => 4 | 36 => 273 | 35 => 272 | 41 => 81 | 5 => 5 | 9 => 9 | 53 => 294 | 57 => 298 | 63 => 303 | 64 => 304 | n => n, fun | n => n⟩
theorem Tryz.sortA : Go.Proofs.SlLaysM.n5 Tryz.prog Tryz.sortA_ren := {
  mixed := by kernel_rfl
  f5 := ⟨Tryz.f140.name, by decide, Tryz.func140.trans (congrArg some (by kernel_rfl))⟩
  f7 := ⟨Tryz.f170.name, by decide, Tryz.func170.trans (congrArg some (by kernel_rfl))⟩
  f8 := Tryz.func149.trans (congrArg some (by kernel_rfl))
  f10 := ⟨Tryz.f190.name, by decide, Tryz.func190.trans (congrArg some (by kernel_rfl))⟩
  f11 := ⟨Tryz.f191.name, by decide, Tryz.func191.trans (congrArg some (by kernel_rfl))⟩
  f12 := ⟨Tryz.f192.name, by decide, Tryz.func192.trans (congrArg some (by kernel_rfl))⟩
  f13 := ⟨Tryz.f193.name, by decide, Tryz.func193.trans (congrArg some (by kernel_rfl))⟩
  f14 := ⟨Tryz.f194.name, by decide, Tryz.func194.trans (congrArg some (by kernel_rfl))⟩
  f15 := ⟨Tryz.f195.name, by decide, Tryz.func195.trans (congrArg some (by kernel_rfl))⟩
  f16 := ⟨Tryz.f196.name, by decide, Tryz.func196.trans (congrArg some (by kernel_rfl))⟩
  f17 := ⟨Tryz.f197.name, by decide, Tryz.func197.trans (congrArg some (by kernel_rfl))⟩
  f18 := ⟨Tryz.f198.name, by decide, Tryz.func198.trans (congrArg some (by kernel_rfl))⟩
  f19 := Tryz.func181.trans (congrArg some (by kernel_rfl))
  f20 := Tryz.func182.trans (congrArg some (by kernel_rfl))
  f30 := ⟨Tryz.f207.name, by decide, Tryz.func207.trans (congrArg some (by kernel_rfl))⟩
  f31 := Tryz.func201.trans (congrArg some (by kernel_rfl))
  f32 := Tryz.func202.trans (congrArg some (by kernel_rfl))
  f33 := ⟨Tryz.f208.name, by decide, Tryz.func208.trans (congrArg some (by kernel_rfl))⟩
  f34 := ⟨Tryz.f209.name, by decide, Tryz.func209.trans (congrArg some (by kernel_rfl))⟩
  f35 := ⟨Tryz.f210.name, by decide, Tryz.func210.trans (congrArg some (by kernel_rfl))⟩
  f40 := ⟨Tryz.f214.name, by decide, Tryz.func214.trans (congrArg some (by kernel_rfl))⟩
  t0 := Tryz.underlying0
  a0 := Tryz.isAgg0
  z0 := Tryz.sizeOf0
  v0 := Tryz.zeroValue0
  t3 := Tryz.underlying3
  a3 := Tryz.isAgg3
  z3 := Tryz.sizeOf3
  v3 := Tryz.zeroValue3
  t4 := Tryz.underlying4
  a4 := Tryz.isAgg4
  z4 := Tryz.sizeOf4
  v4 := Tryz.zeroValue4
  t5 := Tryz.underlying5
  a5 := Tryz.isAgg5
  z5 := Tryz.sizeOf5
  v5 := Tryz.zeroValue5
  t9 := Tryz.underlying9
  a9 := Tryz.isAgg9
  z9 := Tryz.sizeOf9
  v9 := Tryz.zeroValue9
  t22 := Tryz.underlying47
  a22 := Tryz.isAgg47
  z22 := Tryz.sizeOf47
  v22 := Tryz.zeroValue47
  t23 := Tryz.underlying47
  a23 := Tryz.isAgg47
  z23 := Tryz.sizeOf47
  v23 := Tryz.zeroValue47
  t25 := Tryz.underlying3
  a25 := Tryz.isAgg3
  z25 := Tryz.sizeOf3
  v25 := Tryz.zeroValue3
  t32 := Tryz.underlying253
  a32 := Tryz.isAgg253
  z32 := Tryz.sizeOf253
  v32 := Tryz.zeroValue253
  t35 := Tryz.underlying272
  a35 := Tryz.isAgg272
  z35 := Tryz.sizeOf272
  v35 := Tryz.zeroValue272
  t36 := Tryz.underlying273
  a36 := Tryz.isAgg273
  z36 := Tryz.sizeOf273
  v36 := Tryz.zeroValue273
  t41 := Tryz.underlying81
  a41 := Tryz.isAgg81
  z41 := Tryz.sizeOf81
  v41 := Tryz.zeroValue81
  t44 := Tryz.underlying279
  a44 := Tryz.isAgg279
  z44 := Tryz.sizeOf279
  v44 := Tryz.zeroValue279
  t46 := Tryz.underlying281
  a46 := Tryz.isAgg281
  z46 := Tryz.sizeOf281
  v46 := Tryz.zeroValue281
  t53 := Tryz.underlying294
  a53 := Tryz.isAgg294
  z53 := Tryz.sizeOf294
  v53 := Tryz.zeroValue294
  t57 := Tryz.underlying298
  a57 := Tryz.isAgg298
  z57 := Tryz.sizeOf298
  v57 := Tryz.zeroValue298
  t63 := Tryz.underlying303
  a63 := Tryz.isAgg303
  z63 := Tryz.sizeOf303
  v63 := Tryz.zeroValue303
  t64 := Tryz.underlying304
  a64 := Tryz.isAgg304
  z64 := Tryz.sizeOf304
  v64 := Tryz.zeroValue304 }
end Go.Proofs
/- The contract of Progress: all runs in progress, rising. -/
namespace Go.Proofs.YtkfophlhpjbmgaaGreat.Ta
open Go.RowKit Go.Maps Go.ChangeMaps Go.Sort Go.Shelf
set_option maxRecDepth 100000
set_option linter.unusedVariables false
set_option linter.unusedSimpArgs false
theorem sortsP (m : Nat) : AnyZI.SortsIn Tryz.prog Tryz.sortedA_ren Fence.wide m :=
  ⟨fun blk off cap ss W hH hblk hsz => callsIn_wide.2 (AnyM.slices_Sort_int Tryz.sortA blk off cap ss W hH hblk hsz),
   fun p cap W => callsIn_wide.2 (AnyM.slices_Sort_int_none Tryz.sortA p cap W)⟩
set_option maxHeartbeats 2000000 in
theorem progRaw (w : World) (t p nn : Nat) (D0 : DataW Value) (hown : w.ownsMap Tryz.prog 3 HR p nn D0) (c2 : w.cell? ⟨t, 2, none⟩ = some (.map (some p))) (hmax : Maps.size D0 ≤ maxLen) (hbytes : Maps.size D0 * 8 ≤ 140737488355328) :
    Calls Tryz.prog 52 #[.pointer (some ⟨t, 0, none⟩)] w fun e w' => ∃ (v : Value) (ss : List Int), e = .returned v ∧ ss.Perm (intKeys D0) ∧ w'.ownsRow w.heap.size 3 1 v ss.length ((ss.mergeSort (fun x y => decide (x ≤ y))).map encZ) ∧ Below w.heap.size w w' := by
  refine (callsIn_wide (n := 6)).1 ?_
  have hbl := hown.lt
  have hseq : SeqGives Fence.wide 2 Tryz.prog 141 #[.pointer (some ⟨w.heap.size, 0, none⟩)] encZ (fun ss => ss.Perm (intKeys D0)) (Maps.size D0) (w.alloc (.cells #[.map (some p)] 176)) :=
    AnyZI.keys_gives (ρ := Tryz.keysA_ren) { Tryz.keysA with } Fence.wide _ trivial rfl (by omega) w.heap.size p nn D0 _ (by simp) (by simp) (by
      obtain ⟨es, clock, hb, Ft, hs, hD⟩ := hown
      exact ⟨es, clock, (Below.heap_alloc _ _ p hbl).trans hb, Ft, hs, hD⟩)
  have cK : ∀ mb W, CallsIn Fence.wide 5 Tryz.prog 102 #[.map mb] W fun e w' => e = .returned (.func (.func 141) #[] #[.pointer (some ⟨W.heap.size, 0, none⟩)]) ∧ w' = W.alloc (.cells #[.map mb] 176) := fun mb W => AnyZI.keys_in Tryz.keysA Fence.wide 5 trivial rfl mb W
  have cS := AnyZI.sorted_in Tryz.sortedA Fence.wide 5 trivial trivial trivial trivial rfl (by omega) (sortsP _) (enters_of Tryz.func140 (by kernel_rfl) rfl) 141 #[.pointer (some ⟨w.heap.size, 0, none⟩)] trivial (enters_of Tryz.func141 (by kernel_rfl) rfl) _ _ hmax hbytes _ hseq
  change CallsIn _ _ Tryz.prog 101 _ _ _ at cS
  have hfK : Fence.wide.fn 102 := trivial
  have hfS : Fence.wide.fn 101 := trivial
  refine callsIn_of_wp Tryz.func52 rfl trivial ?_ rfl
  simp only [Tryz.ntmps52, List.size_toArray, List.length_cons, List.length_nil, Nat.reduceAdd, Nat.reduceSub, Array.replicate_succ, Array.replicate_zero, List.push_toArray, List.append_toArray, List.nil_append, List.cons_append]
  gi_wp2_with (first
    | (gi_at_call 102; refine (cK _ _).mono ?_; rintro e w' ⟨rfl, rfl⟩)
    | (gi_at_call 101; refine cS.mono ?_; rintro e w' ⟨v, ss, rfl, hS, hrow, hnil, hb⟩))
  go_ret
  exact ⟨v, ss, rfl, hS, ownsRow_base_a hrow (by simp), ((Below.refl _ w).alloc (Nat.le_refl _) _).trans (hb.mono (by simp))⟩
def runsOf (T : Tb) : List Int := T.rs.map (fun p => p.1.run)
theorem runs_sorted {T : Tb} {N : Nat} (h : Ti T N) : (runsOf T).Pairwise (fun a b => a < b) := List.pairwise_map.2 h.ord
section
variable {w : World} {t p c : Nat} {g : Option Nat} {nc ng : Nat} {Ps : List Rb} {T : Tb} {N : Nat}
theorem ptr_has (h : Tm w t p c g nc ng Ps T N) (n : Int) : (ptr Ps n).isSome = decide (n ∈ runsOf T) := by
  unfold runsOf
  rw [h.rs, rsOf, List.map_map]
  unfold ptr
  rw [Option.isSome_map, Bool.eq_iff_iff, List.find?_isSome]
  simp only [decide_eq_true_eq, List.mem_map, Function.comp]
theorem tProg (h : Tm w t p c g nc ng Ps T N) (hN : N ≤ 3000000000000) : Calls Tryz.prog 52 #[PT t] w fun e w' => WtE e w w' (runsOf T) := by
  have c2 := h.cs.c2
  have hh := ptr_has h
  have hR : (runsOf T).length ≤ 4096 := by
    have := h.iv.len
    have := h.iv.fl
    unfold runsOf
    rw [List.length_map]
    omega
  have hs := runs_sorted h.iv
  have hw : ∀ x ∈ runsOf T, W64 x := fun x hx => by
    obtain ⟨q, hq, rfl⟩ := List.mem_map.1 hx
    have h1 := h.iv.rng q hq
    have h2 := h.iv.bg.2
    exact W64.mk (by omega) (by omega)
  have hl : Ps.length = (runsOf T).length := by unfold runsOf; rw [h.rs]; simp [rsOf]
  obtain ⟨D, hown, hsz, hD⟩ := h.pm
  obtain ⟨es, hes, hp, hkl⟩ := hown.entries keyed3
  have hmem : ∀ q ∈ es, ∃ x, W64 x ∧ q.1 = .int .i64 x := fun q hq => by
    have hq' : Maps.has D q.1 = true := by
      rw [hes, Maps.has_eq]
      exact List.any_eq_true.2 ⟨q, hq, WideAt.sameKey_self (hkl q hq)⟩
    obtain ⟨k, hk, e⟩ := hD.dom _ hq'
    exact ⟨k, hk, e⟩
  have hhas : ∀ x, x ∈ runsOf T ↔ Maps.has D (.int .i64 x) = true := fun x => by
    constructor
    · intro hx
      have := (hD.at_ x (hw x hx)).1
      rw [show (KI : KK Tryz.prog 3 Int).lit x = .int .i64 x from rfl] at this
      rw [this, hh]
      simp [hx]
    · intro hx
      obtain ⟨k, hk, e⟩ := hD.dom _ hx
      have e' : x = k := by
        rw [show (KI : KK Tryz.prog 3 Int).lit k = .int .i64 k from rfl] at e
        injection e
      subst e'
      have := (hD.at_ x hk).1
      rw [show (KI : KK Tryz.prog 3 Int).lit x = .int .i64 x from rfl, hx, hh] at this
      simpa using this.symm
  have hperm : (runsOf T).Perm (intKeys D) := by
    rw [hes]
    exact perm_intKeys hp (fun q hq => by obtain ⟨x, _, e⟩ := hmem q hq; exact ⟨x, e⟩) (hs.imp (fun {a b} hab => by omega)) (fun x => by rw [← hes]; exact hhas x)
  refine (progRaw w t p _ D hown c2 (by rw [hsz, hl]; unfold maxLen; omega) (by rw [hsz, hl]; omega)).mono ?_
  rintro e w' ⟨v, ss, rfl, h1, h2, h3⟩
  have e1 : ss.mergeSort leI = (runsOf T).mergeSort leI := mergeSort_of_perm_i (h1.trans hperm.symm)
  have e2 : (runsOf T).mergeSort leI = runsOf T := List.mergeSort_of_pairwise (hs.imp (fun {a b} hab => by simp only [leI, decide_eq_true_eq]; omega))
  have e3 : ss.length = (runsOf T).length := (h1.trans hperm.symm).length_eq
  rw [show (fun x y : Int => decide (x ≤ y)) = leI from rfl, e1, e2, e3] at h2
  exact ⟨v, rfl, Rd.of_own (own_base h2 (Nat.zero_le _)), fun b hb => (h2.lt b hb).1, Touch.of_below h3⟩
end
theorem progT (w : World) (t : Nat) (F : List Nat) (T : Tb) (N : Nat) (h : Tq w t F T N) (hN : N ≤ 3000000000000) : Calls Tryz.prog 52 #[PT t] w fun e w' => WtE e w w' (runsOf T) := by
  obtain ⟨p, c, g, nc, ng, Ps, rfl, h, hL⟩ := h
  exact tProg h hN
end Go.Proofs.YtkfophlhpjbmgaaGreat.Ta
/- What a group answers without being changed; no conditions but those that each states. -/
namespace Go.Proofs.YtkfophlhpjbmgaaGreat
open Go.RowKit Go.Maps Go.ChangeMaps
set_option maxRecDepth 100000
set_option linter.unusedVariables false
set_option linter.unusedSimpArgs false
section
variable {w : World} {g : Nat} {P : Pt} {F : List Nat} {X : Gp} {N : Cn}
theorem waiters_q (h : Gq w g P F X N) (hN : N.t ≤ 3000000000000) {n : Int} (hn : W64 n) : Calls Tryz.prog 14 #[PT g, .int .i64 n] w fun e w' => ∃ a c, e = .returned (.slice a (Ta.whoOf X.T n).length c) ∧ Rd w' (.slice a (Ta.whoOf X.T n).length c) (Ta.whoOf X.T n) ∧ Touch [] w w' := by
  refine (waiters_any (Ow.of h) n (R := fun v w' => Rd w' v (Ta.whoOf X.T n) ∧ Touch [] w w') (fun w1 T => ?_)).mono ?_
  · obtain ⟨Ft, ht, -, -⟩ := (h.keep0 T).tab
    refine (Ta.waitersT w1 P.t Ft X.T N.t ht hN n hn).mono ?_
    rintro e w2 ⟨v, e1, e2, e3, e4⟩
    exact ⟨v, e1, e2, T.trans' e4⟩
  · rintro e w2 ⟨v, rfl, r, t⟩
    obtain ⟨a, c, rfl, _⟩ := r.form
    exact ⟨a, c, rfl, r, t⟩
theorem prog_q (h : Gq w g P F X N) (hN : N.t ≤ 3000000000000) : Calls Tryz.prog 16 #[PT g] w fun e w' => ∃ a c, e = .returned (.slice a (Ta.runsOf X.T).length c) ∧ Rd w' (.slice a (Ta.runsOf X.T).length c) (Ta.runsOf X.T) ∧ Touch [] w w' := by
  refine (prog_any (Ow.of h) (R := fun v w' => Rd w' v (Ta.runsOf X.T) ∧ Touch [] w w') (fun w1 T => ?_)).mono ?_
  · obtain ⟨Ft, ht, -, -⟩ := (h.keep0 T).tab
    refine (Ta.progT w1 P.t Ft X.T N.t ht hN).mono ?_
    rintro e w2 ⟨v, e1, e2, e3, e4⟩
    exact ⟨v, e1, e2, T.trans' e4⟩
  · rintro e w2 ⟨v, rfl, r, t⟩
    obtain ⟨a, c, rfl, _⟩ := r.form
    exact ⟨a, c, rfl, r, t⟩
end
end Go.Proofs.YtkfophlhpjbmgaaGreat
/- Callers of one key, all of them in one run, in plain words; no program. -/
namespace Go.Proofs.YtkfophlhpjbmgaaGreat
set_option linter.unusedVariables false
set_option linter.unusedSimpArgs false
def wS (us : List Int) : Ta.St := ⟨us, false, false, false, Ta.oz⟩
def tH (fl : Int) (k : K) (us : List Int) : Ta.Tb := ⟨fl, 1, [(rn 1 k false, wS us)], fun _ => 0⟩
def sh (c : Me.Cf) (k : K) (us : List Int) (B : Ba.Bs) : Gp := ⟨c, 3, [], tH c.f k us, B, us.map (fun u => (u, 1, 0)), [], 3⟩
section
variable {c : Me.Cf} {k : K} {us : List Int} {B : Ba.Bs}
theorem runH (fl : Int) (k : K) (us : List Int) : Ta.runOf (tH fl k us) 1 = some (rn 1 k false, wS us) := by simp [Ta.runOf, tH, rn]
theorem curH (fl : Int) (k : K) (us : List Int) : Ta.curOf (tH fl k us) k = some (rn 1 k false) := by
  have e1 : decide (Ta.kOf (rn 1 k false) = k) = true := by rw [kOf_rn]; simp
  have e2 : Ta.isCur (tH fl k us) (rn 1 k false) = true := by simp [Ta.isCur, tH, rn]
  unfold Ta.curOf Ta.curL
  have e3 : (tH fl k us).rs = [(rn 1 k false, wS us)] := rfl
  rw [e3, List.find?_cons_of_pos (by simp only [e1, e2]; rfl)]
  rfl
theorem whrH (us : List Int) (x : Int) : (Lv.whr (us.map (fun u => ((u, 1, 0) : Lv.Se))) x).isSome = decide (x ∈ us) := by
  unfold Lv.whr
  rw [Bool.eq_iff_iff]
  simp only [List.find?_isSome, decide_eq_true_eq, List.mem_map]
  constructor
  · rintro ⟨y, ⟨u, hu, rfl⟩, e⟩
    simp only at e
    subst e
    exact hu
  · intro h
    exact ⟨_, ⟨x, h, rfl⟩, rfl⟩
theorem seenH (n : Int) (X : Gp) (h : X.en = []) : seenOf X k = (0, 0, Me.oz) := by
  unfold seenOf
  rw [h]
  rfl
theorem telH {X : Gp} (h : X.en = []) : telB X k = false ∧ telX X k = { X with mn := X.now } := by
  have hs := seenH (k := k) 0 X h
  have hb : telB X k = false := by unfold telB; rw [hs]; rfl
  exact ⟨hb, by unfold telX; rw [hb, hs]; rfl⟩
theorem shFirst (hf : 1 ≤ c.f) (h64 : k.2.size ≤ 64) {x : Int} (hx : 1 ≤ x) : mayE (G0 c 0 []) 3 k x 0 = 0 ∧ (joJ (G0 c 0 []) 3 k x 0).run = 1 ∧ (joJ (G0 c 0 []) 3 k x 0).bg = true ∧ ∃ B, joX (G0 c 0 []) 3 k x 0 = sh c k [x] B := by
  have hm : mayE (G0 c 0 []) 3 k x 0 = 0 := mayO (by omega) (by omega) (by simp only [G0]; omega) h64 hx rfl rfl
  obtain ⟨Y, hY⟩ : ∃ Y, Y = ({ G0 c 0 [] with now := 3 } : Gp) := ⟨_, rfl⟩
  obtain ⟨hb, hX⟩ := telH (k := k) (X := Y) (by rw [hY]; rfl)
  have hT : ({ Y with mn := Y.now } : Gp).T = Ta.T0 c.f := by rw [hY]; rfl
  have hc : Ta.curOf (Ta.T0 c.f) k = none := rfl
  have hbg : Ta.tBegE (Ta.T0 c.f) k x false = 0 := by
    unfold Ta.tBegE
    rw [hc]
    have : Ta.badC x false = false := by simp [Ta.badC]; omega
    rw [this]
    simp [Ta.mayK, h64, Ta.T0]
    omega
  refine ⟨hm, ?_, ?_, ?_⟩
  · unfold joJ
    rw [hm, ← hY, hb, hX]
    simp only [ne_eq, not_true_eq_false, if_false, Bool.false_eq_true]
    unfold waiJ
    rw [hT, hc]
    simp only
    rw [if_pos hbg]
    rfl
  · unfold joJ
    rw [hm, ← hY, hb, hX]
    simp only [ne_eq, not_true_eq_false, if_false, Bool.false_eq_true]
    unfold waiJ
    rw [hT, hc]
    simp only
    rw [if_pos hbg]
    rfl
  · unfold joX
    rw [hm, ← hY, hb, hX]
    simp only [ne_eq, not_true_eq_false, if_false, Bool.false_eq_true]
    unfold waiX
    rw [hT, hc]
    simp only
    rw [if_pos hbg]
    have e1 : Ta.tBeg (Ta.T0 c.f) k x false = tH c.f k [x] := by
      unfold Ta.tBeg
      rw [if_pos hbg]
      rfl
    have e2 : Lv.sitL [] [] (x, 1, 0) = [(x, 1, 0)] := by
      unfold Lv.sitL Lv.sitE Lv.may
      simp [hx, Lv.whr]
    rw [hY]
    unfold begX sitX runX
    show ∃ B, (⟨_, _, _, Ta.tBeg (Ta.T0 c.f) k x false, _, Lv.sitL [] [] (x, 1, 0), _, _⟩ : Gp) = _
    rw [e1, e2]
    exact ⟨_, rfl⟩
theorem mayH (h64 : k.2.size ≤ 64) (x : Int) : mayE (sh c k us B) 3 k x 0 = if x < 1 then 1 else if x ∈ us then 160 else 0 := by
  have ht : tkE (sh c k us B) 3 = 0 := by
    exact tk0 (X := sh c k us B) (n := 3) (by omega) (by omega) (by simp only [sh]; omega)
  unfold mayE
  rw [ht]
  have hL : (sh c k us B).L = us.map (fun u => (u, 1, 0)) := rfl
  have hG : (sh c k us B).G = [] := rfl
  rw [hL, hG, whrH]
  simp only [ne_eq, not_true_eq_false, if_false, List.not_mem_nil, decide_eq_true_eq]
  rw [if_neg (by omega)]
  split
  · rfl
  · rw [if_neg (by omega)]
theorem mayG (h64 : k.2.size ≤ 64) (x : Int) : mayE (G0 c 0 []) 3 k x 0 = if x < 1 then 1 else 0 := by
  by_cases h : x < 1
  · have ht : tkE (G0 c 0 []) 3 = 0 := tk0 (by omega) (by omega) (by simp only [G0]; omega)
    unfold mayE
    rw [ht, if_pos h, if_pos h]
    simp only [ne_eq, not_true_eq_false, if_false]
    rw [if_neg (by omega)]
  · rw [if_neg h]
    exact mayO (by omega) (by omega) (by simp only [G0]; omega) h64 (by omega) rfl rfl
theorem shNext (h64 : k.2.size ≤ 64) {x : Int} (hx : 1 ≤ x) (hn : ¬ x ∈ us) : (joJ (sh c k us B) 3 k x 0).run = 1 ∧ (joJ (sh c k us B) 3 k x 0).bg = false ∧ joX (sh c k us B) 3 k x 0 = sh c k (us ++ [x]) B := by
  have hm : mayE (sh c k us B) 3 k x 0 = 0 := by rw [mayH h64, if_neg (by omega), if_neg hn]
  obtain ⟨Y, hY⟩ : ∃ Y, Y = ({ sh c k us B with now := 3 } : Gp) := ⟨_, rfl⟩
  obtain ⟨hb, hX⟩ := telH (k := k) (X := Y) (by rw [hY]; rfl)
  have hX2 : ({ Y with mn := Y.now } : Gp) = sh c k us B := by rw [hY]; rfl
  have hT : (sh c k us B).T = tH c.f k us := rfl
  have hc := curH c.f k us
  refine ⟨?_, ?_, ?_⟩
  · unfold joJ
    rw [hm, ← hY, hb, hX, hX2]
    simp only [ne_eq, not_true_eq_false, if_false, Bool.false_eq_true]
    unfold waiJ
    rw [hT, hc]
    rfl
  · unfold joJ
    rw [hm, ← hY, hb, hX, hX2]
    simp only [ne_eq, not_true_eq_false, if_false, Bool.false_eq_true]
    unfold waiJ
    rw [hT, hc]
  · unfold joX
    rw [hm, ← hY, hb, hX, hX2]
    simp only [ne_eq, not_true_eq_false, if_false, Bool.false_eq_true]
    unfold waiX
    rw [hT, hc]
    simp only
    have e0 : (rn 1 k false).run = 1 := rfl
    have e1 : Ta.tJoin (tH c.f k us) 1 x = tH c.f k (us ++ [x]) := by
      unfold Ta.tJoin
      rw [runH]
      have : Ta.joinS (wS us) x = wS (us ++ [x]) := by
        have : Ta.joinE (wS us) x = 0 := by
          unfold Ta.joinE
          have h2 : ¬ x ∈ (wS us).who := hn
          rw [if_neg (by omega), if_neg (show ¬ (wS us).ended = true by simp [wS]), if_neg (show ¬ (wS us).canc = true by simp [wS]), if_neg h2]
        unfold Ta.joinS
        rw [if_pos this]
        rfl
      simp only
      rw [this]
      unfold Ta.setS tH
      simp only [List.map_cons, List.map_nil]
      rfl
    have e2 : Lv.sitL (us.map (fun u => (u, 1, 0))) [] (x, 1, 0) = (us ++ [x]).map (fun u => (u, 1, 0)) := by
      have h1 : Lv.sitE (us.map (fun u => (u, 1, 0))) [] (x, 1, 0) = 0 := by
        unfold Lv.sitE Lv.may
        simp only
        rw [whrH]
        simp [hx, hn]
      unfold Lv.sitL
      rw [if_pos h1]
      simp
    rw [e0, e1]
    show (⟨_, _, _, _, _, Lv.sitL (us.map (fun u => (u, 1, 0))) [] (x, 1, 0), _, _⟩ : Gp) = _
    rw [e2]
    rfl
theorem shNo {X : Gp} {x : Int} (h : mayE X 3 k x 0 ≠ 0) (N : Cn) : joX X 3 k x 0 = X ∧ joC X 3 k x 0 N = N := by
  unfold joX joC
  rw [if_pos h, if_pos h]
  exact ⟨rfl, rfl⟩
theorem shEndE (o : O) : edE (sh c k us B) 4 1 o = if Me.right o then 0 else 30 := by
  unfold edE
  rw [tk0 (by omega) (by omega) (by simp only [sh]; omega)]
  have hT : (sh c k us B).T = tH c.f k us := rfl
  simp only [ne_eq, not_true_eq_false, if_false]
  unfold Ta.tEndE
  rw [hT, runH]
  rfl
theorem shEnd {o : O} (ho : Me.right o = true) : (edD (sh c k us B) 4 1 o).told = us ∧ Ta.runsOf (edX (sh c k us B) 4 1 o).T = [] := by
  have hE : edE (sh c k us B) 4 1 o = 0 := by rw [shEndE, if_pos ho]
  have hT : (sh c k us B).T = tH c.f k us := rfl
  have he : Ta.endE (wS us) o = 0 := by
    have hR : Ta.right o = true := ho
    unfold Ta.endE
    rw [hR]
    rfl
  have e1 : Ta.tEndL (tH c.f k us) 1 o = us := by
    unfold Ta.tEndL
    rw [runH]
    show Ta.endL (wS us) o = us
    unfold Ta.endL
    rw [if_pos he]
    rfl
  have e2 : (Ta.tEnd (tH c.f k us) 1 o).rs = [] := by
    unfold Ta.tEnd
    rw [runH]
    simp only
    rw [if_pos he]
    simp [Ta.outR, tH, rn]
  refine ⟨?_, ?_⟩
  · unfold edD
    rw [hE, hT, e1]
    simp only [ne_eq, not_true_eq_false, if_false]
    split <;> rfl
  · have h1 : (ed1 (sh c k us B) 4 1 o).T.rs = [] := e2
    unfold edX
    rw [hE]
    simp only [ne_eq, not_true_eq_false, if_false]
    unfold Ta.runsOf
    split
    · have h2 : (ed2 (sh c k us B) 4 1 o).T.rs = [] := e2
      cases edG (sh c k us B) 4 1 o with
      | nil => show List.map _ (ed2 (sh c k us B) 4 1 o).T.rs = []; rw [h2]; rfl
      | cons j js =>
        show List.map _ (Ta.tRel (ed2 (sh c k us B) 4 1 o).T (rlR (ed2 (sh c k us B) 4 1 o) j)).rs = []
        have : Ta.runOf (ed2 (sh c k us B) 4 1 o).T (rlR (ed2 (sh c k us B) 4 1 o) j) = none := by unfold Ta.runOf; rw [h2]; rfl
        unfold Ta.tRel
        rw [this]
        show List.map _ (ed2 (sh c k us B) 4 1 o).T.rs = []
        rw [h2]
        rfl
    · rw [h1]; rfl
theorem whoH : Ta.whoOf (sh c k us B).T 1 = us := by
  unfold Ta.whoOf
  rw [show (sh c k us B).T = tH c.f k us from rfl, runH]
  rfl
end
end Go.Proofs.YtkfophlhpjbmgaaGreat
/- An act, a slice of acts and a configuration as arguments, opened; no conditions. -/
namespace Go.Proofs.YtkfophlhpjbmgaaGreat
open Go.ChangeShapes Go.WideShapes Go.ChangeAt Go.RowKit
set_option linter.unusedVariables false
theorem cl_yU16 : Tryz.prog.cellsOf 36 = 1 := by kernel_rfl
theorem cl_9 : Tryz.prog.cellsOf 9 = 1 := by kernel_rfl
theorem cl_3 : Tryz.prog.cellsOf 3 = 1 := by kernel_rfl
theorem cl_2 : Tryz.prog.cellsOf 2 = 1 := by kernel_rfl
theorem cl_KyA : Tryz.prog.cellsOf 38 = 2 := by kernel_rfl
structure KyA where
  sp : Int
  nm : ByteArray
def KyA.ok (a : KyA) : Prop := (Lit.int .u16 a.sp).wf = true ∧ a.nm.size ≤ maxLen
def KyA.cs (a : KyA) : Array Value := #[.int .u16 a.sp, .string a.nm]
set_option maxRecDepth 100000 in
theorem fields_KyA {H : Type} {enc : TypeId × Value → H} {W : World} {base fuel : Nat} {spare : Nat → Bool} {held : Bool} {cs : List Value} {x : DataW H × List MemPlace} (h : DataW.trod enc Tryz.prog W base spare held fuel 38 cs = some x) (hl : cs.length = 2) :
    ∃ a : KyA, cs = a.cs.toList ∧ a.ok := by
  obtain ⟨ys, k, hk, hxy, _, hyl, hfe⟩ := DataW.trod_struct Tryz.underlying38 h
  match cs, hl with
  | [v0, v1], _ =>
    have hy : ys.length = 2 := hyl
    match ys, hy with
    | [y0, y1], _ =>
      have g0 := hfe 0 _ rfl
      have g1 := hfe 1 _ rfl
      simp [cl_9, cl_yU16] at g0 g1
      obtain ⟨A0, e0, _, w0⟩ := DataW.trod_int Tryz.underlying36 g0
      obtain ⟨A1, e1, _, w1⟩ := DataW.trod_string Tryz.underlying9 g1
      simp only [List.cons.injEq, and_true] at e0 e1
      subst e0 e1
      exact ⟨⟨A0, A1⟩, rfl, w0, w1⟩
theorem cl_FaA : Tryz.prog.cellsOf 40 = 3 := by kernel_rfl
structure FaA where
  kd : Int
  cd : Int
  rn : Int
def FaA.ok (a : FaA) : Prop := W64 a.kd ∧ W64 a.cd ∧ W64 a.rn
def FaA.cs (a : FaA) : Array Value := #[.int .i64 a.kd, .int .i64 a.cd, .int .i64 a.rn]
set_option maxRecDepth 100000 in
theorem fields_FaA {H : Type} {enc : TypeId × Value → H} {W : World} {base fuel : Nat} {spare : Nat → Bool} {held : Bool} {cs : List Value} {x : DataW H × List MemPlace} (h : DataW.trod enc Tryz.prog W base spare held fuel 40 cs = some x) (hl : cs.length = 3) :
    ∃ a : FaA, cs = a.cs.toList ∧ a.ok := by
  obtain ⟨ys, k, hk, hxy, _, hyl, hfe⟩ := DataW.trod_struct Tryz.underlying40 h
  match cs, hl with
  | [v0, v1, v2], _ =>
    have hy : ys.length = 3 := hyl
    match ys, hy with
    | [y0, y1, y2], _ =>
      have g0 := hfe 0 _ rfl
      have g1 := hfe 1 _ rfl
      have g2 := hfe 2 _ rfl
      simp [cl_3] at g0 g1 g2
      obtain ⟨A0, e0, _, w0⟩ := DataW.trod_int Tryz.underlying3 g0
      obtain ⟨A1, e1, _, w1⟩ := DataW.trod_int Tryz.underlying3 g1
      obtain ⟨A2, e2, _, w2⟩ := DataW.trod_int Tryz.underlying3 g2
      simp only [List.cons.injEq, and_true] at e0 e1 e2
      subst e0 e1 e2
      exact ⟨⟨A0, A1, A2⟩, rfl, w0, w1, w2⟩
theorem cl_OuA : Tryz.prog.cellsOf 42 = 4 := by kernel_rfl
structure OuA where
  va : Int
  fl : FaA
def OuA.ok (a : OuA) : Prop := W64 a.va ∧ FaA.ok a.fl
def OuA.cs (a : OuA) : Array Value := #[.int .i64 a.va, .int .i64 a.fl.kd, .int .i64 a.fl.cd, .int .i64 a.fl.rn]
set_option maxRecDepth 100000 in
theorem fields_OuA {H : Type} {enc : TypeId × Value → H} {W : World} {base fuel : Nat} {spare : Nat → Bool} {held : Bool} {cs : List Value} {x : DataW H × List MemPlace} (h : DataW.trod enc Tryz.prog W base spare held fuel 42 cs = some x) (hl : cs.length = 4) :
    ∃ a : OuA, cs = a.cs.toList ∧ a.ok := by
  obtain ⟨ys, k, hk, hxy, _, hyl, hfe⟩ := DataW.trod_struct Tryz.underlying42 h
  match cs, hl with
  | [v0, v1, v2, v3], _ =>
    have hy : ys.length = 2 := hyl
    match ys, hy with
    | [y0, y1], _ =>
      have g0 := hfe 0 _ rfl
      have g1 := hfe 1 _ rfl
      simp [cl_2, cl_FaA] at g0 g1
      obtain ⟨A0, e0, _, w0⟩ := DataW.trod_int Tryz.underlying2 g0
      obtain ⟨A1, b1, w1⟩ := fields_FaA g1 rfl
      simp only [FaA.cs, List.cons.injEq, and_true] at b1
      obtain ⟨e1, e2, e3⟩ := b1
      simp only [List.cons.injEq, and_true] at e0
      subst e0 e1 e2 e3
      exact ⟨⟨A0, A1⟩, rfl, w0, w1⟩
theorem cl_ActG : Tryz.prog.cellsOf 44 = 12 := by kernel_rfl
structure ActG where
  kd : Int
  cl : Int
  tk : Int
  rn : Int
  st : Int
  od : Int
  k : KyA
  o : OuA
def ActG.ok (a : ActG) : Prop := W64 a.kd ∧ W64 a.cl ∧ W64 a.tk ∧ W64 a.rn ∧ W64 a.st ∧ W64 a.od ∧ KyA.ok a.k ∧ OuA.ok a.o
def ActG.cs (a : ActG) : Array Value := #[.int .i64 a.kd, .int .i64 a.cl, .int .i64 a.tk, .int .i64 a.rn, .int .i64 a.st, .int .i64 a.od, .int .u16 a.k.sp, .string a.k.nm, .int .i64 a.o.va, .int .i64 a.o.fl.kd, .int .i64 a.o.fl.cd, .int .i64 a.o.fl.rn]
set_option maxRecDepth 100000 in
theorem fields_ActG {H : Type} {enc : TypeId × Value → H} {W : World} {base fuel : Nat} {spare : Nat → Bool} {held : Bool} {cs : List Value} {x : DataW H × List MemPlace} (h : DataW.trod enc Tryz.prog W base spare held fuel 44 cs = some x) (hl : cs.length = 12) :
    ∃ a : ActG, cs = a.cs.toList ∧ a.ok := by
  obtain ⟨ys, k, hk, hxy, _, hyl, hfe⟩ := DataW.trod_struct Tryz.underlying44 h
  match cs, hl with
  | [v0, v1, v2, v3, v4, v5, v6, v7, v8, v9, v10, v11], _ =>
    have hy : ys.length = 8 := hyl
    match ys, hy with
    | [y0, y1, y2, y3, y4, y5, y6, y7], _ =>
      have g0 := hfe 0 _ rfl
      have g1 := hfe 1 _ rfl
      have g2 := hfe 2 _ rfl
      have g3 := hfe 3 _ rfl
      have g4 := hfe 4 _ rfl
      have g5 := hfe 5 _ rfl
      have g6 := hfe 6 _ rfl
      have g7 := hfe 7 _ rfl
      simp [cl_2, cl_3, cl_KyA, cl_OuA] at g0 g1 g2 g3 g4 g5 g6 g7
      obtain ⟨A0, e0, _, w0⟩ := DataW.trod_int Tryz.underlying3 g0
      obtain ⟨A1, e1, _, w1⟩ := DataW.trod_int Tryz.underlying3 g1
      obtain ⟨A2, e2, _, w2⟩ := DataW.trod_int Tryz.underlying3 g2
      obtain ⟨A3, e3, _, w3⟩ := DataW.trod_int Tryz.underlying3 g3
      obtain ⟨A4, e4, _, w4⟩ := DataW.trod_int Tryz.underlying2 g4
      obtain ⟨A5, e5, _, w5⟩ := DataW.trod_int Tryz.underlying2 g5
      obtain ⟨A6, b6, w6⟩ := fields_KyA g6 rfl
      simp only [KyA.cs, List.cons.injEq, and_true] at b6
      obtain ⟨e6, e7⟩ := b6
      obtain ⟨A7, b7, w7⟩ := fields_OuA g7 rfl
      simp only [OuA.cs, List.cons.injEq, and_true] at b7
      obtain ⟨e8, e9, e10, e11⟩ := b7
      simp only [List.cons.injEq, and_true] at e0 e1 e2 e3 e4 e5
      subst e0 e1 e2 e3 e4 e5 e6 e7 e8 e9 e10 e11
      exact ⟨⟨A0, A1, A2, A3, A4, A5, A6, A7⟩, rfl, w0, w1, w2, w3, w4, w5, w6, w7⟩
theorem cl_CfG : Tryz.prog.cellsOf 23 = 7 := by kernel_rfl
structure CfG where
  t : Int
  n : Int
  s : Int
  e : Int
  f : Int
  b : Int
  d : Int
def CfG.ok (a : CfG) : Prop := W64 a.t ∧ W64 a.n ∧ W64 a.s ∧ W64 a.e ∧ W64 a.f ∧ W64 a.b ∧ W64 a.d
def CfG.cs (a : CfG) : Array Value := #[.int .i64 a.t, .int .i64 a.n, .int .i64 a.s, .int .i64 a.e, .int .i64 a.f, .int .i64 a.b, .int .i64 a.d]
set_option maxRecDepth 100000 in
theorem fields_CfG {H : Type} {enc : TypeId × Value → H} {W : World} {base fuel : Nat} {spare : Nat → Bool} {held : Bool} {cs : List Value} {x : DataW H × List MemPlace} (h : DataW.trod enc Tryz.prog W base spare held fuel 23 cs = some x) (hl : cs.length = 7) :
    ∃ a : CfG, cs = a.cs.toList ∧ a.ok := by
  obtain ⟨ys, k, hk, hxy, _, hyl, hfe⟩ := DataW.trod_struct Tryz.underlying23 h
  match cs, hl with
  | [v0, v1, v2, v3, v4, v5, v6], _ =>
    have hy : ys.length = 7 := hyl
    match ys, hy with
    | [y0, y1, y2, y3, y4, y5, y6], _ =>
      have g0 := hfe 0 _ rfl
      have g1 := hfe 1 _ rfl
      have g2 := hfe 2 _ rfl
      have g3 := hfe 3 _ rfl
      have g4 := hfe 4 _ rfl
      have g5 := hfe 5 _ rfl
      have g6 := hfe 6 _ rfl
      simp [cl_2, cl_3] at g0 g1 g2 g3 g4 g5 g6
      obtain ⟨A0, e0, _, w0⟩ := DataW.trod_int Tryz.underlying2 g0
      obtain ⟨A1, e1, _, w1⟩ := DataW.trod_int Tryz.underlying2 g1
      obtain ⟨A2, e2, _, w2⟩ := DataW.trod_int Tryz.underlying2 g2
      obtain ⟨A3, e3, _, w3⟩ := DataW.trod_int Tryz.underlying3 g3
      obtain ⟨A4, e4, _, w4⟩ := DataW.trod_int Tryz.underlying3 g4
      obtain ⟨A5, e5, _, w5⟩ := DataW.trod_int Tryz.underlying3 g5
      obtain ⟨A6, e6, _, w6⟩ := DataW.trod_int Tryz.underlying2 g6
      simp only [List.cons.injEq, and_true] at e0 e1 e2 e3 e4 e5 e6
      subst e0 e1 e2 e3 e4 e5 e6
      exact ⟨⟨A0, A1, A2, A3, A4, A5, A6⟩, rfl, w0, w1, w2, w3, w4, w5, w6⟩
theorem add_plainA (b off j : Nat) : (⟨b, off, none⟩ : Addr).add j = ⟨b, off + j, none⟩ := by simp [Addr.add]
set_option maxRecDepth 100000 in
theorem open_ActG {H : Type} {enc : TypeId × Value → H} {W : World} {b0 : Nat} {v : Value} {d : DataW H} {p : List MemPlace} (hv : Value.okWide Tryz.prog W .any b0 44 v) (h : DataW.Trod enc Tryz.prog W 0 (fun _ => true) true 44 v d p) : ∃ a : ActG, v = .agg a.cs ∧ a.ok := by
  obtain ⟨cs, rfl, hs⟩ := okWide_struct Tryz.underlying44 hv
  obtain ⟨fuel, hf⟩ := h
  rw [cl_ActG] at hs
  obtain ⟨cl⟩ := cs
  have hs' : cl.length = 12 := by simpa using hs
  obtain ⟨a, e, wa⟩ := fields_ActG (cs := cl) (by simpa [Value.cells] using hf) hs'
  subst e
  exact ⟨a, rfl, wa⟩
set_option maxRecDepth 100000 in
theorem open_CfG {H : Type} {enc : TypeId × Value → H} {W : World} {b0 : Nat} {v : Value} {d : DataW H} {p : List MemPlace} (hv : Value.okWide Tryz.prog W .any b0 23 v) (h : DataW.Trod enc Tryz.prog W 0 (fun _ => true) true 23 v d p) : ∃ a : CfG, v = .agg a.cs ∧ a.ok := by
  obtain ⟨cs, rfl, hs⟩ := okWide_struct Tryz.underlying23 hv
  obtain ⟨fuel, hf⟩ := h
  rw [cl_CfG] at hs
  obtain ⟨cl⟩ := cs
  have hs' : cl.length = 7 := by simpa using hs
  obtain ⟨a, e, wa⟩ := fields_CfG (cs := cl) (by simpa [Value.cells] using hf) hs'
  subst e
  exact ⟨a, rfl, wa⟩
set_option maxRecDepth 100000 in
theorem laidOut : laidOutB Tryz.prog = true := by kernel_rfl
def KyA.key (a : KyA) : K := (a.sp, a.nm)
end Go.Proofs.YtkfophlhpjbmgaaGreat
/- What the law of stale values calls, step by step; no conditions but those that each states. -/
namespace Go.Proofs.YtkfophlhpjbmgaaGreat
open Go.RowKit Go.Maps Go.ChangeMaps
set_option maxRecDepth 100000
set_option linter.unusedVariables false
set_option linter.unusedSimpArgs false
def Cn.lt (N : Cn) (m : Nat) : Prop := N.t ≤ m ∧ N.b ≤ m ∧ N.s ≤ m
theorem joC_le (X : Gp) (n : Int) (k : K) (x t : Int) (N : Cn) {m : Nat} (h : N.lt m) : (joC X n k x t N).lt (m + 2) := by
  obtain ⟨h1, h2, h3⟩ := h
  have hm : ∀ (Y : Gp) (r : Int), (meeC Y k r N).t ≤ m + 1 ∧ (meeC Y k r N).b ≤ m + 1 ∧ (meeC Y k r N).s ≤ m := fun Y r => by
    unfold meeC renC
    split
    · split
      · exact ⟨by omega, by omega, by omega⟩
      · split <;> exact ⟨by simp only; omega, by simp only; omega, by simp only; omega⟩
    · exact ⟨by omega, by omega, by omega⟩
  unfold joC
  split
  · exact ⟨by omega, by omega, by omega⟩
  · split
    · obtain ⟨a, b, c⟩ := hm { X with now := n } (seenOf { X with now := n } k).1
      exact ⟨by omega, by omega, by omega⟩
    · obtain ⟨a, b, c⟩ := hm { X with now := n } (seenOf { X with now := n } k).1
      unfold waiC
      split
      · exact ⟨by simp only; omega, by simp only; omega, by simp only; omega⟩
      · split <;> exact ⟨by simp only; omega, by simp only; omega, by simp only; omega⟩
theorem edC_le (X : Gp) (n r : Int) (o : O) (N : Cn) {m : Nat} (h : N.lt m) : (edC X n r o N).lt (m + 1) := by
  obtain ⟨h1, h2, h3⟩ := h
  have := edG_len X n r o
  unfold edC
  split
  · exact ⟨by omega, by omega, by omega⟩
  · split <;> exact ⟨by (try simp only); omega, by (try simp only); omega, by (try simp only); omega⟩
section
variable {w : World} {g : Nat} {P : Pt} {X : Gp} {N : Cn}
end
end Go.Proofs.YtkfophlhpjbmgaaGreat
/- A group of a law's own, and blocks beside it that its steps leave alone; no conditions. -/
namespace Go.Proofs.YtkfophlhpjbmgaaGreat
open Go.RowKit Go.Maps Go.ChangeMaps
set_option linter.unusedVariables false
def Sp (w wr : World) (g : Nat) (P : Pt) (Q : List Nat) (X : Gp) (N : Cn) : Prop := ∃ F, Gq wr g P F X N ∧ Touch [] w wr ∧ (∀ k, k ∈ F → w.heap.size ≤ k) ∧ ∀ k, k ∈ Q → k < wr.heap.size ∧ ¬ k ∈ F
section
variable {w wr w2 : World} {g : Nat} {P : Pt} {Q : List Nat} {X Y : Gp} {N M : Cn}
theorem Sp.tch (h : Sp w wr g P Q X N) : Touch [] w wr := by obtain ⟨_, _, t, _⟩ := h; exact t
theorem Sp.keep0 (h : Sp w wr g P Q X N) (T : Touch [] wr w2) : Sp w w2 g P Q X N ∧ ∀ k, k ∈ Q → w2.heap[k]? = wr.heap[k]? := by
  obtain ⟨F, q, t, fr, hq⟩ := h
  exact ⟨⟨F, q.keep0 T, t.trans' T, fr, fun k hk => ⟨Nat.lt_of_lt_of_le (hq k hk).1 T.size, (hq k hk).2⟩⟩, fun k hk => T.block k (hq k hk).1 (by simp)⟩
end
def cfO (c : CfG) : Me.Cf := ⟨c.t, c.n, c.s, c.e, c.f, c.b, c.d⟩
end Go.Proofs.YtkfophlhpjbmgaaGreat
/- The callers of one key in memory: the group, who waits, the boxes; no conditions but those that each states. -/
namespace Go.Proofs.YtkfophlhpjbmgaaGreat
open Go.RowKit Go.Maps Go.ChangeMaps
set_option maxRecDepth 100000
set_option linter.unusedVariables false
set_option linter.unusedSimpArgs false
theorem Sp.go {w wr : World} {g : Nat} {P : Pt} {Q : List Nat} {X : Gp} {N : Cn} (h : Sp w wr g P Q X N) : ∃ F, Gq wr g P F X N ∧ ∀ w2 Y M, GqE wr w2 g P F Y M → (Sp w w2 g P Q Y M ∧ (∀ k, k ∈ Q → w2.heap[k]? = wr.heap[k]?) ∧ Keeps wr w2) := by
  obtain ⟨F, q, t, fr, hq⟩ := h
  refine ⟨F, q, fun w2 Y M hE => ?_⟩
  have hk := GqE.keeps q hE
  obtain ⟨F', q', t', nf⟩ := hE
  refine ⟨⟨F', q', ?_, fun k hk => ?_, fun k hk => ⟨Nat.lt_of_lt_of_le (hq k hk).1 t'.size, fun e => ?_⟩⟩, fun k hk => t'.block k (hq k hk).1 (hq k hk).2, hk⟩
  · exact t.trans t' (fun i hi => Or.inr (fr i hi))
  · rcases nf k hk with e | e
    · exact fr k e
    · exact Nat.le_trans t.size e
  · rcases nf k e with e | e
    · exact (hq k hk).2 e
    · have := (hq k hk).1; omega
def ShX (c : Me.Cf) (k : K) (us : List Int) (X : Gp) : Prop := (us = [] ∧ X = G0 c 0 []) ∨ (us ≠ [] ∧ ∃ B, X = sh c k us B)
structure Bh (w wr : World) (k : K) (o : O) (kb ob : Nat) (v : Value) (vs : List Int) : Prop where
  row : wr.ownsRow w.heap.size 3 1 v vs.length (ints vs)
  kx : wr.heap[kb]? = some (.cells #[.int .u16 k.1, .string k.2] 38 (0, 0))
  ox : wr.heap[ob]? = some (.cells #[.int .i64 o.1, .int .i64 o.2.1, .int .i64 o.2.2.1, .int .i64 o.2.2.2] 42 (0, 0))
structure Sw (w wr : World) (g : Nat) (P : Pt) (c : Me.Cf) (k : K) (o : O) (kb ob : Nat) (v : Value) (vs us : List Int) (i : Nat) : Prop where
  sp : ∃ X N, Sp w wr g P v.ownBlock.toList X N ∧ ShX c k us X ∧ N.lt (2 * i)
  bh : Bh w wr k o kb ob v vs
  len : us.length ≤ i
theorem own3_ne {wr : World} {B n : Nat} {v : Value} {vs : List Value} (h : wr.ownsRow B 3 1 v n vs) {b : Nat} {cs : Array Value} {ty : TypeId} {z : Nat × Nat} (hb' : wr.heap[b]? = some (.cells cs ty z)) (ht : ty ≠ 3) : ¬ b ∈ v.ownBlock.toList := fun e => by
  obtain ⟨cs', hc⟩ := own_kind h (show v.ownBlock = some b by simpa using e)
  rw [hb'] at hc
  simp only [Option.some.injEq, Obj.cells.injEq] at hc
  exact ht hc.2.1
section
variable {w wr w2 : World} {g kb ob i : Nat} {P : Pt} {c : Me.Cf} {k : K} {o : O} {v : Value} {vs us : List Int}
theorem Bh.keep (h : Bh w wr k o kb ob v vs) (hq : ∀ b, b ∈ v.ownBlock.toList → w2.heap[b]? = wr.heap[b]?) (hk : Keeps wr w2) : Bh w w2 k o kb ob v vs :=
  ⟨own_keep h.row (fun b hb => hq b (by simp [hb])), hk _ _ _ _ (by decide) h.kx, hk _ _ _ _ (by decide) h.ox⟩
theorem Sw.tch (h : Sw w wr g P c k o kb ob v vs us i) : Touch [] w wr := by
  obtain ⟨⟨X, N, h1, _⟩, _, _⟩ := h
  exact h1.tch
theorem Sw.keep0 (h : Sw w wr g P c k o kb ob v vs us i) (T : Touch [] wr w2) : Sw w w2 g P c k o kb ob v vs us i := by
  obtain ⟨⟨X, N, h1, h2, h3⟩, hb, hl⟩ := h
  obtain ⟨a1, a2⟩ := h1.keep0 T
  exact ⟨⟨X, N, a1, h2, h3⟩, hb.keep a2 T.keeps, hl⟩
theorem ShX.gt {X : Gp} (h : ShX c k us X) : Gt X := by
  rcases h with ⟨-, rfl⟩ | ⟨-, B, rfl⟩
  · exact gt_G0 (Int.le_refl _) (by decide)
  · exact ⟨Int.le_refl _, by simp only [sh]; omega, by simp only [sh]; omega⟩
theorem Sw.join (h : Sw w wr g P c k o kb ob v vs us i) (hi : i ≤ 1048576) (hk : Ok k) (hf : 1 ≤ c.f) (h64 : k.2.size ≤ 64) {x : Int} (hx : W64 x) : Calls Tryz.prog 12 #[PT g, .int .i64 3, kv k, .int .i64 x, .int .i64 0] wr fun e w2 => ∃ (J : Jd) (E : Int) (b : Option Addr) (m n : Nat), e = .returned (.tuple #[jv J (.slice b m n), .int .i64 E]) ∧ Keeps wr w2 ∧ ((E ≠ 0 ∧ Sw w w2 g P c k o kb ob v vs us (i + 1)) ∨ (E = 0 ∧ J.run = 1 ∧ J.bg = decide (us = []) ∧ Sw w w2 g P c k o kb ob v vs (us ++ [x]) (i + 1))) := by
  obtain ⟨⟨X, N, h1, h2, h3⟩, hb, hl⟩ := h
  obtain ⟨F, q, s⟩ := h1.go
  have h4 := joC_le X 3 k x 0 N h3
  have e4 : 2 * i + 2 = 2 * (i + 1) := by omega
  rw [e4] at h4
  obtain ⟨n1, n2, n3⟩ := h3
  refine (join_ q h2.gt 3 k hk hx (W64.mk (by omega) (by omega)) (by omega) (by omega) (by omega)).mono ?_
  rintro e w2 ⟨v2, e1, e2, e3⟩
  obtain ⟨b, m, n, rfl⟩ := e2.2
  obtain ⟨a1, a2, a3⟩ := s _ _ _ e3
  refine ⟨_, _, b, m, n, e1, a3, ?_⟩
  by_cases hE : mayE X 3 k x 0 = 0
  · right
    rcases h2 with ⟨rfl, rfl⟩ | ⟨hne, B, rfl⟩
    · have hx1 : 1 ≤ x := by
        rw [mayG h64] at hE
        split at hE
        · cases hE
        · omega
      obtain ⟨f1, f2, f3, B, f4⟩ := shFirst (c := c) hf h64 hx1
      rw [f4] at a1
      exact ⟨hE, f2, by rw [f3]; rfl, ⟨⟨_, _, a1, Or.inr ⟨by simp, B, rfl⟩, h4⟩, hb.keep a2 a3, by first | omega | (simp; done) | (simp; omega)⟩⟩
    · obtain ⟨hx1, hn⟩ : 1 ≤ x ∧ ¬ x ∈ us := by
        rw [mayH h64] at hE
        split at hE
        · cases hE
        · split at hE
          · cases hE
          · exact ⟨by omega, by assumption⟩
      obtain ⟨f2, f3, f4⟩ := shNext (c := c) (B := B) h64 hx1 hn
      rw [f4] at a1
      exact ⟨hE, f2, by rw [f3]; simp [hne], ⟨⟨_, _, a1, Or.inr ⟨by simp, B, rfl⟩, h4⟩, hb.keep a2 a3, by first | omega | (simp; done) | (simp; omega)⟩⟩
  · left
    rw [(shNo hE N).1] at a1
    exact ⟨hE, ⟨⟨_, _, a1, h2, h4⟩, hb.keep a2 a3, by first | omega | (simp; done) | (simp; omega)⟩⟩
theorem Sw.more (h : Sw w wr g P c k o kb ob v vs us i) {x : Int} {v' : Value} (hr : w2.ownsRow w.heap.size 3 1 v' (vs.length + 1) (ints vs ++ [.int .i64 x])) (hg : wr.grownBy w2 v.ownBlock) (hv : v'.ownBlock = v.ownBlock ∨ v'.ownBlock = some wr.heap.size) : Sw w w2 g P c k o kb ob v' (vs ++ [x]) us i := by
  obtain ⟨⟨X, N, ⟨F, q, t, fr, hq⟩, h2, h3⟩, hb, hl⟩ := h
  have T : Touch v.ownBlock.toList wr w2 := (Touch.refl _ _).grown hg (fun k hk => Or.inl (by simp [hk]))
  have hne : ∀ (b : Nat) (cs : Array Value) (ty : TypeId) (z : Nat × Nat), ty ≠ 3 → wr.heap[b]? = some (.cells cs ty z) → ¬ b ∈ v.ownBlock.toList := fun b cs ty z ht hb' e => by
    obtain ⟨cs', hc⟩ := own_kind hb.row (show v.ownBlock = some b by simpa using e)
    rw [hb'] at hc
    simp only [Option.some.injEq, Obj.cells.injEq] at hc
    exact ht hc.2.1
  refine ⟨⟨X, N, ⟨F, q.keep T (fun k hk e => (hq k e).2 hk), ?_, fr, fun k hk => ?_⟩, h2, h3⟩, ⟨?_, T.keep hb.kx (hne _ _ _ _ (by decide) hb.kx), T.keep hb.ox (hne _ _ _ _ (by decide) hb.ox)⟩, hl⟩
  · exact t.trans T (fun b hb' => Or.inr (hb.row.lt b (by simpa using hb')).1)
  · rcases hv with e | e
    · rw [e] at hk
      exact ⟨Nat.lt_of_lt_of_le (hq k hk).1 T.size, (hq k hk).2⟩
    · have ek : wr.heap.size = k := by rw [e] at hk; simp at hk; omega
      subst ek
      exact ⟨(hr.lt _ e).2, fun e' => by have := q.lt _ e'; omega⟩
  · have e1 : (vs ++ [x]).length = vs.length + 1 := by simp
    have e2 : ints (vs ++ [x]) = ints vs ++ [.int .i64 x] := by simp [ints]
    rw [e1, e2]
    exact hr
structure Sz (w wr : World) (g : Nat) (P : Pt) (k : K) (o : O) (kb ob : Nat) (v : Value) (vs : List Int) : Prop where
  sp : ∃ X N, Sp w wr g P v.ownBlock.toList X N ∧ Ta.runsOf X.T = [] ∧ N.lt 3000000
  bh : Bh w wr k o kb ob v vs
theorem Sw.end_ (h : Sw w wr g P c k o kb ob v vs us i) (hi : i ≤ 1048576) (hne : us ≠ []) : Calls Tryz.prog 13 #[PT g, .int .i64 4, .int .i64 1, Me.ov o] wr fun e w2 => ∃ (D : Dn) (ta ga la : Option Addr) (tn tc gm gc lm lc : Nat), e = .returned (.tuple #[.agg (dcs D (.slice ta tn tc) (.slice ga gm gc) (.slice la lm lc)), .int .i64 (if Me.right o then 0 else 30)]) ∧ Keeps wr w2 ∧ ((Me.right o = false ∧ Sw w w2 g P c k o kb ob v vs us i) ∨ (Me.right o = true ∧ tn = us.length ∧ Ta.Tv 0 w2 (.slice ta tn tc) us o ∧ Sz w w2 g P k o kb ob v vs)) := by
  obtain ⟨⟨X, N, h1, h2, h3⟩, hb, hl⟩ := h
  obtain ⟨F, q, s⟩ := h1.go
  have h4 := edC_le X 4 1 o N h3
  obtain ⟨n1, n2, n3⟩ := h3
  refine (Go.Proofs.YtkfophlhpjbmgaaGreat.end_ q 4 (W64.mk (by omega) (by omega)) o (by omega) (by omega)).mono ?_
  rintro e w2 ⟨tv, gv, lv, e1, e2, e3⟩
  obtain ⟨a1, a2, a3⟩ := s _ _ _ e3
  obtain ⟨ta, tc, et, -⟩ := id e2.t
  obtain ⟨la, lm, lc, el⟩ := e2.l.2
  obtain ⟨ga, gc, eg⟩ := own_form e2.g
  rcases h2 with ⟨e, -⟩ | ⟨-, B, rfl⟩
  · exact absurd e hne
  have hE := shEndE (c := c) (k := k) (us := us) (B := B) o
  rw [hE, et, el, eg] at e1
  refine ⟨_, ta, ga, la, _, tc, _, gc, lm, lc, e1, a3, ?_⟩
  cases ho : Me.right o with
  | false =>
    left
    have hne : edE (sh c k us B) 4 1 o ≠ 0 := by rw [hE, ho]; decide
    have e5 : edX (sh c k us B) 4 1 o = sh c k us B := by unfold edX; rw [if_pos hne]
    have e6 : edC (sh c k us B) 4 1 o N = N := by unfold edC; rw [if_pos hne]
    rw [e5, e6] at a1
    exact ⟨rfl, ⟨⟨_, _, a1, Or.inr ⟨by assumption, B, rfl⟩, n1, n2, n3⟩, hb.keep a2 a3, hl⟩⟩
  | true =>
    right
    obtain ⟨f1, f2⟩ := shEnd (c := c) (k := k) (us := us) (B := B) ho
    have e7 := e2.t
    rw [et] at e7
    rw [f1] at e7
    rw [f1]
    exact ⟨rfl, rfl, e7, ⟨⟨_, _, a1, f2, by have := h4.1; omega, by have := h4.2.1; omega, by have := h4.2.2; omega⟩, hb.keep a2 a3⟩⟩
theorem Sw.waiters (h : Sw w wr g P c k o kb ob v vs us i) (hi : i ≤ 1048576) (hne : us ≠ []) : Calls Tryz.prog 14 #[PT g, .int .i64 1] wr fun e w2 => (∃ a c, e = .returned (.slice a us.length c)) ∧ Touch [] w w2 := by
  obtain ⟨⟨X, N, ⟨F, q, t, -, -⟩, h2, h3⟩, hb, hl⟩ := h
  rcases h2 with ⟨e, -⟩ | ⟨-, B, rfl⟩
  · exact absurd e hne
  obtain ⟨n1, n2, n3⟩ := h3
  refine (waiters_q q (by omega) (W64.mk (by omega) (by omega))).mono ?_
  rintro e w2 ⟨a, c, rfl, -, t2⟩
  rw [whoH]
  exact ⟨⟨a, c, rfl⟩, t.trans' t2⟩
theorem Sz.keep0 (h : Sz w wr g P k o kb ob v vs) (T : Touch [] wr w2) : Sz w w2 g P k o kb ob v vs := by
  obtain ⟨⟨X, N, h1, h2, h3⟩, hb⟩ := h
  obtain ⟨a1, a2⟩ := h1.keep0 T
  exact ⟨⟨X, N, a1, h2, h3⟩, hb.keep a2 T.keeps⟩
theorem Sz.tch (h : Sz w wr g P k o kb ob v vs) : Touch [] w wr := by
  obtain ⟨⟨X, N, h1, _⟩, _⟩ := h
  exact h1.tch
theorem Sz.progress (h : Sz w wr g P k o kb ob v vs) : Calls Tryz.prog 16 #[PT g] wr fun e w2 => (∃ a c, e = .returned (.slice a 0 c)) ∧ Touch [] wr w2 := by
  obtain ⟨⟨X, N, ⟨F, q, t, -, -⟩, h2, h3⟩, hb⟩ := h
  obtain ⟨n1, n2, n3⟩ := h3
  refine (prog_q q (by omega)).mono ?_
  rintro e w2 ⟨a, c, rfl, -, t2⟩
  rw [h2]
  exact ⟨⟨a, c, rfl⟩, t2⟩
end
theorem told_at {w8 : World} {ta : Option Addr} {tc j : Nat} {us : List Int} {o : O} (h : Ta.Tv 0 w8 (.slice ta us.length tc) us o) (hj : j < us.length) : ∃ tb, ta = some ⟨tb, 0, none⟩ ∧ ∀ w', Touch [] w8 w' → ∀ q u, ([.int .i64 us[j], .int .i64 o.1, .int .i64 o.2.1, .int .i64 o.2.2.1, .int .i64 o.2.2.2] : List Value)[q]? = some u → w'.cell? ⟨tb, j * 5 + q, none⟩ = some u := by
  obtain ⟨a, c, e, h1 | ⟨t, cur, e1, -, h3, h4⟩⟩ := h
  · subst h1; simp at hj
  · simp only [Value.slice.injEq] at e
    obtain ⟨q0, q1, q2, q3, q4⟩ := h4 j us[j] (List.getElem?_eq_getElem hj)
    refine ⟨t, e.1.trans e1, fun w' T q u hu => cell_at (T.keep h3 (by simp)) ?_⟩
    match q, hu with
    | 0, hu => simp at hu; rw [← hu]; exact q0
    | 1, hu => simp at hu; rw [← hu]; exact q1
    | 2, hu => simp at hu; rw [← hu]; exact q2
    | 3, hu => simp at hu; rw [← hu]; exact q3
    | 4, hu => simp at hu; rw [← hu]; exact q4
    | q + 5, hu => simp at hu
theorem same_ (w : World) (a : Option Addr) (c : Nat) : Calls Tryz.prog 15 #[.slice a 0 c, .slice none 0 0] w fun e w' => e = .returned (.bool true) ∧ Touch [] w w' := by
  go_enter Tryz.func15, Tryz.ntmps15
  go_wp2
  go_loopw [13] (fun i wr => i = .int .i64 0 ∧ wr = w) (fun _ _ => 0)
  case atStart => exact ⟨rfl, rfl⟩
  case round =>
    obtain ⟨rfl, rfl⟩ := hrel
    go_wp2
    go_ret
    exact ⟨rfl, Touch.refl _ _⟩
end Go.Proofs.YtkfophlhpjbmgaaGreat
/- Numbers handed in as an argument, opened; no conditions. -/
namespace Go.Proofs.YtkfophlhpjbmgaaGreat
open Go.ChangeShapes Go.WideShapes Go.ChangeAt Go.RowKit
set_option linter.unusedVariables false
theorem cl_i3 : Tryz.prog.cellsOf 3 = 1 := by kernel_rfl
def Ri (W : World) (v : Value) (xs : List Int) : Prop := ∃ a c, v = .slice a xs.length c ∧ (0 < xs.length → ∃ g off, a = some ⟨g, off, none⟩ ∧ g < W.heap.size ∧ ∀ i r, xs[i]? = some r → W.cell? ⟨g, off + i, none⟩ = some (.int .i64 r))
set_option maxRecDepth 100000 in
theorem open_ints {H : Type} {enc : TypeId × Value → H} {W : World} {b0 : Nat} {v : Value} {d : DataW H} {p : List MemPlace} (hv : Value.okWide Tryz.prog W .any b0 47 v) (h : DataW.Trod enc Tryz.prog W 0 (fun _ => true) true 47 v d p) :
    ∃ xs : List Int, Ri W v xs ∧ (∀ x ∈ xs, W64 x) ∧ (xs = [] ∨ ∃ elems spare, d = .slice elems spare ∧ elems.length = xs.length) := by
  obtain ⟨a, len, cap, rfl⟩ := okWide_slice Tryz.underlying47 hv
  obtain ⟨fuel, hf⟩ := h
  rcases Deep.open_slice Tryz.underlying47 hf with ⟨hcs, _⟩ | ⟨x, l, c, m, n, D, Pl, hcs, _, hl, hm, hmm, hx, hall⟩
  · simp [Value.cells] at hcs
    obtain ⟨rfl, rfl, rfl⟩ := hcs
    exact ⟨[], ⟨_, _, rfl, fun h => absurd h (Nat.lt_irrefl 0)⟩, fun x hx => by simp at hx, Or.inl rfl⟩
  · simp [Value.cells] at hcs
    obtain ⟨rfl, rfl, rfl⟩ := hcs
    simp only [if_true] at hmm
    subst hmm
    simp only [Prod.mk.injEq] at hx
    obtain ⟨rfl, rfl⟩ := hx
    rw [cl_i3] at hall
    have each : ∀ i, i < m → ∃ q : Int, W.cell? (x.add i) = some (.int .i64 q) ∧ W64 q := fun i hi => by
      obtain ⟨cs', h1, h2⟩ := hall i hi
      obtain ⟨_, hlen, hcell⟩ := World.cells?_some h1
      match cs', hlen with
      | [v0], _ =>
        obtain ⟨q, e, _, w1⟩ := DataW.trod_int Tryz.underlying3 h2
        simp only [List.cons.injEq, and_true] at e
        subst e
        have e0 := hcell 0 (by omega)
        rw [Deep.add_add] at e0
        exact ⟨q, by simpa using e0, w1⟩
    haveI : Inhabited Int := ⟨0⟩
    obtain ⟨q, hq⟩ := Deep.choose_lt each
    rcases Nat.eq_zero_or_pos len with e | e
    · subst e
      exact ⟨[], ⟨_, _, rfl, fun h => absurd h (Nat.lt_irrefl 0)⟩, fun x hx => by simp at hx, Or.inl rfl⟩
    · have hsp : x.spot = none := by
        have h0 := (hq 0 (by omega)).1
        rw [show x.add 0 = x by simp [Addr.add]] at h0
        unfold World.cell? at h0
        split at h0
        · split at h0
          · cases h0
          · rename_i hs
            cases hh : x.spot with
            | none => rfl
            | some z => rw [hh] at hs; exact absurd rfl hs
        · cases h0
      obtain ⟨b, off, r⟩ := x
      obtain rfl : r = none := hsp
      have hlen : ((List.range len).map q).length = len := by simp
      refine ⟨(List.range len).map q, ⟨some ⟨b, off, none⟩, m, by rw [hlen], fun _ => ⟨b, off, rfl, ?_, fun i r hi => ?_⟩⟩, fun y hy => ?_, Or.inr ⟨_, _, rfl, by simp⟩⟩
      · rcases Nat.lt_or_ge b W.heap.size with h | h
        · exact h
        · have h0 := (hq 0 (by omega)).1
          simp [World.cell?, add_plainA, Array.getElem?_eq_none h] at h0
      · have hi' := (List.getElem?_eq_some_iff.1 hi).1
        rw [hlen] at hi'
        have h0 := (hq i (by omega)).1
        simp [hi'] at hi
        subst hi
        simpa [add_plainA] using h0
      · simp only [List.mem_map, List.mem_range] at hy
        obtain ⟨i, hi, rfl⟩ := hy
        exact (hq i (by omega)).2
end Go.Proofs.YtkfophlhpjbmgaaGreat
/- The law of sharing, walked; no conditions but how many callers there are. -/
namespace Go.Proofs.YtkfophlhpjbmgaaGreat
open Go.RowKit Go.Maps Go.ChangeMaps
set_option maxRecDepth 100000
set_option linter.unusedVariables false
set_option linter.unusedSimpArgs false
theorem kb_ne {w : World} {x y : Nat} {a c : Array Value} (h : w.heap[x]? = some (.cells a 38 (0, 0))) (k : w.heap[y]? = some (.cells c 42 (0, 0))) : ¬ y = x := fun e => by
  rw [e, h] at k
  simp at k
theorem ob_ne {w : World} {x y : Nat} {a c : Array Value} (h : w.heap[x]? = some (.cells a 42 (0, 0))) (k : w.heap[y]? = some (.cells c 38 (0, 0))) : ¬ y = x := fun e => by
  rw [e, h] at k
  simp at k
theorem Ri.keep {W W' : World} {v : Value} {xs : List Int} (h : Ri W v xs) (T : Touch [] W W') : Ri W' v xs := by
  obtain ⟨a, c, e, h1⟩ := h
  refine ⟨a, c, e, fun hp => ?_⟩
  obtain ⟨g, off, e2, hg, hc⟩ := h1 hp
  refine ⟨g, off, e2, Nat.lt_of_lt_of_le hg T.size, fun i r hi => ?_⟩
  have := T.block g hg (by simp)
  have h2 := hc i r hi
  unfold World.cell? at *
  rw [this]
  exact h2
theorem Sw.start {w V wc w1 w2 : World} {g kb ob : Nat} {c : Me.Cf} {k : K} {o : O} (tv : Touch [] w V) (tc : Touch [] V wc) (hn : NwE wc w1 [] g c 0 []) (T : Touch [] w1 w2)
    (hk : wc.heap[kb]? = some (.cells #[.int .u16 k.1, .string k.2] 38 (0, 0))) (ho : wc.heap[ob]? = some (.cells #[.int .i64 o.1, .int .i64 o.2.1, .int .i64 o.2.2.1, .int .i64 o.2.2.2] 42 (0, 0))) : ∃ P, Sw w (w2.alloc (.cells #[] 3)) g P c k o kb ob (.slice (some ⟨w2.heap.size, 0, none⟩) 0 0) [] [] 0 := by
  obtain ⟨P, F, q, t, fr⟩ := hn
  have t2 : Touch [] wc w2 := t.trans' T
  have T3 : Touch [] w2 (w2.alloc (.cells #[] 3)) := (Touch.refl _ _).alloc _
  have fr2 : ∀ k, k ∈ F → wc.heap.size ≤ k := fun k hk => (fr k hk).elim (fun e => by cases e) id
  have q2 := q.keep0 T
  have hs := (tv.trans' tc).size
  have hz := ((tv.trans' tc).trans' t2).size
  refine ⟨P, ⟨⟨_, _, ⟨F, q2.keep0 T3, ((tv.trans' tc).trans' t2).trans' T3, fun k hk => by have := fr2 k hk; omega, fun k hk => ?_⟩, Or.inl ⟨rfl, rfl⟩, Nat.le_refl _, Nat.le_refl _, Nat.le_refl _⟩, ⟨?_, (t2.trans' T3).keep hk (by simp), (t2.trans' T3).keep ho (by simp)⟩, Nat.le_refl _⟩⟩
  · have ek : k = w2.heap.size := by simp [Value.ownBlock] at hk; exact hk
    subst ek
    exact ⟨by rw [World.size_alloc]; omega, fun e => by have := q2.lt _ e; omega⟩
  · exact own_of_cells (heap_alloc_new w2 _) hz (Nat.le_refl _) (Nat.zero_le _) rfl rfl (fun p v hp => by simp [ints] at hp)
set_option maxHeartbeats 32000000 in
theorem shares_law (w : World) (c : CfG) (a : ActG) (xs : List Int) (u : Value) (hc : c.ok) (ha : a.ok) (hr : Ri w u xs) (hw : ∀ x ∈ xs, W64 x) (hlen : xs.length ≤ 1048576) : Calls Tryz.prog 4 #[.agg c.cs, .agg a.cs, u] w fun e w' => e = .returned (.bool true) ∧ Touch [] w w' := by
  obtain ⟨va, vc, rfl⟩ : ∃ a k, u = .slice a xs.length k := by
    obtain ⟨x, y, e, _⟩ := id hr
    exact ⟨x, y, e⟩
  have HRow := hid hr
  obtain ⟨A, hA⟩ : ∃ A, A = xs.length := ⟨_, rfl⟩
  have HAx := hid hA
  have HWf := hid hw
  rw [← hA] at hlen ⊢
  have HLe := hid hlen
  have hokk : Ok a.k.key := ha.2.2.2.2.2.2.1
  have HOK := hid hokk
  obtain ⟨V, hV⟩ : ∃ V, V = (w.alloc (.cells c.cs 23)).alloc (.cells a.cs 44) := ⟨_, rfl⟩
  have tv : Touch [] w V := by rw [hV]; exact ((Touch.refl _ _).alloc _).alloc _
  have hb0 : V.heap[w.heap.size]? = some (.cells c.cs 23 (0, 0)) := by rw [hV]; exact ((Touch.refl [] _).alloc _).keep (heap_alloc_new w _) (by simp)
  have hb1 : V.heap[w.heap.size + 1]? = some (.cells a.cs 44 (0, 0)) := by
    rw [hV]
    have := heap_alloc_new (w.alloc (.cells c.cs 23)) (.cells a.cs 44)
    rwa [World.size_alloc] at this
  have TV := hid tv
  have HB0 := hid hb0
  have C6 : ∀ w', Touch [] V w' → w'.cell? ⟨w.heap.size + 1, 6, none⟩ = some (.int .u16 a.k.sp) := fun w' T => cell_at (T.keep hb1 (by simp)) rfl
  have C7 : ∀ w', Touch [] V w' → w'.cell? ⟨w.heap.size + 1, 7, none⟩ = some (.string a.k.nm) := fun w' T => cell_at (T.keep hb1 (by simp)) rfl
  have C8 : ∀ w', Touch [] V w' → w'.cell? ⟨w.heap.size + 1, 8, none⟩ = some (.int .i64 a.o.va) := fun w' T => cell_at (T.keep hb1 (by simp)) rfl
  have C9 : ∀ w', Touch [] V w' → w'.cell? ⟨w.heap.size + 1, 9, none⟩ = some (.int .i64 a.o.fl.kd) := fun w' T => cell_at (T.keep hb1 (by simp)) rfl
  have C10 : ∀ w', Touch [] V w' → w'.cell? ⟨w.heap.size + 1, 10, none⟩ = some (.int .i64 a.o.fl.cd) := fun w' T => cell_at (T.keep hb1 (by simp)) rfl
  have C11 : ∀ w', Touch [] V w' → w'.cell? ⟨w.heap.size + 1, 11, none⟩ = some (.int .i64 a.o.fl.rn) := fun w' T => cell_at (T.keep hb1 (by simp)) rfl
  have s0 : Touch [] V V.drew := (Touch.refl _ _).drew
  have HNo : Hid (Me.okC (cfO c) = false → ∀ w1, Calls Tryz.prog 8 #[.agg c.cs] w1 fun e w2 => e = .returned (.tuple #[.pointer none, .int .i64 100]) ∧ Touch [] w1 w2) := hid (fun h w1 => new_no w1 (cfO c) h)
  have HYe : Hid (Me.okC (cfO c) = true → ∀ w1, Calls Tryz.prog 8 #[.agg c.cs] w1 fun e w2 => ∃ g, e = .returned (.tuple #[PT g, .int .i64 0]) ∧ NwE w1 w2 [] g (cfO c) 0 []) := hid (fun h w1 => new_ w1 (cfO c) h ⟨hc.1.hi, hc.2.1.hi, hc.2.2.1.hi, hc.2.2.2.2.2.2.hi⟩)
  clear hA hw hlen hr hb0 hb1 tv hc ha hokk
  unfold CfG.cs ActG.cs at hV
  unfold CfG.cs at HNo HYe HB0
  unfold CfG.cs ActG.cs
  unfold PT at HYe
  go_enter Tryz.func4, Tryz.ntmps4
  go_upto_region 1 with fail
  rw [← hV]
  clear hV
  go_cut [7, 8] from 20 to 23 (fun s7 s8 wx => ∃ kb ob, s7 = .pointer (some ⟨kb, 0, none⟩) ∧ s8 = .pointer (some ⟨ob, 0, none⟩) ∧ Hid (wx.heap[kb]? = some (.cells #[.int .u16 a.k.sp, .string a.k.nm] 38 (0, 0)) ∧ wx.heap[ob]? = some (.cells #[.int .i64 a.o.va, .int .i64 a.o.fl.kd, .int .i64 a.o.fl.cd, .int .i64 a.o.fl.rn] 42 (0, 0)) ∧ Touch [] V wx))
  case first =>
    obtain ⟨X0, hX0⟩ : ∃ X0, X0 = V.drew := ⟨_, rfl⟩
    refine wp_region_H (S := fun w' => Touch [] V w') (by kernel_rfl) ?_
    rw [← hX0] at s0 ⊢
    clear hX0
    refine wpH_take (i := 0) (v := (.pointer (some ⟨w.heap.size + 1, 6, none⟩))) (some 20) rfl rfl (by kernel_rfl) (by kernel_rfl) (by kernel_rfl) (fun _ _ _ h => h) (Or.inl ⟨by rfl, fun w' hS => (by go_simp)⟩) s0 ?_
    try simp only [Go.Act.put, List.setIfInBounds_toArray, List.set_cons_zero, List.set_cons_succ]
    refine wpH_take (i := 1) (v := (.agg #[.int .u16 a.k.sp, .string a.k.nm])) (some 21) rfl rfl (by kernel_rfl) (by kernel_rfl) (by kernel_rfl) (fun _ _ _ h => h) (Or.inl ⟨by rfl, fun w' hS => (by have z0 := C6 _ hS; have z1 := C7 _ hS; go_simp)⟩) s0 ?_
    try simp only [Go.Act.put, List.setIfInBounds_toArray, List.set_cons_zero, List.set_cons_succ]
    refine wpH_take (i := 2) (v := (.pointer (some ⟨w.heap.size + 1, 8, none⟩))) (some 22) rfl rfl (by kernel_rfl) (by kernel_rfl) (by kernel_rfl) (fun _ _ _ h => h) (Or.inl ⟨by rfl, fun w' hS => (by go_simp)⟩) s0 ?_
    try simp only [Go.Act.put, List.setIfInBounds_toArray, List.set_cons_zero, List.set_cons_succ]
    refine wpH_take (i := 3) (v := (.agg #[.int .i64 a.o.va, .int .i64 a.o.fl.kd, .int .i64 a.o.fl.cd, .int .i64 a.o.fl.rn])) (some 23) rfl rfl (by kernel_rfl) (by kernel_rfl) (by kernel_rfl) (fun _ _ _ h => h) (Or.inl ⟨by rfl, fun w' hS => (by have z0 := C8 _ hS; have z1 := C9 _ hS; have z2 := C10 _ hS; have z3 := C11 _ hS; go_simp)⟩) s0 ?_
    try simp only [Go.Act.put, List.setIfInBounds_toArray, List.set_cons_zero, List.set_cons_succ]
    refine wpH_ready (rs := [4, 5]) (by kernel_rfl) (by simp) ?_
    refine AllH.cons (o := { dst := some 7, op := Op.alloc 38, type := 0, pos := _, after := #[], guard := none }) rfl (fun K' hK => ?_) ?_
    · rw [if_pos (by rfl)]
      go_simp
      refine hK.out _ _ (s0.alloc _) ?_
      clear hK
      try simp only [Go.Act.put, List.setIfInBounds_toArray, List.set_cons_zero, List.set_cons_succ]
      obtain ⟨Y1, eY1⟩ : ∃ Y, Y = X0.alloc (.cells #[.int .u16 0, .string ⟨#[]⟩] 38) := ⟨_, rfl⟩
      rw [← eY1]
      have hY1 : Touch [] V Y1 := by rw [eY1]; exact s0.alloc _
      have gY1 : Touch [] X0 Y1 := by rw [eY1]; exact (Touch.refl _ _).alloc _
      have Dkb1 : Y1.heap[X0.heap.size]? = some (.cells #[.int .u16 0, .string ⟨#[]⟩] 38 (0, 0)) := by rw [eY1]; exact heap_alloc_new _ _
      have Lkb1 : V.heap.size ≤ X0.heap.size := s0.size
      clear eY1
      refine wpH_call (i := 5) (o := { dst := some 8, op := Op.alloc 42, type := 0, pos := _, after := #[], guard := none }) (by kernel_rfl) rfl (fun K' hK => ?_)
      rw [if_pos (by rfl)]
      go_simp
      refine hK.out _ _ (hY1.alloc _) ?_
      clear hK
      try simp only [Go.Act.put, List.setIfInBounds_toArray, List.set_cons_zero, List.set_cons_succ]
      obtain ⟨Y2, eY2⟩ : ∃ Y, Y = Y1.alloc (.cells #[.int .i64 0, .int .i64 0, .int .i64 0, .int .i64 0] 42) := ⟨_, rfl⟩
      rw [← eY2]
      have hY2 : Touch [] V Y2 := by rw [eY2]; exact hY1.alloc _
      have gY2 : Touch [] Y1 Y2 := by rw [eY2]; exact (Touch.refl _ _).alloc _
      have Ckb2 := gY2.keep Dkb1 (by simp)
      have Dob2 : Y2.heap[Y1.heap.size]? = some (.cells #[.int .i64 0, .int .i64 0, .int .i64 0, .int .i64 0] 42 (0, 0)) := by rw [eY2]; exact heap_alloc_new _ _
      have Lob2 : V.heap.size ≤ Y1.heap.size := hY1.size
      clear eY2
      refine wpH_call (i := 6) (o := { dst := none, op := Op.store 38 (Operand.tmp 7) (Operand.tmp 21), type := 0, pos := _, after := #[{ on := 4, ground := Ground.data }, { on := 1, ground := Ground.data }, { on := 0, ground := Ground.phase }, { on := 1, ground := Ground.phase }, { on := 2, ground := Ground.textOnly Departure.lateStores }, { on := 3, ground := Ground.textOnly Departure.lateStores }, { on := 4, ground := Ground.phase }, { on := 5, ground := Ground.phase }], guard := none }) (by kernel_rfl) rfl (fun K' hK => ?_)
      rw [if_pos (by rfl)]
      have x0 := cell_at (j := 0) (v := .int .u16 0) Ckb2 rfl
      have x1 := cell_at (j := 1) (v := .string ⟨#[]⟩) Ckb2 rfl
      have xf := froz_at Ckb2
      have xl := block_lt Ckb2
      go_simp
      refine hK.out _ _ ((hY2.setCell (Or.inr Lkb1) _).setCell (Or.inr Lkb1) _) ?_
      clear hK
      try simp only [Go.Act.put, List.setIfInBounds_toArray, List.set_cons_zero, List.set_cons_succ]
      obtain ⟨Y3, eY3⟩ : ∃ Y, Y = ((Y2.setCell ⟨X0.heap.size, 0, none⟩ (.int .u16 a.k.sp)).setCell ⟨X0.heap.size, 1, none⟩ (.string a.k.nm)) := ⟨_, rfl⟩
      rw [← eY3]
      have hY3 : Touch [] V Y3 := by rw [eY3]; exact ((hY2.setCell (Or.inr Lkb1) _).setCell (Or.inr Lkb1) _)
      have gY3 : Touch [X0.heap.size] Y2 Y3 := by rw [eY3]; exact (((Touch.refl _ _).setCell (Or.inl (by simp)) _).setCell (Or.inl (by simp)) _)
      have Ckb3 : Y3.heap[X0.heap.size]? = some (.cells #[.int .u16 a.k.sp, .string a.k.nm] 38 (0, 0)) := by rw [eY3]; have := (bset (i := 1) (bset (i := 0) Ckb2 (.int .u16 a.k.sp)) (.string a.k.nm)); simpa using this
      have Cob3 := gY3.keep Dob2 (fun e => kb_ne Ckb2 Dob2 (by simpa using e))
      clear eY3 x0 x1 xf xl
      refine wpH_call (i := 7) (o := { dst := none, op := Op.store 42 (Operand.tmp 8) (Operand.tmp 23), type := 0, pos := _, after := #[{ on := 5, ground := Ground.data }, { on := 3, ground := Ground.data }, { on := 6, ground := Ground.chain }, { on := 0, ground := Ground.phase }, { on := 1, ground := Ground.phase }, { on := 2, ground := Ground.phase }, { on := 3, ground := Ground.phase }, { on := 4, ground := Ground.phase }, { on := 5, ground := Ground.phase }, { on := 6, ground := Ground.phase }], guard := none }) (by kernel_rfl) rfl (fun K' hK => ?_)
      rw [if_pos (by rfl)]
      have x0 := cell_at (j := 0) (v := .int .i64 0) Cob3 rfl
      have x1 := cell_at (j := 1) (v := .int .i64 0) Cob3 rfl
      have x2 := cell_at (j := 2) (v := .int .i64 0) Cob3 rfl
      have x3 := cell_at (j := 3) (v := .int .i64 0) Cob3 rfl
      have xf := froz_at Cob3
      have xl := block_lt Cob3
      go_simp
      refine hK.out _ _ ((((hY3.setCell (Or.inr Lob2) _).setCell (Or.inr Lob2) _).setCell (Or.inr Lob2) _).setCell (Or.inr Lob2) _) ?_
      clear hK
      try simp only [Go.Act.put, List.setIfInBounds_toArray, List.set_cons_zero, List.set_cons_succ]
      obtain ⟨Y4, eY4⟩ : ∃ Y, Y = ((((Y3.setCell ⟨Y1.heap.size, 0, none⟩ (.int .i64 a.o.va)).setCell ⟨Y1.heap.size, 1, none⟩ (.int .i64 a.o.fl.kd)).setCell ⟨Y1.heap.size, 2, none⟩ (.int .i64 a.o.fl.cd)).setCell ⟨Y1.heap.size, 3, none⟩ (.int .i64 a.o.fl.rn)) := ⟨_, rfl⟩
      rw [← eY4]
      have hY4 : Touch [] V Y4 := by rw [eY4]; exact ((((hY3.setCell (Or.inr Lob2) _).setCell (Or.inr Lob2) _).setCell (Or.inr Lob2) _).setCell (Or.inr Lob2) _)
      have gY4 : Touch [Y1.heap.size] Y3 Y4 := by rw [eY4]; exact (((((Touch.refl _ _).setCell (Or.inl (by simp)) _).setCell (Or.inl (by simp)) _).setCell (Or.inl (by simp)) _).setCell (Or.inl (by simp)) _)
      have Cob4 : Y4.heap[Y1.heap.size]? = some (.cells #[.int .i64 a.o.va, .int .i64 a.o.fl.kd, .int .i64 a.o.fl.cd, .int .i64 a.o.fl.rn] 42 (0, 0)) := by rw [eY4]; have := (bset (i := 3) (bset (i := 2) (bset (i := 1) (bset (i := 0) Cob3 (.int .i64 a.o.va)) (.int .i64 a.o.fl.kd)) (.int .i64 a.o.fl.cd)) (.int .i64 a.o.fl.rn)); simpa using this
      have Ckb4 := gY4.keep Ckb3 (fun e => ob_ne Cob3 Ckb3 (by simpa using e))
      clear eY4 x0 x1 x2 x3 xf xl
      refine wpAnyH_done (by kernel_rfl) ?_ _
      go_wp2_with fail
      go_meet
      case rel => exact ⟨_, _, rfl, rfl, hid ⟨Ckb4, Cob4, hY4⟩⟩
    refine AllH.cons (o := { dst := some 8, op := Op.alloc 42, type := 0, pos := _, after := #[], guard := none }) rfl (fun K' hK => ?_) ?_
    · rw [if_pos (by rfl)]
      go_simp
      refine hK.out _ _ (s0.alloc _) ?_
      clear hK
      try simp only [Go.Act.put, List.setIfInBounds_toArray, List.set_cons_zero, List.set_cons_succ]
      obtain ⟨Y5, eY5⟩ : ∃ Y, Y = X0.alloc (.cells #[.int .i64 0, .int .i64 0, .int .i64 0, .int .i64 0] 42) := ⟨_, rfl⟩
      rw [← eY5]
      have hY5 : Touch [] V Y5 := by rw [eY5]; exact s0.alloc _
      have gY5 : Touch [] X0 Y5 := by rw [eY5]; exact (Touch.refl _ _).alloc _
      have Dob5 : Y5.heap[X0.heap.size]? = some (.cells #[.int .i64 0, .int .i64 0, .int .i64 0, .int .i64 0] 42 (0, 0)) := by rw [eY5]; exact heap_alloc_new _ _
      have Lob5 : V.heap.size ≤ X0.heap.size := s0.size
      clear eY5
      refine wpH_call (i := 4) (o := { dst := some 7, op := Op.alloc 38, type := 0, pos := _, after := #[], guard := none }) (by kernel_rfl) rfl (fun K' hK => ?_)
      rw [if_pos (by rfl)]
      go_simp
      refine hK.out _ _ (hY5.alloc _) ?_
      clear hK
      try simp only [Go.Act.put, List.setIfInBounds_toArray, List.set_cons_zero, List.set_cons_succ]
      obtain ⟨Y6, eY6⟩ : ∃ Y, Y = Y5.alloc (.cells #[.int .u16 0, .string ⟨#[]⟩] 38) := ⟨_, rfl⟩
      rw [← eY6]
      have hY6 : Touch [] V Y6 := by rw [eY6]; exact hY5.alloc _
      have gY6 : Touch [] Y5 Y6 := by rw [eY6]; exact (Touch.refl _ _).alloc _
      have Cob6 := gY6.keep Dob5 (by simp)
      have Dkb6 : Y6.heap[Y5.heap.size]? = some (.cells #[.int .u16 0, .string ⟨#[]⟩] 38 (0, 0)) := by rw [eY6]; exact heap_alloc_new _ _
      have Lkb6 : V.heap.size ≤ Y5.heap.size := hY5.size
      clear eY6
      refine wpH_call (i := 6) (o := { dst := none, op := Op.store 38 (Operand.tmp 7) (Operand.tmp 21), type := 0, pos := _, after := #[{ on := 4, ground := Ground.data }, { on := 1, ground := Ground.data }, { on := 0, ground := Ground.phase }, { on := 1, ground := Ground.phase }, { on := 2, ground := Ground.textOnly Departure.lateStores }, { on := 3, ground := Ground.textOnly Departure.lateStores }, { on := 4, ground := Ground.phase }, { on := 5, ground := Ground.phase }], guard := none }) (by kernel_rfl) rfl (fun K' hK => ?_)
      rw [if_pos (by rfl)]
      have x0 := cell_at (j := 0) (v := .int .u16 0) Dkb6 rfl
      have x1 := cell_at (j := 1) (v := .string ⟨#[]⟩) Dkb6 rfl
      have xf := froz_at Dkb6
      have xl := block_lt Dkb6
      go_simp
      refine hK.out _ _ ((hY6.setCell (Or.inr Lkb6) _).setCell (Or.inr Lkb6) _) ?_
      clear hK
      try simp only [Go.Act.put, List.setIfInBounds_toArray, List.set_cons_zero, List.set_cons_succ]
      obtain ⟨Y7, eY7⟩ : ∃ Y, Y = ((Y6.setCell ⟨Y5.heap.size, 0, none⟩ (.int .u16 a.k.sp)).setCell ⟨Y5.heap.size, 1, none⟩ (.string a.k.nm)) := ⟨_, rfl⟩
      rw [← eY7]
      have hY7 : Touch [] V Y7 := by rw [eY7]; exact ((hY6.setCell (Or.inr Lkb6) _).setCell (Or.inr Lkb6) _)
      have gY7 : Touch [Y5.heap.size] Y6 Y7 := by rw [eY7]; exact (((Touch.refl _ _).setCell (Or.inl (by simp)) _).setCell (Or.inl (by simp)) _)
      have Ckb7 : Y7.heap[Y5.heap.size]? = some (.cells #[.int .u16 a.k.sp, .string a.k.nm] 38 (0, 0)) := by rw [eY7]; have := (bset (i := 1) (bset (i := 0) Dkb6 (.int .u16 a.k.sp)) (.string a.k.nm)); simpa using this
      have Cob7 := gY7.keep Cob6 (fun e => kb_ne Dkb6 Cob6 (by simpa using e))
      clear eY7 x0 x1 xf xl
      refine wpH_call (i := 7) (o := { dst := none, op := Op.store 42 (Operand.tmp 8) (Operand.tmp 23), type := 0, pos := _, after := #[{ on := 5, ground := Ground.data }, { on := 3, ground := Ground.data }, { on := 6, ground := Ground.chain }, { on := 0, ground := Ground.phase }, { on := 1, ground := Ground.phase }, { on := 2, ground := Ground.phase }, { on := 3, ground := Ground.phase }, { on := 4, ground := Ground.phase }, { on := 5, ground := Ground.phase }, { on := 6, ground := Ground.phase }], guard := none }) (by kernel_rfl) rfl (fun K' hK => ?_)
      rw [if_pos (by rfl)]
      have x0 := cell_at (j := 0) (v := .int .i64 0) Cob7 rfl
      have x1 := cell_at (j := 1) (v := .int .i64 0) Cob7 rfl
      have x2 := cell_at (j := 2) (v := .int .i64 0) Cob7 rfl
      have x3 := cell_at (j := 3) (v := .int .i64 0) Cob7 rfl
      have xf := froz_at Cob7
      have xl := block_lt Cob7
      go_simp
      refine hK.out _ _ ((((hY7.setCell (Or.inr Lob5) _).setCell (Or.inr Lob5) _).setCell (Or.inr Lob5) _).setCell (Or.inr Lob5) _) ?_
      clear hK
      try simp only [Go.Act.put, List.setIfInBounds_toArray, List.set_cons_zero, List.set_cons_succ]
      obtain ⟨Y8, eY8⟩ : ∃ Y, Y = ((((Y7.setCell ⟨X0.heap.size, 0, none⟩ (.int .i64 a.o.va)).setCell ⟨X0.heap.size, 1, none⟩ (.int .i64 a.o.fl.kd)).setCell ⟨X0.heap.size, 2, none⟩ (.int .i64 a.o.fl.cd)).setCell ⟨X0.heap.size, 3, none⟩ (.int .i64 a.o.fl.rn)) := ⟨_, rfl⟩
      rw [← eY8]
      have hY8 : Touch [] V Y8 := by rw [eY8]; exact ((((hY7.setCell (Or.inr Lob5) _).setCell (Or.inr Lob5) _).setCell (Or.inr Lob5) _).setCell (Or.inr Lob5) _)
      have gY8 : Touch [X0.heap.size] Y7 Y8 := by rw [eY8]; exact (((((Touch.refl _ _).setCell (Or.inl (by simp)) _).setCell (Or.inl (by simp)) _).setCell (Or.inl (by simp)) _).setCell (Or.inl (by simp)) _)
      have Cob8 : Y8.heap[X0.heap.size]? = some (.cells #[.int .i64 a.o.va, .int .i64 a.o.fl.kd, .int .i64 a.o.fl.cd, .int .i64 a.o.fl.rn] 42 (0, 0)) := by rw [eY8]; have := (bset (i := 3) (bset (i := 2) (bset (i := 1) (bset (i := 0) Cob7 (.int .i64 a.o.va)) (.int .i64 a.o.fl.kd)) (.int .i64 a.o.fl.cd)) (.int .i64 a.o.fl.rn)); simpa using this
      have Ckb8 := gY8.keep Ckb7 (fun e => ob_ne Cob7 Ckb7 (by simpa using e))
      clear eY8 x0 x1 x2 x3 xf xl
      refine wpAnyH_done (by kernel_rfl) ?_ _
      go_wp2_with fail
      go_meet
      case rel => exact ⟨_, _, rfl, rfl, hid ⟨Ckb8, Cob8, hY8⟩⟩
    exact AllH.nil
  case rest =>
    clear s0 C6 C7 C8 C9 C10 C11
    obtain ⟨kb, ob, rfl, rfl, HKO⟩ := hcut
    have hb := HKO.out.2.2.keep HB0.out (by simp)
    have c0 : wc.cell? ⟨w.heap.size, 0, none⟩ = some (.int .i64 c.t) := cell_at hb rfl
    have c1 : wc.cell? ⟨w.heap.size, 1, none⟩ = some (.int .i64 c.n) := cell_at hb rfl
    have c2 : wc.cell? ⟨w.heap.size, 2, none⟩ = some (.int .i64 c.s) := cell_at hb rfl
    have c3 : wc.cell? ⟨w.heap.size, 3, none⟩ = some (.int .i64 c.e) := cell_at hb rfl
    have c4 : wc.cell? ⟨w.heap.size, 4, none⟩ = some (.int .i64 c.f) := cell_at hb rfl
    have c5 : wc.cell? ⟨w.heap.size, 5, none⟩ = some (.int .i64 c.b) := cell_at hb rfl
    have c6 : wc.cell? ⟨w.heap.size, 6, none⟩ = some (.int .i64 c.d) := cell_at hb rfl
    by_cases hcc : Me.okC (cfO c) = true
    · have HN := hid (HYe.out hcc wc)
      have hf : 1 ≤ (cfO c).f := (okC_parts hcc).2.2.2.2.2.2.1
      have HF := hid hf
      clear HYe HNo hf hb
      go_upto_region 3 with (go_at_call 8; refine HN.out.mono ?_; rintro e w1 ⟨g, rfl, hn⟩; have HNN := hid hn; clear hn c0 c1 c2 c3 c4 c5 c6)
      by_cases h64 : a.k.nm.size ≤ 64
      · have z64 : ¬ ((64 : Int) < (a.k.nm.size : Int)) := by omega
        have k1 : ∀ w', Touch [] w1 w' → w'.cell? ⟨kb, 1, none⟩ = some (.string a.k.nm) := fun w' T => by
          obtain ⟨_, _, _, t, _⟩ := HNN.out
          exact cell_at ((t.trans' T).keep HKO.out.1 (by simp)) rfl
        have H64 := hid h64
        go_upto_region 5 with (go_at_call 9; refine (awake_ _).mono ?_; rintro e w2 ⟨rfl, t2⟩; have T2 := hid t2; have k1b := k1 _ t2; clear t2 k1)
        clear k1b
        obtain ⟨P, hS0⟩ := Sw.start (k := (a.k.sp, a.k.nm)) (o := (a.o.va, a.o.fl.kd, a.o.fl.cd, a.o.fl.rn)) TV.out HKO.out.2.2 HNN.out T2.out HKO.out.1 HKO.out.2.1
        go_upto_region 7 with fail
        obtain ⟨W3, hW3⟩ : ∃ W, W = w2.alloc (.cells #[] 3) := ⟨_, rfl⟩
        rw [← hW3] at hS0 ⊢
        have HS0 := hid hS0
        clear hS0 hW3 HN HNN T2
        go_wp2
        go_loopw [11, 12, 45] (fun s11 s12 s45 wr => ∃ (i : Nat) (us : List Int) (wa : Option Addr) (wcp : Nat), s11 = .int .i64 (if us = [] then 0 else 1) ∧ s12 = .slice wa us.length wcp ∧ s45 = .int .i64 (i : Int) ∧ i ≤ A ∧ Hid (Sw w wr g P (cfO c) (a.k.sp, a.k.nm) (a.o.va, a.o.fl.kd, a.o.fl.cd, a.o.fl.rn) kb ob (.slice wa us.length wcp) us us i)) (fun _ _ i _ => A - (intOf i).toNat)
        case atStart => exact ⟨0, [], _, _, rfl, rfl, rfl, Nat.zero_le _, HS0⟩
        case round =>
          clear HS0
          obtain ⟨i, us, wa, wcp, rfl, rfl, rfl, hi, HS⟩ := hrel
          by_cases hlt : i < A
          · have zi : (i : Int) < (A : Int) := by omega
            have zA : (A : Int) ≤ 1048576 := by have := HLe.out; omega
            have hnx : i < xs.length := by have := HAx.out; omega
            obtain ⟨xa, xc, hxe, hx1⟩ := HRow.out.keep HS.out.tch
            simp only [Value.slice.injEq] at hxe
            obtain ⟨rfl, -, -⟩ := hxe
            obtain ⟨bx, off, rfl, -, hx2⟩ := hx1 (by omega)
            have q0 := hx2 i xs[i] (List.getElem?_eq_getElem hnx)
            have HX := hid (HWf.out xs[i] (List.getElem_mem hnx))
            clear hx1 hx2
            generalize xs[i] = x at *
            clear hnx
            have k0 : wr.cell? ⟨kb, 0, none⟩ = some (.int .u16 a.k.sp) := cell_at HS.out.bh.kx rfl
            have k1 : wr.cell? ⟨kb, 1, none⟩ = some (.string a.k.nm) := cell_at HS.out.bh.kx rfl
            have HC := hid (HS.out.join (by have := HLe.out; omega) HOK.out HF.out H64.out HX.out)
            have HUS : Hid (us.length ≤ 1048576) := hid (by have := HS.out.len; have := HLe.out; omega)
            unfold PT kv jv jcs at HC
            by_cases hne : us = []
            · simp only [if_pos hne]
              have HNE := hid hne
              clear hne
              go_upto_region 11 with (go_at_call 12; refine HC.out.mono ?_; rintro e w5 ⟨J, E, jb, jm, jn, rfl, kq5, hcs⟩; have HK5 := hid kq5; have HCS := hid hcs; clear kq5 hcs k0 k1)
              obtain ⟨W6, hW6⟩ : ∃ W, W = w5.alloc (.cells #[.int .i64 J.how, .int .i64 J.run, .bool J.bg, .int .i64 J.o.1, .int .i64 J.o.2.1, .int .i64 J.o.2.2.1, .int .i64 J.o.2.2.2, .slice jb jm jn] 49) := ⟨_, rfl⟩
              have h6 := heap_alloc_new w5 (.cells #[.int .i64 J.how, .int .i64 J.run, .bool J.bg, .int .i64 J.o.1, .int .i64 J.o.2.1, .int .i64 J.o.2.2.1, .int .i64 J.o.2.2.2, .slice jb jm jn] 49)
              have t6 : Touch [] w5 W6 := by rw [hW6]; exact (Touch.refl _ _).alloc _
              rw [← hW6] at h6 ⊢
              have H6 := hid h6
              have T6 := hid t6
              generalize w5.heap.size = qb at *
              clear hW6 h6 t6 HK5
              rcases HCS.out with ⟨hE, s5⟩ | ⟨rfl, hrun, hbg, s5⟩
              · have S6 := hid (s5.keep0 T6.out)
                have zE : (E != 0) = true := by simpa using hE
                have zE2 : (E == 0) = false := by simpa using hE
                clear hE s5 HCS
                go_wp2
                refine ⟨⟨i + 1, us, _, _, by rw [if_pos HNE.out], rfl, congrArg _ (by omega), by omega, S6⟩, ?_⟩
                simp only [intOf]
                omega
              · have S6 := hid (s5.keep0 T6.out)
                rw [hrun, hbg] at H6
                rw [decide_eq_true HNE.out] at H6
                have y1 : W6.cell? ⟨qb, 1, none⟩ = some (.int .i64 1) := cell_at H6.out rfl
                have y2 : W6.cell? ⟨qb, 2, none⟩ = some (.bool true) := cell_at H6.out rfl
                clear hrun hbg s5 HCS
                obtain ⟨W7, hW7⟩ : ∃ W, W = W6.alloc (.cells #[.int .i64 x] 3) := ⟨_, rfl⟩
                have t7 : Touch [] W6 W7 := by rw [hW7]; exact (Touch.refl _ _).alloc _
                have HRW : Hid (Rs 3 1 W7 (.slice (some ⟨W6.heap.size, 0, none⟩) 1 1) 1 [.int .i64 x]) := hid (by rw [hW7]; exact Rs.new W6 #[.int .i64 x] 3 1 rfl)
                have S7 := hid (S6.out.keep0 t7)
                have H7 := hid (t7.keep H6.out (by simp))
                have HWs : Hid (w.heap.size ≤ W7.heap.size) := hid S7.out.tch.size
                have HX7 := hid hW7
                clear t7 hW7 S6
                go_upto_region 14 with fail
                go_wp2_with (at_builtin; rw [← HX7.out]; refine wpList_append_rs rfl _ _ 47 3 rfl (.int .i64 0) 1 8 info3 Tryz.underlying47 rfl (by decide) w.heap.size (.slice wa us.length wcp) us.length (ints us) rfl S7.out.bh.row (.slice (some ⟨W6.heap.size, 0, none⟩) 1 1) 1 [.int .i64 x] rfl HRW.out (fun y hy => by simp only [List.mem_singleton] at hy; subst hy; rfl) (by have := HUS.out; unfold maxLen; omega) (by have := HUS.out; omega) HWs.out ?_; intro v5 w8 o5 g5 p5; have S8 := hid (S7.out.more o5 g5 p5); have t8 : Touch _ _ _ := (Touch.refl (Value.slice wa us.length wcp).ownBlock.toList W7).grown g5 (fun k hk => Or.inl (by simp [hk])); have y1 : w8.cell? ⟨qb, 1, none⟩ = some (.int .i64 1) := cell_at (t8.keep H7.out (own3_ne S7.out.bh.row H7.out (by decide))) rfl; obtain ⟨a5, c5, e5⟩ := own_form o5; subst e5; clear o5 g5 p5 t8)
                refine ⟨⟨i + 1, us ++ [x], a5, c5, by simp, by simp, congrArg _ (by omega), by omega, by rw [List.length_append]; exact S8⟩, ?_⟩
                simp only [intOf]
                omega
            · simp only [if_neg hne]
              have HNE := hid hne
              clear hne
              go_upto_region 11 with (go_at_call 12; refine HC.out.mono ?_; rintro e w5 ⟨J, E, jb, jm, jn, rfl, kq5, hcs⟩; have HK5 := hid kq5; have HCS := hid hcs; clear kq5 hcs k0 k1)
              obtain ⟨W6, hW6⟩ : ∃ W, W = w5.alloc (.cells #[.int .i64 J.how, .int .i64 J.run, .bool J.bg, .int .i64 J.o.1, .int .i64 J.o.2.1, .int .i64 J.o.2.2.1, .int .i64 J.o.2.2.2, .slice jb jm jn] 49) := ⟨_, rfl⟩
              have h6 := heap_alloc_new w5 (.cells #[.int .i64 J.how, .int .i64 J.run, .bool J.bg, .int .i64 J.o.1, .int .i64 J.o.2.1, .int .i64 J.o.2.2.1, .int .i64 J.o.2.2.2, .slice jb jm jn] 49)
              have t6 : Touch [] w5 W6 := by rw [hW6]; exact (Touch.refl _ _).alloc _
              rw [← hW6] at h6 ⊢
              have H6 := hid h6
              have T6 := hid t6
              generalize w5.heap.size = qb at *
              clear hW6 h6 t6 HK5
              rcases HCS.out with ⟨hE, s5⟩ | ⟨rfl, hrun, hbg, s5⟩
              · have S6 := hid (s5.keep0 T6.out)
                have zE : (E != 0) = true := by simpa using hE
                have zE2 : (E == 0) = false := by simpa using hE
                clear hE s5 HCS
                go_wp2
                refine ⟨⟨i + 1, us, _, _, by rw [if_neg HNE.out], rfl, congrArg _ (by omega), by omega, S6⟩, ?_⟩
                simp only [intOf]
                omega
              · have S6 := hid (s5.keep0 T6.out)
                rw [hrun, hbg] at H6
                rw [decide_eq_false HNE.out] at H6
                have y1 : W6.cell? ⟨qb, 1, none⟩ = some (.int .i64 1) := cell_at H6.out rfl
                have y2 : W6.cell? ⟨qb, 2, none⟩ = some (.bool false) := cell_at H6.out rfl
                clear hrun hbg s5 HCS
                obtain ⟨W7, hW7⟩ : ∃ W, W = W6.alloc (.cells #[.int .i64 x] 3) := ⟨_, rfl⟩
                have t7 : Touch [] W6 W7 := by rw [hW7]; exact (Touch.refl _ _).alloc _
                have HRW : Hid (Rs 3 1 W7 (.slice (some ⟨W6.heap.size, 0, none⟩) 1 1) 1 [.int .i64 x]) := hid (by rw [hW7]; exact Rs.new W6 #[.int .i64 x] 3 1 rfl)
                have S7 := hid (S6.out.keep0 t7)
                have H7 := hid (t7.keep H6.out (by simp))
                have HWs : Hid (w.heap.size ≤ W7.heap.size) := hid S7.out.tch.size
                have HX7 := hid hW7
                clear t7 hW7 S6
                go_upto_region 14 with fail
                go_wp2_with (at_builtin; rw [← HX7.out]; refine wpList_append_rs rfl _ _ 47 3 rfl (.int .i64 0) 1 8 info3 Tryz.underlying47 rfl (by decide) w.heap.size (.slice wa us.length wcp) us.length (ints us) rfl S7.out.bh.row (.slice (some ⟨W6.heap.size, 0, none⟩) 1 1) 1 [.int .i64 x] rfl HRW.out (fun y hy => by simp only [List.mem_singleton] at hy; subst hy; rfl) (by have := HUS.out; unfold maxLen; omega) (by have := HUS.out; omega) HWs.out ?_; intro v5 w8 o5 g5 p5; have S8 := hid (S7.out.more o5 g5 p5); have t8 : Touch _ _ _ := (Touch.refl (Value.slice wa us.length wcp).ownBlock.toList W7).grown g5 (fun k hk => Or.inl (by simp [hk])); have y1 : w8.cell? ⟨qb, 1, none⟩ = some (.int .i64 1) := cell_at (t8.keep H7.out (own3_ne S7.out.bh.row H7.out (by decide))) rfl; obtain ⟨a5, c5, e5⟩ := own_form o5; subst e5; clear o5 g5 p5 t8)
                refine ⟨⟨i + 1, us ++ [x], a5, c5, by simp, by simp, congrArg _ (by omega), by omega, by rw [List.length_append]; exact S8⟩, ?_⟩
                simp only [intOf]
                omega
          · have zi : ¬ (i : Int) < (A : Int) := by omega
            obtain rfl : i = A := by omega
            by_cases hne : us = []
            · subst hne
              have HT := hid HS.out.tch
              simp only [if_true, List.length_nil]
              clear HS
              go_wp2
              go_ret
              exact ⟨rfl, HT.out⟩
            · simp only [if_neg hne]
              have hl0 : 0 < us.length := List.length_pos_iff.2 hne
              have zl : ¬ ((us.length : Int) = 0) := by omega
              have zl2 : ((us.length : Int) == 0) = false := by simp; omega
              have hE := HS.out.end_ (by have := HLe.out; omega) hne
              have HE := hid hE
              have HW := hid (fun (w9 : World) (h : Sw w w9 g P (cfO c) (a.k.sp, a.k.nm) (a.o.va, a.o.fl.kd, a.o.fl.cd, a.o.fl.rn) kb ob (.slice wa us.length wcp) us us i) => h.waiters (by have := HLe.out; omega) hne)
              have o0 : wr.cell? ⟨ob, 0, none⟩ = some (.int .i64 a.o.va) := cell_at HS.out.bh.ox rfl
              have o1 : wr.cell? ⟨ob, 1, none⟩ = some (.int .i64 a.o.fl.kd) := cell_at HS.out.bh.ox rfl
              have o2 : wr.cell? ⟨ob, 2, none⟩ = some (.int .i64 a.o.fl.cd) := cell_at HS.out.bh.ox rfl
              have o3 : wr.cell? ⟨ob, 3, none⟩ = some (.int .i64 a.o.fl.rn) := cell_at HS.out.bh.ox rfl
              unfold PT Me.ov dcs at HE
              unfold PT at HW
              clear hE
              cases ho : Me.right (a.o.va, a.o.fl.kd, a.o.fl.cd, a.o.fl.rn) with
              | false =>
                rw [ho] at HE
                simp only [Bool.false_eq_true, if_false] at HE
                go_upto_region 21 with (go_at_call 13; refine HE.out.mono ?_; rintro e w5 ⟨D, ta, ga, la, tn, tc, gm, gc, lm, lc, rfl, kq5, hcs⟩; have HCS := hid hcs; clear hcs kq5 o0 o1 o2 o3)
                obtain ⟨W6, hW6⟩ : ∃ W, W = w5.alloc (.cells #[.int .i64 D.R.run, .int .u16 D.R.sp, .string D.R.nm, .int .i64 D.R.gen, .bool D.R.rf, .slice ta tn tc, .bool D.cur, .bool D.kept, .slice ga gm gc, .slice la lm lc] 57) := ⟨_, rfl⟩
                have t6 : Touch [] w5 W6 := by rw [hW6]; exact (Touch.refl _ _).alloc _
                rw [← hW6]
                rcases HCS.out with ⟨-, s5⟩ | ⟨e, -⟩
                · have HW6 := hid (HW.out W6 (s5.keep0 t6))
                  clear hW6 t6 s5 HCS HW HE
                  go_wp2_with (go_at_call 14; refine HW6.out.mono ?_; rintro e w7 ⟨⟨a7, c7, rfl⟩, t7⟩; have T7 := hid t7; clear t7)
                  go_ret
                  exact ⟨by simp, T7.out⟩
                · cases e
              | true =>
                rw [ho] at HE
                simp only [if_true] at HE
                go_upto_region 21 with (go_at_call 13; refine HE.out.mono ?_; rintro e w5 ⟨D, ta, ga, la, tn, tc, gm, gc, lm, lc, rfl, kq5, hcs⟩; have HCS := hid hcs; clear hcs kq5 o0 o1 o2 o3)
                obtain ⟨W6, hW6⟩ : ∃ W, W = w5.alloc (.cells #[.int .i64 D.R.run, .int .u16 D.R.sp, .string D.R.nm, .int .i64 D.R.gen, .bool D.R.rf, .slice ta tn tc, .bool D.cur, .bool D.kept, .slice ga gm gc, .slice la lm lc] 57) := ⟨_, rfl⟩
                have t6 : Touch [] w5 W6 := by rw [hW6]; exact (Touch.refl _ _).alloc _
                have h6 := heap_alloc_new w5 (.cells #[.int .i64 D.R.run, .int .u16 D.R.sp, .string D.R.nm, .int .i64 D.R.gen, .bool D.R.rf, .slice ta tn tc, .bool D.cur, .bool D.kept, .slice ga gm gc, .slice la lm lc] 57)
                rw [← hW6] at h6 ⊢
                rcases HCS.out with ⟨e, -⟩ | ⟨-, rfl, tv5, s5⟩
                · cases e
                · have S6 := hid (s5.keep0 t6)
                  have TV6 := hid (Tv_keeps tv5 t6.keeps)
                  have H6 := hid h6
                  have y5 : W6.cell? ⟨w5.heap.size, 5, none⟩ = some (.slice ta us.length tc) := cell_at h6 rfl
                  clear hW6 t6 s5 HCS HW HE h6 tv5
                  generalize w5.heap.size = db at *
                  have HP := hid S6.out.progress
                  unfold PT at HP
                  go_upto_region 25 with (first
                    | (go_at_call 16; refine HP.out.mono ?_; rintro e w7 ⟨⟨a7, c7, rfl⟩, t7⟩; have T7 := hid t7; clear t7 y5)
                    | (go_at_call 15; refine (same_ _ _ _).mono ?_; rintro e w8 ⟨rfl, t8⟩; have T8 := hid (T7.out.trans' t8); clear t8))
                  have S8 := hid (S6.out.keep0 T8.out)
                  have H8 := hid (T8.out.keep H6.out (by simp))
                  have TV8 := hid (Tv_keeps TV6.out T8.out.keeps)
                  clear S6 H6 TV6 T7 T8 HP
                  go_wp2
                  go_loopw [109] (fun s109 wy => ∃ j : Nat, s109 = .int .i64 (j : Int) ∧ j ≤ us.length ∧ Hid (Touch [] w8 wy)) (fun i _ => us.length - (intOf i).toNat)
                  case atStart => exact ⟨0, rfl, Nat.zero_le _, hid (Touch.refl _ _)⟩
                  case round =>
                    obtain ⟨j, rfl, hj, HT⟩ := hrel
                    by_cases hlt2 : j < us.length
                    · have zj : (j : Int) < (us.length : Int) := by omega
                      have zu : (us.length : Int) ≤ 1048576 := by have := (HS.out.len); have := HLe.out; omega
                      have hrw := Rd.of_own (own_touch S8.out.bh.row HT.out (fun _ _ e => by cases e))
                      obtain ⟨rb, hrb, hrc⟩ := Rd.cell hrw hlt2
                      obtain ⟨tb, rfl, hT⟩ := told_at TV8.out hlt2
                      subst hrb
                      generalize us[j] = x at *
                      go_upto_region 28 with fail
                      have s9 : Touch [] w8 wr.drew := HT.out.trans' (Touch.refl _ _).drew
                      have Y5 : ∀ w', Touch [] w8 w' → w'.cell? ⟨db, 5, none⟩ = some (.slice (some ⟨tb, 0, none⟩) us.length tc) := fun w' T => cell_at (T.keep H8.out (by simp)) rfl
                      have P0 : ∀ w', Touch [] w8 w' → w'.cell? ⟨ob, 0, none⟩ = some (.int .i64 a.o.va) := fun w' T => cell_at (T.keep S8.out.bh.ox (by simp)) rfl
                      have P1 : ∀ w', Touch [] w8 w' → w'.cell? ⟨ob, 1, none⟩ = some (.int .i64 a.o.fl.kd) := fun w' T => cell_at (T.keep S8.out.bh.ox (by simp)) rfl
                      have P2 : ∀ w', Touch [] w8 w' → w'.cell? ⟨ob, 2, none⟩ = some (.int .i64 a.o.fl.cd) := fun w' T => cell_at (T.keep S8.out.bh.ox (by simp)) rfl
                      have P3 : ∀ w', Touch [] w8 w' → w'.cell? ⟨ob, 3, none⟩ = some (.int .i64 a.o.fl.rn) := fun w' T => cell_at (T.keep S8.out.bh.ox (by simp)) rfl
                      have Q0 : ∀ w', Touch [] w8 w' → w'.cell? ⟨tb, j * 5, none⟩ = some (.int .i64 x) := fun w' T => hT w' T 0 _ rfl
                      have Q1 : ∀ w', Touch [] w8 w' → w'.cell? ⟨tb, j * 5 + 1, none⟩ = some (.int .i64 a.o.va) := fun w' T => hT w' T 1 _ rfl
                      have Q2 : ∀ w', Touch [] w8 w' → w'.cell? ⟨tb, j * 5 + 2, none⟩ = some (.int .i64 a.o.fl.kd) := fun w' T => hT w' T 2 _ rfl
                      have Q3 : ∀ w', Touch [] w8 w' → w'.cell? ⟨tb, j * 5 + 3, none⟩ = some (.int .i64 a.o.fl.cd) := fun w' T => hT w' T 3 _ rfl
                      have Q4 : ∀ w', Touch [] w8 w' → w'.cell? ⟨tb, j * 5 + 4, none⟩ = some (.int .i64 a.o.fl.rn) := fun w' T => hT w' T 4 _ rfl
                      clear hT
                      refine wp_region_H (S := fun w' => Touch [] w8 w') (by kernel_rfl) ?_
                      refine wpH_take (i := 0) (v := (.pointer (some ⟨db, 5, none⟩))) (some 114) rfl rfl (by kernel_rfl) (by kernel_rfl) (by kernel_rfl) (fun _ _ _ h => h) (Or.inl ⟨by rfl, fun w' hS => (by go_simp)⟩) s9 ?_
                      try simp only [Go.Act.put, List.setIfInBounds_toArray, List.set_cons_zero, List.set_cons_succ]
                      refine wpH_take (i := 1) (v := (.slice (some ⟨tb, 0, none⟩) us.length tc)) (some 115) rfl rfl (by kernel_rfl) (by kernel_rfl) (by kernel_rfl) (fun _ _ _ h => h) (Or.inl ⟨by rfl, fun w' hS => (by have z0 := Y5 _ hS; go_simp)⟩) s9 ?_
                      try simp only [Go.Act.put, List.setIfInBounds_toArray, List.set_cons_zero, List.set_cons_succ]
                      refine wpH_take (i := 2) (v := (.int .i64 (j : Int))) (some 116) rfl rfl (by kernel_rfl) (by kernel_rfl) (by kernel_rfl) (fun _ _ _ h => h) (Or.inl ⟨by rfl, fun w' hS => (by go_simp)⟩) s9 ?_
                      try simp only [Go.Act.put, List.setIfInBounds_toArray, List.set_cons_zero, List.set_cons_succ]
                      refine wpH_take (i := 3) (v := (.pointer (some ⟨tb, j * 5, none⟩))) (some 117) rfl rfl (by kernel_rfl) (by kernel_rfl) (by kernel_rfl) (fun _ _ _ h => h) (Or.inl ⟨by rfl, fun w' hS => (by go_simp)⟩) s9 ?_
                      try simp only [Go.Act.put, List.setIfInBounds_toArray, List.set_cons_zero, List.set_cons_succ]
                      refine wpH_take (i := 4) (v := (.agg #[.int .i64 x, .int .i64 a.o.va, .int .i64 a.o.fl.kd, .int .i64 a.o.fl.cd, .int .i64 a.o.fl.rn])) (some 118) rfl rfl (by kernel_rfl) (by kernel_rfl) (by kernel_rfl) (fun _ _ _ h => h) (Or.inl ⟨by rfl, fun w' hS => (by have z0 := Q0 _ hS; have z1 := Q1 _ hS; have z2 := Q2 _ hS; have z3 := Q3 _ hS; have z4 := Q4 _ hS; go_simp)⟩) s9 ?_
                      try simp only [Go.Act.put, List.setIfInBounds_toArray, List.set_cons_zero, List.set_cons_succ]
                      refine wpH_take (i := 5) (v := (.int .i64 x)) (some 119) rfl rfl (by kernel_rfl) (by kernel_rfl) (by kernel_rfl) (fun _ _ _ h => h) (Or.inl ⟨by rfl, fun w' hS => (by go_simp)⟩) s9 ?_
                      try simp only [Go.Act.put, List.setIfInBounds_toArray, List.set_cons_zero, List.set_cons_succ]
                      refine wpH_take (i := 6) (v := (.agg #[.int .i64 a.o.va, .int .i64 a.o.fl.kd, .int .i64 a.o.fl.cd, .int .i64 a.o.fl.rn])) (some 120) rfl rfl (by kernel_rfl) (by kernel_rfl) (by kernel_rfl) (fun _ _ _ h => h) (Or.inl ⟨by rfl, fun w' hS => (by have z0 := P0 _ hS; have z1 := P1 _ hS; have z2 := P2 _ hS; have z3 := P3 _ hS; go_simp)⟩) s9 ?_
                      try simp only [Go.Act.put, List.setIfInBounds_toArray, List.set_cons_zero, List.set_cons_succ]
                      refine wpH_take (i := 7) (v := (.agg #[.int .i64 x, .int .i64 a.o.va, .int .i64 a.o.fl.kd, .int .i64 a.o.fl.cd, .int .i64 a.o.fl.rn])) (some 121) rfl rfl (by kernel_rfl) (by kernel_rfl) (by kernel_rfl) (fun _ _ _ h => h) (Or.inl ⟨by rfl, fun w' hS => (by go_simp)⟩) s9 ?_
                      try simp only [Go.Act.put, List.setIfInBounds_toArray, List.set_cons_zero, List.set_cons_succ]
                      refine wpH_take (i := 8) (v := (.bool false)) (some 122) rfl rfl (by kernel_rfl) (by kernel_rfl) (by kernel_rfl) (fun _ _ _ h => h) (Or.inl ⟨by rfl, fun w' hS => (by go_simp)⟩) s9 ?_
                      try simp only [Go.Act.put, List.setIfInBounds_toArray, List.set_cons_zero, List.set_cons_succ]
                      refine wpAnyH_done (by kernel_rfl) ?_ _
                      go_wp2
                      refine ⟨⟨j + 1, congrArg _ (by omega), by omega, hid (HT.out.trans' (Touch.refl _ _).drew)⟩, ?_⟩
                      simp only [intOf]
                      omega
                    · have zj : ¬ (j : Int) < (us.length : Int) := by omega
                      have TE := hid (S8.out.tch.trans' HT.out)
                      go_wp2
                      go_ret
                      exact ⟨rfl, TE.out⟩
      · have z64 : (64 : Int) < (a.k.nm.size : Int) := by omega
        have k1 : ∀ w', Touch [] w1 w' → w'.cell? ⟨kb, 1, none⟩ = some (.string a.k.nm) := fun w' T => by
          obtain ⟨_, _, _, t, _⟩ := HNN.out
          exact cell_at ((t.trans' T).keep HKO.out.1 (by simp)) rfl
        have T1 : Hid (Touch [] wc w1) := hid (by obtain ⟨_, _, _, t, _⟩ := HNN.out; exact t)
        go_upto_region 4 with (go_at_call 9; refine (awake_ _).mono ?_; rintro e w2 ⟨rfl, t2⟩; have T2 := hid t2; have k1b := k1 _ t2; clear t2 k1)
        go_wp2_with (go_at_call 9; refine (awake_ _).mono ?_; rintro e w3 ⟨rfl, t3⟩; have T3 := hid t3; clear t3)
        go_ret
        exact ⟨rfl, (((TV.out.trans' HKO.out.2.2).trans' T1.out).trans' T2.out).trans' T3.out⟩
    · have HN := hid (HNo.out (by simpa using hcc) wc)
      clear HYe HNo hb
      go_upto_region 3 with (go_at_call 8; refine HN.out.mono ?_; rintro e w1 ⟨rfl, t1⟩; have T1 := hid t1; clear t1 c0 c1 c2 c3 c4 c5 c6)
      go_upto_region 4 with (go_at_call 9; refine (awake_ _).mono ?_; rintro e w2 ⟨rfl, t2⟩; have T2 := hid t2; clear t2)
      go_wp2_with (go_at_call 9; refine (awake_ _).mono ?_; rintro e w3 ⟨rfl, t3⟩; have T3 := hid t3; clear t3)
      go_ret
      exact ⟨rfl, (((TV.out.trans' HKO.out.2.2).trans' T1.out).trans' T2.out).trans' T3.out⟩
end Go.Proofs.YtkfophlhpjbmgaaGreat
