/- The contracts of the library's Keys, Sorted and Sort, laid at this program: facts of the program alone; no conditions. -/
import Derived.Test.YtpihhlllembdeaaGreatProg
import Derived.Shelf.SlIterI.Nil
import Derived.Shelf.SortM.Plain
import Derived.Shelf.SortM.SortNone
import Derived.Test.YtpihhlllembdeaaGreatTbr
import Derived.Lib.SlKeysI
import Derived.Test.YtpihhlllembdeaaGreatGkc
import Derived.Test.YtpihhlllembdeaaGreatGcl
import Derived.Test.YtpihhlllembdeaaGreatDon
import Derived.Deep.AppendLies
import Derived.OwnWalk
import Derived.Lib.SmallJoins
import Derived.Shelf.SlSortCmp.QuietGrown
namespace Go.Proofs
open Go.Shelf
def Tryz.keysA_ren : Go.Shelf.Ren := ⟨fun | 7 => 64 | 10 => 82 | n => n, fun | 23 => 45 | 26 => 3 | 3 => 97 | 28 => 129 | 0 => 0 | 27 => 128 | 33 => 86 | 4 => 4 | n => n, fun | n => n⟩
theorem Tryz.keysA : Go.Proofs.SlLaysZI.n7 Tryz.prog Tryz.keysA_ren := {
  mixed := by kernel_rfl
  f7 := ⟨Tryz.f64.name, by decide, Tryz.func64.trans (congrArg some (by kernel_rfl))⟩
  f10 := ⟨Tryz.f82.name, by decide, Tryz.func82.trans (congrArg some (by kernel_rfl))⟩
  t0 := Tryz.underlying0
  a0 := Tryz.isAgg0
  z0 := Tryz.sizeOf0
  v0 := Tryz.zeroValue0
  t4 := Tryz.underlying4
  a4 := Tryz.isAgg4
  z4 := Tryz.sizeOf4
  v4 := Tryz.zeroValue4
  t23 := Tryz.underlying45
  a23 := Tryz.isAgg45
  z23 := Tryz.sizeOf45
  v23 := Tryz.zeroValue45
  t26 := Tryz.underlying3
  a26 := Tryz.isAgg3
  z26 := Tryz.sizeOf3
  v26 := Tryz.zeroValue3
  t27 := Tryz.underlying128
  a27 := Tryz.isAgg128
  z27 := Tryz.sizeOf128
  v27 := Tryz.zeroValue128
  t28 := Tryz.underlying129
  a28 := Tryz.isAgg129
  z28 := Tryz.sizeOf129
  v28 := Tryz.zeroValue129
  t33 := Tryz.underlying86
  a33 := Tryz.isAgg86
  z33 := Tryz.sizeOf86
  v33 := Tryz.zeroValue86 }
def Tryz.sortedA_ren : Go.Shelf.Ren := ⟨fun | 6 => 63 | 8 => 80 | 9 => 81 | 11 => 102 | 13 => 77 | 12 => 103 | 23 => 98 | 24 => 99 | 14 => 111 | 15 => 112 | 16 => 113 | 17 => 114 | 18 => 115 | 19 => 116 | 20 => 117 | 21 => 118 | 22 => 119 | 25 => 121 | 26 => 106 | 27 => 107 | 28 => 122 | 29 => 123 | 30 => 124 | 31 => 125 | n => n, fun | 26 => 3 | 28 => 129 | 24 => 75 | 0 => 0 | 3 => 3 | 37 => 147 | 48 => 163 | 50 => 165 | 4 => 4 | 40 => 157 | 39 => 156 | 45 => 51 | 5 => 5 | 9 => 9 | 51 => 170 | 55 => 174 | 57 => 182 | 58 => 183 | 33 => 86 | n => n, fun | n => n⟩
theorem Tryz.sortedA : Go.Proofs.SlLaysZI.n6 Tryz.prog Tryz.sortedA_ren := {
  mixed := by kernel_rfl
  f6 := ⟨Tryz.f63.name, by decide, Tryz.func63.trans (congrArg some (by kernel_rfl))⟩
  f8 := ⟨Tryz.f80.name, by decide, Tryz.func80.trans (congrArg some (by kernel_rfl))⟩
  f11 := ⟨Tryz.f102.name, by decide, Tryz.func102.trans (congrArg some (by kernel_rfl))⟩
  t0 := Tryz.underlying0
  a0 := Tryz.isAgg0
  z0 := Tryz.sizeOf0
  v0 := Tryz.zeroValue0
  t24 := Tryz.underlying75
  a24 := Tryz.isAgg75
  z24 := Tryz.sizeOf75
  v24 := Tryz.zeroValue75
  t26 := Tryz.underlying3
  a26 := Tryz.isAgg3
  z26 := Tryz.sizeOf3
  v26 := Tryz.zeroValue3
  t28 := Tryz.underlying129
  a28 := Tryz.isAgg129
  z28 := Tryz.sizeOf129
  v28 := Tryz.zeroValue129
  i26 := by kernel_rfl }
def Tryz.sortA_ren : Go.Shelf.Ren := ⟨fun | 5 => 81 | 8 => 77 | 7 => 103 | 19 => 98 | 20 => 99 | 10 => 111 | 11 => 112 | 12 => 113 | 13 => 114 | 14 => 115 | 15 => 116 | 16 => 117 | 17 => 118 | 18 => 119 | 30 => 121 | 31 => 106 | 32 => 107 | 33 => 122 | 34 => 123 | 35 => 124 | 40 => 125 | n => n, fun | 23 => 75 | 25 => 3 | 3 => 3 | 32 => 147 | 22 => 75 | 0 => 0 | 44 => 163 | 46 => 165 | 4 => 4 | 36 => 157 | 35 => 156 | 41 => 51 | 5 => 5 | 9 => 9 | 53 => 170 | 57 => 174 | 63 => 182 | 64 => 183 | n => n, fun | n => n⟩
theorem Tryz.sortA : Go.Proofs.SlLaysM.n5 Tryz.prog Tryz.sortA_ren := {
  mixed := by kernel_rfl
  f5 := ⟨Tryz.f81.name, by decide, Tryz.func81.trans (congrArg some (by kernel_rfl))⟩
  f7 := ⟨Tryz.f103.name, by decide, Tryz.func103.trans (congrArg some (by kernel_rfl))⟩
  f8 := Tryz.func77.trans (congrArg some (by kernel_rfl))
  f10 := ⟨Tryz.f111.name, by decide, Tryz.func111.trans (congrArg some (by kernel_rfl))⟩
  f11 := ⟨Tryz.f112.name, by decide, Tryz.func112.trans (congrArg some (by kernel_rfl))⟩
  f12 := ⟨Tryz.f113.name, by decide, Tryz.func113.trans (congrArg some (by kernel_rfl))⟩
  f13 := ⟨Tryz.f114.name, by decide, Tryz.func114.trans (congrArg some (by kernel_rfl))⟩
  f14 := ⟨Tryz.f115.name, by decide, Tryz.func115.trans (congrArg some (by kernel_rfl))⟩
  f15 := ⟨Tryz.f116.name, by decide, Tryz.func116.trans (congrArg some (by kernel_rfl))⟩
  f16 := ⟨Tryz.f117.name, by decide, Tryz.func117.trans (congrArg some (by kernel_rfl))⟩
  f17 := ⟨Tryz.f118.name, by decide, Tryz.func118.trans (congrArg some (by kernel_rfl))⟩
  f18 := ⟨Tryz.f119.name, by decide, Tryz.func119.trans (congrArg some (by kernel_rfl))⟩
  f19 := Tryz.func98.trans (congrArg some (by kernel_rfl))
  f20 := Tryz.func99.trans (congrArg some (by kernel_rfl))
  f30 := ⟨Tryz.f121.name, by decide, Tryz.func121.trans (congrArg some (by kernel_rfl))⟩
  f31 := Tryz.func106.trans (congrArg some (by kernel_rfl))
  f32 := Tryz.func107.trans (congrArg some (by kernel_rfl))
  f33 := ⟨Tryz.f122.name, by decide, Tryz.func122.trans (congrArg some (by kernel_rfl))⟩
  f34 := ⟨Tryz.f123.name, by decide, Tryz.func123.trans (congrArg some (by kernel_rfl))⟩
  f35 := ⟨Tryz.f124.name, by decide, Tryz.func124.trans (congrArg some (by kernel_rfl))⟩
  f40 := ⟨Tryz.f125.name, by decide, Tryz.func125.trans (congrArg some (by kernel_rfl))⟩
  t0 := Tryz.underlying0
  a0 := Tryz.isAgg0
  z0 := Tryz.sizeOf0
  v0 := Tryz.zeroValue0
  t3 := Tryz.underlying3
  a3 := Tryz.isAgg3
  z3 := Tryz.sizeOf3
  v3 := Tryz.zeroValue3
  t4 := Tryz.underlying4
  a4 := Tryz.isAgg4
  z4 := Tryz.sizeOf4
  v4 := Tryz.zeroValue4
  t5 := Tryz.underlying5
  a5 := Tryz.isAgg5
  z5 := Tryz.sizeOf5
  v5 := Tryz.zeroValue5
  t9 := Tryz.underlying9
  a9 := Tryz.isAgg9
  z9 := Tryz.sizeOf9
  v9 := Tryz.zeroValue9
  t22 := Tryz.underlying75
  a22 := Tryz.isAgg75
  z22 := Tryz.sizeOf75
  v22 := Tryz.zeroValue75
  t23 := Tryz.underlying75
  a23 := Tryz.isAgg75
  z23 := Tryz.sizeOf75
  v23 := Tryz.zeroValue75
  t25 := Tryz.underlying3
  a25 := Tryz.isAgg3
  z25 := Tryz.sizeOf3
  v25 := Tryz.zeroValue3
  t32 := Tryz.underlying147
  a32 := Tryz.isAgg147
  z32 := Tryz.sizeOf147
  v32 := Tryz.zeroValue147
  t35 := Tryz.underlying156
  a35 := Tryz.isAgg156
  z35 := Tryz.sizeOf156
  v35 := Tryz.zeroValue156
  t36 := Tryz.underlying157
  a36 := Tryz.isAgg157
  z36 := Tryz.sizeOf157
  v36 := Tryz.zeroValue157
  t41 := Tryz.underlying51
  a41 := Tryz.isAgg51
  z41 := Tryz.sizeOf51
  v41 := Tryz.zeroValue51
  t44 := Tryz.underlying163
  a44 := Tryz.isAgg163
  z44 := Tryz.sizeOf163
  v44 := Tryz.zeroValue163
  t46 := Tryz.underlying165
  a46 := Tryz.isAgg165
  z46 := Tryz.sizeOf165
  v46 := Tryz.zeroValue165
  t53 := Tryz.underlying170
  a53 := Tryz.isAgg170
  z53 := Tryz.sizeOf170
  v53 := Tryz.zeroValue170
  t57 := Tryz.underlying174
  a57 := Tryz.isAgg174
  z57 := Tryz.sizeOf174
  v57 := Tryz.zeroValue174
  t63 := Tryz.underlying182
  a63 := Tryz.isAgg182
  z63 := Tryz.sizeOf182
  v63 := Tryz.zeroValue182
  t64 := Tryz.underlying183
  a64 := Tryz.isAgg183
  z64 := Tryz.sizeOf183
  v64 := Tryz.zeroValue183 }
end Go.Proofs
/- The contract of Progress: all runs in progress, rising. -/
namespace Go.Proofs.YtpihhlllembdeaaGreat
open Go.RowKit Go.Maps Go.ChangeMaps Go.Sort Go.Shelf
set_option linter.unusedVariables false
set_option linter.unusedSimpArgs false
theorem sortsP (m : Nat) : AnyZI.SortsIn Tryz.prog Tryz.sortedA_ren Fence.wide m :=
  ⟨fun blk off cap ss W hH hblk hsz => callsIn_wide.2 (AnyM.slices_Sort_int Tryz.sortA blk off cap ss W hH hblk hsz),
   fun p cap W => callsIn_wide.2 (AnyM.slices_Sort_int_none Tryz.sortA p cap W)⟩
set_option maxHeartbeats 2000000 in
theorem progRaw (w : World) (t p nn : Nat) (D0 : DataW Value) (hown : w.ownsMap Tryz.prog 3 HR p nn D0) (c2 : w.cell? ⟨t, 2, none⟩ = some (.map (some p))) (hmax : Maps.size D0 ≤ maxLen) (hbytes : Maps.size D0 * 8 ≤ 140737488355328) :
    Calls Tryz.prog 36 #[.pointer (some ⟨t, 0, none⟩)] w fun e w' => ∃ (v : Value) (ss : List Int), e = .returned v ∧ ss.Perm (intKeys D0) ∧ w'.ownsRow w.heap.size 3 1 v ss.length ((ss.mergeSort (fun x y => decide (x ≤ y))).map encZ) ∧ Below w.heap.size w w' := by
  refine (callsIn_wide (n := 6)).1 ?_
  have hbl := hown.lt
  have hseq : SeqGives Fence.wide 2 Tryz.prog 82 #[.pointer (some ⟨w.heap.size, 0, none⟩)] encZ (fun ss => ss.Perm (intKeys D0)) (Maps.size D0) (w.alloc (.cells #[.map (some p)] 45)) :=
    AnyZI.keys_gives (ρ := Tryz.keysA_ren) { Tryz.keysA with } Fence.wide _ trivial rfl (by omega) w.heap.size p nn D0 _ (by simp) (by simp) (by
      obtain ⟨es, clock, hb, Ft, hs, hD⟩ := hown
      exact ⟨es, clock, (Below.heap_alloc _ _ p hbl).trans hb, Ft, hs, hD⟩)
  have cK : ∀ mb W, CallsIn Fence.wide 5 Tryz.prog 64 #[.map mb] W fun e w' => e = .returned (.func (.func 82) #[] #[.pointer (some ⟨W.heap.size, 0, none⟩)]) ∧ w' = W.alloc (.cells #[.map mb] 45) := fun mb W => AnyZI.keys_in Tryz.keysA Fence.wide 5 trivial rfl mb W
  have cS := AnyZI.sorted_in Tryz.sortedA Fence.wide 5 trivial trivial trivial trivial rfl (by omega) (sortsP _) (enters_of Tryz.func81 (by kernel_rfl) rfl) 82 #[.pointer (some ⟨w.heap.size, 0, none⟩)] trivial (enters_of Tryz.func82 (by kernel_rfl) rfl) _ _ hmax hbytes _ hseq
  change CallsIn _ _ Tryz.prog 63 _ _ _ at cS
  have hfK : Fence.wide.fn 64 := trivial
  have hfS : Fence.wide.fn 63 := trivial
  refine callsIn_of_wp Tryz.func36 rfl trivial ?_ rfl
  simp only [Tryz.ntmps36, List.size_toArray, List.length_cons, List.length_nil, Nat.reduceAdd, Nat.reduceSub, Array.replicate_succ, Array.replicate_zero, List.push_toArray, List.append_toArray, List.nil_append, List.cons_append]
  gi_wp2_with (first
    | (gi_at_call 64; refine (cK _ _).mono ?_; rintro e w' ⟨rfl, rfl⟩)
    | (gi_at_call 63; refine cS.mono ?_; rintro e w' ⟨v, ss, rfl, hS, hrow, hnil, hb⟩))
  go_ret
  exact ⟨v, ss, rfl, hS, ownsRow_base_a hrow (by simp), ((Below.refl _ w).alloc (Nat.le_refl _) _).trans (hb.mono (by simp))⟩
def runsOf (T : Tb) : List Int := T.rs.map (fun p => p.1.run)
theorem runs_sorted {T : Tb} {N : Nat} (h : Ti T N) : (runsOf T).Pairwise (fun a b => a < b) := List.pairwise_map.2 h.ord
section
variable {w : World} {t p c : Nat} {g : Option Nat} {nc ng : Nat} {Ps : List Rb} {T : Tb} {N : Nat}
theorem ptr_has (h : Tm w t p c g nc ng Ps T N) (n : Int) : (ptr Ps n).isSome = decide (n ∈ runsOf T) := by
  unfold runsOf
  rw [h.rs, rsOf, List.map_map]
  unfold ptr
  rw [Option.isSome_map, Bool.eq_iff_iff, List.find?_isSome]
  simp only [decide_eq_true_eq, List.mem_map, Function.comp]
theorem tProg (h : Tm w t p c g nc ng Ps T N) (hN : N ≤ 3000000000000) : Calls Tryz.prog 36 #[PT t] w fun e w' => WtE e w w' (runsOf T) := by
  have c2 := h.cs.c2
  have hh := ptr_has h
  have hR : (runsOf T).length ≤ 4096 := by
    have := h.iv.len
    have := h.iv.fl
    unfold runsOf
    rw [List.length_map]
    omega
  have hs := runs_sorted h.iv
  have hw : ∀ x ∈ runsOf T, W64 x := fun x hx => by
    obtain ⟨q, hq, rfl⟩ := List.mem_map.1 hx
    have h1 := h.iv.rng q hq
    have h2 := h.iv.bg.2
    exact W64.mk (by omega) (by omega)
  have hl : Ps.length = (runsOf T).length := by unfold runsOf; rw [h.rs]; simp [rsOf]
  obtain ⟨D, hown, hsz, hD⟩ := h.pm
  obtain ⟨es, hes, hp, hkl⟩ := hown.entries keyed3
  have hmem : ∀ q ∈ es, ∃ x, W64 x ∧ q.1 = .int .i64 x := fun q hq => by
    have hq' : Maps.has D q.1 = true := by
      rw [hes, Maps.has_eq]
      exact List.any_eq_true.2 ⟨q, hq, WideAt.sameKey_self (hkl q hq)⟩
    obtain ⟨k, hk, e⟩ := hD.dom _ hq'
    exact ⟨k, hk, e⟩
  have hhas : ∀ x, x ∈ runsOf T ↔ Maps.has D (.int .i64 x) = true := fun x => by
    constructor
    · intro hx
      have := (hD.at_ x (hw x hx)).1
      rw [show (KI : KK Tryz.prog 3 Int).lit x = .int .i64 x from rfl] at this
      rw [this, hh]
      simp [hx]
    · intro hx
      obtain ⟨k, hk, e⟩ := hD.dom _ hx
      have e' : x = k := by
        rw [show (KI : KK Tryz.prog 3 Int).lit k = .int .i64 k from rfl] at e
        injection e
      subst e'
      have := (hD.at_ x hk).1
      rw [show (KI : KK Tryz.prog 3 Int).lit x = .int .i64 x from rfl, hx, hh] at this
      simpa using this.symm
  have hperm : (runsOf T).Perm (intKeys D) := by
    rw [hes]
    exact perm_intKeys hp (fun q hq => by obtain ⟨x, _, e⟩ := hmem q hq; exact ⟨x, e⟩) (hs.imp (fun {a b} hab => by omega)) (fun x => by rw [← hes]; exact hhas x)
  refine (progRaw w t p _ D hown c2 (by rw [hsz, hl]; unfold maxLen; omega) (by rw [hsz, hl]; omega)).mono ?_
  rintro e w' ⟨v, ss, rfl, h1, h2, h3⟩
  have e1 : ss.mergeSort leI = (runsOf T).mergeSort leI := mergeSort_of_perm_i (h1.trans hperm.symm)
  have e2 : (runsOf T).mergeSort leI = runsOf T := List.mergeSort_of_pairwise (hs.imp (fun {a b} hab => by simp only [leI, decide_eq_true_eq]; omega))
  have e3 : ss.length = (runsOf T).length := (h1.trans hperm.symm).length_eq
  rw [show (fun x y : Int => decide (x ≤ y)) = leI from rfl, e1, e2, e3] at h2
  exact ⟨v, rfl, Rd.of_own (own_base h2 (Nat.zero_le _)), fun b hb => (h2.lt b hb).1, Touch.of_below h3⟩
end
theorem progT (w : World) (t : Nat) (F : List Nat) (T : Tb) (N : Nat) (h : Tq w t F T N) (hN : N ≤ 3000000000000) : Calls Tryz.prog 36 #[PT t] w fun e w' => WtE e w w' (runsOf T) := by
  obtain ⟨p, c, g, nc, ng, Ps, rfl, h, hL⟩ := h
  exact tProg h hN
end Go.Proofs.YtpihhlllembdeaaGreat
/- The contract of Currents: the current runs in the order of their keys. -/
namespace Go.Proofs.YtpihhlllembdeaaGreat
open Go.RowKit Go.Maps Go.ChangeMaps
set_option linter.unusedVariables false
set_option linter.unusedSimpArgs false
def curs (T : Tb) : List Rn := (T.rs.filter (fun p => isCur T p.1)).map (·.1)
theorem curs_mem {T : Tb} {M : Nat} (h : Ti T M) (R : Rn) : R ∈ curs T ↔ curOf T (kOf R) = some R := by
  unfold curs
  constructor
  · intro hR
    obtain ⟨p, hp, rfl⟩ := List.mem_map.1 hR
    obtain ⟨h1, h2⟩ := List.mem_filter.1 hp
    exact (curOf_of_mem h h1).2 h2
  · intro hR
    obtain ⟨⟨S, hS⟩, _, h3⟩ := curOf_some hR
    exact List.mem_map.2 ⟨(R, S), List.mem_filter.2 ⟨hS, by simp [isCur, h3]⟩, rfl⟩
theorem curs_nodup {T : Tb} {M : Nat} (h : Ti T M) : (curs T).Nodup := by
  unfold curs
  rw [List.Nodup, List.pairwise_map]
  exact (h.ord.sublist List.filter_sublist).imp (fun {a b} hab e => by rw [e] at hab; exact absurd hab (Int.lt_irrefl _))
theorem infoRun : (Tryz.prog.info? 80).map (fun i => (i.zero, i.size, i.bytes)) = some (some (.agg #[.int .i64 0, .int .u16 0, .string ⟨#[]⟩, .int .i64 0, .bool false]), 5, 48) := by kernel_rfl
def zRun : Array Value := #[.int .i64 0, .int .u16 0, .string ⟨#[]⟩, .int .i64 0, .bool false]
theorem mkRun (w : World) (n : Nat) (h : n ≤ 2000000000000) : (Instr.makeSlice 90 (.int .i64 0) (.int .i64 (n : Int))).run Tryz.prog w = .ok (.slice (some ⟨w.heap.size, 0, none⟩) 0 n) (w.alloc (.cells (madeCells zRun (n * 5)) 80)) := by
  obtain ⟨i3, hi3, hz0, hz1, hz2⟩ := info_parts infoRun
  have := run_make (P := Tryz.prog) w 90 80 i3 _ Tryz.underlying90 hi3 hz0 .i64 .i64 0 (n : Int) (Int.le_refl _) (by omega) (by rw [hz2]; omega) (by omega)
  rw [hz1] at this
  simpa [Value.cells, zRun] using this
theorem mkRun_own (w : World) (n : Nat) (h : n ≤ 2000000000000) : (w.alloc (.cells (madeCells zRun (n * 5)) 80)).ownsRow w.heap.size 80 5 (.slice (some ⟨w.heap.size, 0, none⟩) 0 n) 0 [] :=
  World.ownsRow_made w _ _ (Nat.le_refl _) (by unfold maxLen; omega) (by rw [size_madeCells])
/-- What has been gathered, by what is still to come. -/
def Gat (T : Tb) (left : K → Prop) (L : List Rn) : Prop := L.Nodup ∧ ∀ R, R ∈ L ↔ (curOf T (kOf R) = some R ∧ ¬ left (kOf R))
theorem Gat.step {T : Tb} {left : K → Prop} {L : List Rn} {R : Rn} (h : Gat T left L) (hR : curOf T (kOf R) = some R) (hl : left (kOf R)) : Gat T (fun j => left j ∧ j ≠ kOf R) (L ++ [R]) := by
  obtain ⟨h1, h2⟩ := h
  have hn : ¬ R ∈ L := fun e => ((h2 R).1 e).2 hl
  refine ⟨List.nodup_append.2 ⟨h1, by simp, fun a ha b hb e => ?_⟩, fun Q => ?_⟩
  · simp only [List.mem_singleton] at hb
    subst hb e
    exact hn ha
  · rw [List.mem_append, h2 Q, List.mem_singleton]
    constructor
    · rintro (⟨q1, q2⟩ | rfl)
      · exact ⟨q1, fun e => q2 e.1⟩
      · exact ⟨hR, fun e => e.2 rfl⟩
    · rintro ⟨q1, q2⟩
      by_cases e : kOf Q = kOf R
      · right
        rw [e, hR] at q1
        exact (Option.some.inj q1).symm
      · exact Or.inl ⟨q1, fun e' => q2 ⟨e', e⟩⟩
theorem Gat.done {T : Tb} {left : K → Prop} {L : List Rn} {M : Nat} (hT : Ti T M) (h : Gat T left L) (hl : ∀ k, ¬ left k) : L.Perm (curs T) :=
  (List.perm_ext_iff_of_nodup h.1 (curs_nodup hT)).2 (fun R => by rw [h.2 R, curs_mem hT R]; exact ⟨fun e => e.1, fun e => ⟨e, hl _⟩⟩)
theorem RgK.keep0' {P : Program} {kt : TypeId} {K : Type} {c : KK P kt K} {w w' : World} {b r n cnt : Nat} {f : K → Option Value} {left : K → Prop} (h : RgK c w b r n f left cnt) (T : Touch [] w w') : RgK c w' b r n f left cnt := h.keep T (by simp) (by simp)
def CuE (e : Ending) (w w' : World) (T : Tb) : Prop := ∃ (L : List Rn) (v : Value), e = .returned v ∧ w'.ownsRow w.heap.size 80 5 v L.length (L.flatMap row5) ∧ L.Perm (curs T) ∧ L.Pairwise leR ∧ Touch [] w w'
section
variable {w : World} {t p c : Nat} {g : Option Nat} {nc ng : Nat} {Ps : List Rb} {T : Tb} {N : Nat}
set_option maxHeartbeats 4000000 in
set_option maxRecDepth 100000 in
theorem tCurrents (h : Tm w t p c g nc ng Ps T N) (hN : N ≤ 1700000000000) : Calls Tryz.prog 33 #[PT t] w fun e w' => CuE e w w' T := by
  have hlc := h.lc
  have hnc : nc ≤ 1700000000000 := Nat.le_trans hlc hN
  have HLen := hid (fun ty => h.cm.len (t := 46) Tryz.underlying46 ty)
  have hmk := mkRun w nc (by omega)
  have c3 := h.cs.c3
  have htl : t < w.heap.size := block_lt h.bl
  obtain ⟨W1, hW1⟩ : ∃ W, W = w.alloc (.cells (madeCells zRun (nc * 5)) 80) := ⟨_, rfl⟩
  have T1 : Touch [] w W1 := by rw [hW1]; exact (Touch.refl _ _).alloc _
  have HO1 : Hid (W1.ownsRow w.heap.size 80 5 (.slice (some ⟨w.heap.size, 0, none⟩) 0 nc) 0 []) := hid (by rw [hW1]; exact mkRun_own w nc (by omega))
  rw [← hW1] at hmk
  have c3' := (h.keep0 T1).cs.c3
  obtain ⟨W2, hrun, hrg, T2, hsz⟩ := (h.keep0 T1).cm.range (t := 46) (e := 3) Tryz.underlying46
  have hs1 : W1.heap.size = w.heap.size + 1 := by rw [hW1]; simp
  have HRg := hid hrg
  have HT2 := hid (T1.trans' T2)
  have HO2 := hid (own_touch HO1.out T2 (fun _ _ e => by cases e))
  have hcl : c < w.heap.size := h.cm.lt
  have HG0 : Hid (Gat T (fun k => KC.ok k ∧ (curV T k).isSome = true) []) := hid ⟨List.nodup_nil, fun R => ⟨fun e => by simp at e, fun e => absurd (by
    obtain ⟨⟨S, hS⟩, _⟩ := curOf_some e.1
    exact ⟨h.iv.ok _ hS, by simp [curV, e.1]⟩) e.2⟩⟩
  have HL : Hid (∀ w', Touch [] w w' → ∀ k v, curV T k = some v → ∃ R b, v = .int .i64 R.run ∧ curOf T k = some R ∧ kOf R = k ∧ w'.cell? ⟨t, 2, none⟩ = some (.map (some p)) ∧ (Instr.lookup 45 (.map (some p)) (.int .i64 R.run) false).run Tryz.prog w' = .ok (PT b) w' ∧ Calls Tryz.prog 46 #[PT b] w' fun e w2 => e = .returned (rv R) ∧ Touch [] w' w2) := hid (fun w' X k v hv => by
    unfold curV at hv
    obtain ⟨R, hR, rfl⟩ := Option.map_eq_some_iff.1 hv
    obtain ⟨⟨S, hS⟩, hk, _⟩ := curOf_some hR
    obtain ⟨A, q, B, rfl, e2, e3, e4⟩ := h.found (runOf_of_mem h.iv hS)
    have e5 : q.R = R := by cases e2; rfl
    subst e5
    have hw : W64 q.R.run := h.w64 (by omega)
    have hl := (h.keep0 X).pm.look (t := 45) (e := 97) Tryz.underlying45 (Tryz.zeroValue97 w') (k := q.R.run) hw
    rw [ptr_mid e4] at hl
    exact ⟨q.R, q.b, rfl, hR, hk, (h.keep0 X).cs.c2, hl, run8 w' q.b N q.F q.R q.S ((h.recs q (by simp)).keep0 X)⟩)
  have HE : Hid (∀ (L : List Rn) (v : Value) (w' : World), w'.ownsRow w.heap.size 80 5 v L.length (L.flatMap row5) → L.Perm (curs T) → L.Pairwise leR → Touch [] w w' → CuE (.returned v) w w' T) := hid (fun L v w' a1 a2 a3 a4 => ⟨L, v, rfl, a1, a2, a3, a4⟩)
  have HD : Hid (∀ (left : K → Prop) (L : List Rn), Gat T left L → (∀ k, ¬ left k) → L.Perm (curs T)) := hid (fun left L a b => a.done h.iv b)
  have hl1 := HLen.out
  clear h HLen hW1
  unfold PT rv at *
  generalize hQ : CuE = Q at *
  clear hQ
  go_enter Tryz.func33, Tryz.ntmps33
  go_upto_region 4 with fail
  clear hl1 hmk c3 HO1 T1 T2 hrg
  go_wp2_with fail
  rw [hs1] at HRg hsz
  clear hs1 hrun c3'
  generalize hrr : w.heap.size + 1 = r at *
  go_loopw [3] (fun v wr => ∃ (L : List Rn) (gb cap cnt : Nat) (left : K → Prop), v = .slice (some ⟨gb, 0, none⟩) L.length cap ∧ w.heap.size ≤ gb ∧ gb ≠ r ∧ r < wr.heap.size ∧ Hid (wr.ownsRow w.heap.size 80 5 (.slice (some ⟨gb, 0, none⟩) L.length cap) L.length (L.flatMap row5)) ∧ Hid (RgK KC wr c r nc (curV T) left cnt) ∧ Hid (Gat T left L) ∧ L.length + cnt ≤ nc ∧ Hid (Touch [] w wr)) (fun _ wr => wr.rangeLeft c r)
  case atStart => exact ⟨[], w.heap.size, nc, nc, _, rfl, Nat.le_refl _, by omega, by omega, HO2, HRg, HG0, by simp, HT2⟩
  case round =>
    obtain ⟨L, gb, cap, cnt, left, rfl, hgb, hgr, hrl, HO, HR, HG, hcn, HT⟩ := hrel
    rcases HR.out.next 0 with ⟨hc0, hl0, hnx⟩ | ⟨k, v, w1, cnt1, hok, hlk, hfk, hnx, hrg1, hlt, t1, hs1, hen⟩
    · have HP := hid (HD.out _ _ HG.out hl0)
      have iR : Inhabited Rn := ⟨⟨0, 0, ⟨#[]⟩, 0, false⟩⟩
      have HS := hid (sortR wr w.heap.size gb cap L HO.out (by omega))
      clear HR HG HL HG0 HD HRg HO2
      generalize hln : L.length = ln at *
      go_wp2_with (go_at_call 59; refine HS.out.mono ?_; rintro e w2 ⟨S, rfl, s1, s2, s3, s4⟩)
      have e1 : S.length = ln := s1.length_eq.trans hln
      rw [e1] at s3
      exact HE.out S _ _ (by rw [e1]; exact s3) (s1.trans HP.out) s2 (HT.out.trans s4 (fun b hb => Or.inr (by simp at hb; omega)))
    · have tw1 : Touch [] w w1 := HT.out.trans t1 (fun b hb => Or.inr (by simp at hb; omega))
      obtain ⟨R, b, rfl, hR, rfl, hc2, hlook, hcall⟩ := HL.out w1 tw1 k v hfk
      have HC := hid hcall
      have HW1 := hid tw1
      have HX1 := hid t1
      have HR1 := hid hrg1
      have HG1 := hid (HG.out.step hR hlk)
      have HO1 := hid (own_touch HO.out t1 (fun q hq e => by simp [Value.ownBlock] at hq; simp at e; omega))
      clear hcall tw1 t1 hrg1 hlk hfk hR HL HG HO HD HE HG0 HRg HO2
      go_wp2_with (first | (go_at_call 46; refine HC.out.mono ?_; rintro e w2 ⟨rfl, t2⟩; have HO3 := hid (own_touch HO1.out (t2.alloc (.cells #[.int .i64 R.run, .int .u16 R.sp, .string R.nm, .int .i64 R.gen, .bool R.rf] 80)) (fun _ _ e => by cases e)); have HN : Hid (Rs 80 5 (w2.alloc (.cells #[.int .i64 R.run, .int .u16 R.sp, .string R.nm, .int .i64 R.gen, .bool R.rf] 80)) (.slice (some ⟨w2.heap.size, 0, none⟩) 1 1) 1 (row5 R)) := hid (Rs.new w2 #[.int .i64 R.run, .int .u16 R.sp, .string R.nm, .int .i64 R.gen, .bool R.rf] 80 5 rfl); have HT3 := hid (t2.alloc (.cells #[.int .i64 R.run, .int .u16 R.sp, .string R.nm, .int .i64 R.gen, .bool R.rf] 80)); have hz2 := t2.size; clear t2) | (at_builtin; refine wpList_append_rs rfl _ _ 90 80 rfl _ 5 48 infoRun Tryz.underlying90 rfl (by decide) w.heap.size (.slice (some ⟨gb, 0, none⟩) L.length cap) L.length (L.flatMap row5) rfl HO3.out _ 1 (row5 R) rfl HN.out (by simp [row5, Value.oneCell']) (by unfold maxLen; omega) (by omega) (by simp; omega) ?_; intro v5 w5 o5 g5 p5; obtain ⟨gq, cq, e5, hq1, hq2⟩ := own_some o5 (by omega); subst e5; have O5 := hid o5; have G5 := hid g5; have P5 := hid p5; clear o5 g5 p5))
      go_roundw
      case rel =>
        have T5 : Touch [gb] _ w5 := (Touch.refl [gb] _).grown G5.out (fun q hq => Or.inl (by simp [Value.ownBlock] at hq; simp; omega))
        have hne : gq ≠ r := by
          rcases P5.out with e | e
          · simp [Value.ownBlock] at e; omega
          · simp [Value.ownBlock] at e; omega
        refine ⟨L ++ [R], gq, cq, cnt1, _, by simp, hq1, hne, by have := T5.size; simp at this; omega, ?_, hid (((HR1.out.keep0' HT3.out)).keep T5 (by simp; omega) (by simp; omega)), HG1, by simp; omega, hid ((HW1.out.trans' HT3.out).trans T5 (fun b hb => Or.inr (by simp at hb; omega)))⟩
        have := O5.out
        refine hid ?_
        rw [List.flatMap_append, List.length_append, List.flatMap_cons, List.flatMap_nil, List.append_nil]
        exact this
      case measure =>
        have T5 : Touch [gb] _ w5 := (Touch.refl [gb] _).grown G5.out (fun q hq => Or.inl (by simp [Value.ownBlock] at hq; simp; omega))
        rw [(((HR1.out.keep0' HT3.out)).keep T5 (by simp; omega) (by simp; omega)).count, HR.out.count]
        exact hlt
theorem currentsT (w : World) (t : Nat) (F : List Nat) (T : Tb) (N : Nat) (h : Tq w t F T N) (hN : N ≤ 1700000000000) : Calls Tryz.prog 33 #[PT t] w fun e w' => CuE e w w' T := by
  obtain ⟨p, c, g, nc, ng, Ps, rfl, h, hL⟩ := h
  exact tCurrents h hN
end
end Go.Proofs.YtpihhlllembdeaaGreat
/- The document's sorted list of keys: it is in order and holds the same keys; the list's bytes are within the form's reach. -/
namespace Go.Proofs.YtpihhlllembdeaaGreat
open Go.RowKit Go.Sort Go.Maps Go.ChangeMaps
set_option linter.unusedVariables false
theorem Gr.below {w w' : World} (h : Gr w w') : Below w.heap.size w w' := by
  obtain ⟨q, os, rfl⟩ := h
  exact ⟨rfl, rfl, rfl, by rw [size_grow]; exact Nat.le_add_right _ _, fun k hk => heap_grow_old _ _ hk⟩
theorem Gr.cell {w w' : World} (hg : Gr w w') {a : Addr} {v : Value} (h : w.cell? a = some v) (hb : a.block < w.heap.size) : w'.cell? a = some v := by
  rw [hg.below.cell hb]; exact h
theorem Gr.size {w w' : World} (hg : Gr w w') : w.heap.size ≤ w'.heap.size := hg.below.size
theorem gr_grow (w : World) (n : Nat) (os : Array Obj) : Gr w (grow (w.drewN n) os) := ⟨n, os, rfl⟩

structure Row (w : World) (b off : Nat) (xs : List K) : Prop where
  lt : b < w.heap.size
  at0 : ∀ i (h : i < xs.length), w.cell? ⟨b, off + i * 2, none⟩ = some (.int .u16 xs[i].1)
  at1 : ∀ i (h : i < xs.length), w.cell? ⟨b, off + i * 2 + 1, none⟩ = some (.string xs[i].2)
theorem Row.below {w w' : World} {b off : Nat} {xs : List K} (h : Row w b off xs) (hb : Below w.heap.size w w') : Row w' b off xs :=
  ⟨Nat.lt_of_lt_of_le h.lt hb.size, fun i hi => by rw [hb.cell (by exact h.lt)]; exact h.at0 i hi, fun i hi => by rw [hb.cell (by exact h.lt)]; exact h.at1 i hi⟩
def Sl (w : World) (v : Value) (xs : List K) : Prop := (xs = [] ∧ ∃ a cap, v = .slice a 0 cap) ∨ ∃ b off cap, v = .slice (some ⟨b, off, none⟩) xs.length cap ∧ Row w b off xs
theorem Sl.below {w w' : World} {v : Value} {xs : List K} (h : Sl w v xs) (hb : Below w.heap.size w w') : Sl w' v xs := by
  rcases h with h | ⟨b, off, cap, hv, hr⟩
  · exact Or.inl h
  · exact Or.inr ⟨b, off, cap, hv, hr.below hb⟩
theorem Sl.gr {w w' : World} {v : Value} {xs : List K} (h : Sl w v xs) (hg : Gr w w') : Sl w' v xs := h.below hg.below

def cellK2 (xs : List K) : List Value := xs.flatMap fun x => [.int .u16 x.1, .string x.2]
theorem cellK2_app (xs ys : List K) : cellK2 (xs ++ ys) = cellK2 xs ++ cellK2 ys := by unfold cellK2; simp
theorem cellK2_one (x : K) : cellK2 [x] = [.int .u16 x.1, .string x.2] := rfl
theorem cellK2_len (xs : List K) : (cellK2 xs).length = xs.length * 2 := by
  induction xs with
  | nil => rfl
  | cons x xs ih => rw [show x :: xs = [x] ++ xs from rfl, cellK2_app, List.length_append, ih, cellK2_one]; simp; omega
theorem cellK2_at0 : ∀ (xs : List K) (i : Nat) (h : i < xs.length), (cellK2 xs)[i * 2]? = some (.int .u16 xs[i].1)
  | x :: xs, 0, _ => rfl
  | x :: xs, i + 1, h => by
    rw [show (i + 1) * 2 = i * 2 + 1 + 1 by omega]
    exact cellK2_at0 xs i (by simpa using h)
theorem cellK2_at1 : ∀ (xs : List K) (i : Nat) (h : i < xs.length), (cellK2 xs)[i * 2 + 1]? = some (.string xs[i].2)
  | x :: xs, 0, _ => rfl
  | x :: xs, i + 1, h => by
    rw [show (i + 1) * 2 + 1 = i * 2 + 1 + 1 + 1 by omega]
    exact cellK2_at1 xs i (by simpa using h)
theorem owns_below {w w' : World} {base e size n : Nat} {v : Value} {xs : List Value} (h : w.ownsRow base e size v n xs) (hb : Below w.heap.size w w') : w'.ownsRow base e size v n xs := by
  obtain ⟨h1, h2⟩ := h
  refine ⟨h1, ?_⟩
  rcases h2 with h2 | ⟨g, cap, cur, hv, hg, hc, r⟩
  · exact Or.inl h2
  · refine Or.inr ⟨g, cap, cur, hv, hg, ?_, r⟩
    rw [hb.block g (by
      rcases Nat.lt_or_ge g w.heap.size with h | h
      · exact h
      · rw [Array.getElem?_eq_none h] at hc; cases hc)]
    exact hc
theorem owns_row {w : World} {base e g cap : Nat} {xs : List K} (h : w.ownsRow base e 2 (.slice (some ⟨g, 0, none⟩) xs.length cap) xs.length (cellK2 xs)) : Row w g 0 xs := by
  obtain ⟨h1, h2 | ⟨g', cap', cur, hv, hg, hc, hn, hm, hs, ht⟩⟩ := h
  · cases h2.1
  · simp only [Value.slice.injEq, Option.some.injEq, Addr.mk.injEq, and_true, true_and] at hv
    obtain ⟨rfl, rfl⟩ := hv
    have hlt : g < w.heap.size := by
      rcases Nat.lt_or_ge g w.heap.size with h | h
      · exact h
      · rw [Array.getElem?_eq_none h] at hc; cases hc
    have hcell : ∀ j, w.cell? ⟨g, j, none⟩ = cur[j]? := fun j => by simp [World.cell?, hc]
    have hj : ∀ j, j < xs.length * 2 → cur[j]? = (cellK2 xs)[j]? := fun j hj => by
      rw [← ht, List.getElem?_take_of_lt hj, Array.getElem?_toList]
    refine ⟨hlt, fun i hi => ?_, fun i hi => ?_⟩
    · rw [hcell, Nat.zero_add, hj _ (by omega), cellK2_at0 xs i hi]
    · rw [hcell, Nat.zero_add, hj _ (by omega), cellK2_at1 xs i hi]
theorem owns_base {w : World} {base e size g k c n : Nat} {xs : List Value} (h : w.ownsRow base e size (.slice (some ⟨g, 0, none⟩) k c) n xs) : base ≤ g := by
  obtain ⟨_, h2 | ⟨g', _, _, hv, hg, _⟩⟩ := h
  · cases h2.1
  · simp only [Value.slice.injEq, Option.some.injEq, Addr.mk.injEq, and_true] at hv
    rw [hv.1]
    exact hg
theorem infoRK : (Tryz.prog.info? 68).map (fun i => (i.zero, i.size, i.bytes)) = some (some (.agg #[.int .u16 0, .string ⟨#[]⟩]), 2, 24) := by kernel_rfl
theorem cell_two_new (w : World) (x y : Value) (t : TypeId) : ∀ j u, [x, y][j]? = some u → (w.alloc (.cells #[x, y] t)).cell? ((⟨w.heap.size, 0, none⟩ : Addr).add j) = some u := by
  intro j u hj
  match j, hj with
  | 0, hj => simp at hj; subst hj; simp [Addr.add]
  | 1, hj => simp at hj; subst hj; simp [Addr.add]

theorem cellK2_set : ∀ (L : List K) (i : Nat) (x : K), i < L.length → cellK2 (L.set i x) = ((cellK2 L).set (i * 2) (.int .u16 x.1)).set (i * 2 + 1) (.string x.2)
  | a :: L, 0, x, _ => rfl
  | a :: L, i + 1, x, h => by
    have ih := cellK2_set L i x (by simpa using h)
    rw [List.set_cons_succ, show a :: L.set i x = [a] ++ L.set i x from rfl, show a :: L = [a] ++ L from rfl, cellK2_app, cellK2_app, ih, cellK2_one]
    rw [show (i + 1) * 2 = i * 2 + 1 + 1 by omega, show i * 2 + 1 + 1 + 1 = (i * 2 + 1) + 1 + 1 by omega]
    rfl
theorem owns_block {w : World} {base e g c n : Nat} {xs : List Value} (h : w.ownsRow base e 2 (.slice (some ⟨g, 0, none⟩) n c) n xs) :
    ∃ cur, w.heap[g]? = some (.cells cur e (0, 0)) ∧ n ≤ c ∧ c ≤ maxLen ∧ cur.size = c * 2 ∧ cur.toList.take (n * 2) = xs ∧ base ≤ g ∧ xs.length = n * 2 := by
  obtain ⟨h1, h2 | ⟨g', cap', cur, hv, hg, hc, hn, hm, hs, ht⟩⟩ := h
  · cases h2.1
  · simp only [Value.slice.injEq, Option.some.injEq, Addr.mk.injEq, and_true, true_and] at hv
    obtain ⟨rfl, rfl⟩ := hv
    exact ⟨cur, hc, hn, hm, hs, ht, hg, h1⟩
theorem owns_at {w : World} {base e g c : Nat} {L : List K} (h : w.ownsRow base e 2 (.slice (some ⟨g, 0, none⟩) L.length c) L.length (cellK2 L)) (i : Nat) (hi : i < L.length) :
    w.cell? ⟨g, i * 2, none⟩ = some (.int .u16 L[i].1) ∧ w.cell? ⟨g, i * 2 + 1, none⟩ = some (.string L[i].2) ∧ w.frozen? ⟨g, i * 2, none⟩ = false ∧ w.frozen? ⟨g, i * 2 + 1, none⟩ = false := by
  have R := owns_row h
  obtain ⟨cur, hc, _⟩ := owns_block h
  have r0 := R.at0 i hi
  have r1 := R.at1 i hi
  rw [Nat.zero_add] at r0 r1
  exact ⟨r0, r1, Joins.unfrozen_of_block hc _, Joins.unfrozen_of_block hc _⟩
theorem owns_set {w : World} {base e g c : Nat} {L : List K} (h : w.ownsRow base e 2 (.slice (some ⟨g, 0, none⟩) L.length c) L.length (cellK2 L)) (i : Nat) (hi : i < L.length) (x : Int) (y : ByteArray) :
    ((w.setCell ⟨g, i * 2, none⟩ (.int .u16 x)).setCell ⟨g, i * 2 + 1, none⟩ (.string y)).ownsRow base e 2 (.slice (some ⟨g, 0, none⟩) (L.set i (x, y)).length c) (L.set i (x, y)).length (cellK2 (L.set i (x, y))) := by
  obtain ⟨cur, hc, hn, hm, hs, ht, hg, hl⟩ := owns_block h
  rw [List.length_set]
  refine ⟨by rw [cellK2_len, List.length_set], Or.inr ⟨g, c, (cur.setIfInBounds (i * 2) (.int .u16 x)).setIfInBounds (i * 2 + 1) (.string y), rfl, hg, ?_, hn, hm, by simp [hs], ?_⟩⟩
  · exact Joins.block_setCell (Joins.block_setCell hc _) _
  · rw [Array.toList_setIfInBounds, Array.toList_setIfInBounds, List.take_set, List.take_set, ht, cellK2_set L i (x, y) hi]

theorem set_far (w : World) (p a : Addr) (v : Value) (h : p.block ≠ a.block) : (w.setCell p v).cell? a = w.cell? a := World.cell?_of_block (Below.heap_setCell w p v a.block (Ne.symm h))

def Names (xs : List K) : Prop := ∀ x ∈ xs, x.2.size ≤ maxLen

set_option maxHeartbeats 4000000 in
theorem dsort__row (xs : List K) (b off cap : Nat) (w : World) (hl : xs.length * 24 ≤ 140737488351232) (hN : Names xs) (R : Row w b off xs) :
    Calls Tryz.prog 34 #[.slice (some ⟨b, off, none⟩) xs.length cap] w fun e w' => ∃ v ys, e = .returned v ∧ Sl w' v ys ∧ ys.Perm xs ∧ ys.Pairwise leK ∧ Below w.heap.size w w' := by
  obtain ⟨i0, hi, hz0, hz1, hz2'⟩ := info_parts infoRK
  have mixed : Tryz.prog.follows .mixedOrders = true := by kernel_rfl
  have HR : Hid _ := R
  have HNm : Hid _ := hN
  clear R hN
  go_enter Tryz.func34, Tryz.ntmps34
  go_wp2
  go_loopw [3, 11] (fun t i wr => ∃ (k g c : Nat) (S : List K), i = .int .i64 k ∧ k ≤ xs.length ∧ Hid (S.Perm (xs.take k) ∧ S.Pairwise leK) ∧ Hid (S.length = k) ∧ t = .slice (some ⟨g, 0, none⟩) S.length c ∧ wr.ownsRow w.heap.size 68 2 (.slice (some ⟨g, 0, none⟩) S.length c) S.length (cellK2 S) ∧ Below w.heap.size w wr) (fun _ i _ => xs.length - (intOf i).toNat)
  case atStart => exact ⟨0, w.heap.size, 0, [], rfl, Nat.zero_le _, ⟨List.Perm.refl _, List.Pairwise.nil⟩, rfl, rfl, ⟨rfl, Or.inr ⟨w.heap.size, 0, #[], rfl, Nat.le_refl _, heap_alloc_new w _, Nat.le_refl _, by unfold maxLen; omega, rfl, rfl⟩⟩, (Below.refl _ _).alloc (Nat.le_refl _) _⟩
  case round =>
    obtain ⟨k, g, c, S, rfl, hk, HS, HSl, rfl, hown, hb⟩ := hrel
    obtain ⟨wo, rfl⟩ : ∃ wo, wo = wr := ⟨_, rfl⟩
    by_cases hlt : k < xs.length
    · have hz : (k : Int) < (xs.length : Int) := by omega
      have hz' : (0 : Int) ≤ (k : Int) := by omega
      have f0 : wo.cell? ⟨b, off + k * 2, none⟩ = some (.int .u16 xs[k].1) := by rw [hb.cell (by exact HR.out.lt)]; exact HR.out.at0 k hlt
      have f1 : wo.cell? ⟨b, off + k * 2 + 1, none⟩ = some (.string xs[k].2) := by rw [hb.cell (by exact HR.out.lt)]; exact HR.out.at1 k hlt
      have HX : Hid (∀ i, (S.take i ++ (xs[k].1, xs[k].2) :: S.drop i).Perm (xs.take (k + 1))) := fun i => perm_step xs S k i hlt HS.out.1
      have hyn : Hid (xs[k].2.size ≤ maxLen) := HNm.out _ (List.getElem_mem hlt)
      have HSN : Hid (∀ j (h : j < S.length), S[j].2.size ≤ maxLen) := fun j h => HNm.out _ (List.mem_of_mem_take (HS.out.1.mem_iff.1 (List.getElem_mem h)))
      have HO : Hid _ := hown
      have HB : Hid _ := hb
      clear hown hb
      generalize xs[k].1 = x at *
      generalize xs[k].2 = y at *
      go_wp2
      obtain ⟨W1, hW1⟩ : ∃ W1, W1 = wo.alloc (.cells #[.int .u16 x, .string y] 68) := ⟨_, rfl⟩
      have B1 : Below wo.heap.size wo W1 := by rw [hW1]; exact (Below.refl _ _).alloc (Nat.le_refl _) _
      have Row1 : Hid (Row W1 g 0 S) := owns_row (owns_below HO.out B1)
      have c0 : W1.cell? ⟨wo.heap.size, 0, none⟩ = some (.int .u16 x) := by rw [hW1]; simp
      have c1 : W1.cell? ⟨wo.heap.size, 1, none⟩ = some (.string y) := by rw [hW1]; simp
      have z1 : wo.heap.size < W1.heap.size := by rw [hW1]; simp
      have C0 : Hid _ := c0
      have C1 : Hid _ := c1
      have BW : Hid (Below wo.heap.size wo W1) := B1
      rw [← hW1]
      clear hW1 B1 c0 c1 f0 f1
      go_loopw [6] (fun i wr => ∃ (j : Nat), i = .int .i64 j ∧ j ≤ S.length ∧ Hid (∀ m (h : m < S.length), j ≤ m → cmpK x y S[m].1 S[m].2 < 0) ∧ Gr W1 wr) (fun i _ => (intOf i).toNat)
      case atStart => exact ⟨S.length, rfl, Nat.le_refl _, fun m h h' => by omega, Gr.refl _⟩
      case round =>
        obtain ⟨j, rfl, hj, HJ, GW⟩ := hrel
        have d0 : ∀ n os, (grow (wr.drewN n) os).cell? ⟨wo.heap.size, 0, none⟩ = some (.int .u16 x) := fun n os => (GW.grow n os).cell C0.out (by exact z1)
        have d1 : ∀ n os, (grow (wr.drewN n) os).cell? ⟨wo.heap.size, 1, none⟩ = some (.string y) := fun n os => (GW.grow n os).cell C1.out (by exact z1)
        have HGW : Hid (Gr W1 wr) := GW
        by_cases hj0 : 0 < j
        · obtain ⟨jp, rfl⟩ : ∃ jp, j = jp + 1 := ⟨j - 1, by omega⟩
          have hjl : jp < S.length := by omega
          have hjz : (0 : Int) < (jp : Int) + 1 := by omega
          have e0 : ∀ n os, (grow (wr.drewN n) os).cell? ⟨g, jp * 2, none⟩ = some (.int .u16 S[jp].1) := fun n os => by have := (GW.grow n os).cell (Row1.out.at0 jp hjl) (by exact Row1.out.lt); rwa [Nat.zero_add] at this
          have e1 : ∀ n os, (grow (wr.drewN n) os).cell? ⟨g, jp * 2 + 1, none⟩ = some (.string S[jp].2) := fun n os => by have := (GW.grow n os).cell (Row1.out.at1 jp hjl) (by exact Row1.out.lt); rwa [Nat.zero_add] at this
          have hwp : IntKind.i64.wrap (jp : Int) = (jp : Int) := by have := HSl.out; rw [IntKind.wrap_i64]; omega
          have jz1 : (jp : Int) < (S.length : Int) := by omega
          have hyn' := HSN.out jp hjl
          have HJS : Hid (cmpK x y S[jp].1 S[jp].2 < 0 → ∀ m (h : m < S.length), jp ≤ m → cmpK x y S[m].1 S[m].2 < 0) := fun hc m h hm => by
            by_cases e : m = jp
            · subst e; exact hc
            · exact HJ.out m h (by omega)
          have HST : Hid (¬ cmpK x y S[jp].1 S[jp].2 < 0 → ∀ m (h : m < S.length), m + 1 = jp + 1 → 0 ≤ cmpK x y S[m].1 S[m].2) := fun hc m h e => by
            obtain rfl : m = jp := by omega
            omega
          have A : Hid _ := fun w => dcmp_ x S[jp].1 y S[jp].2 w hyn.out hyn'
          clear GW hyn'
          generalize hcv : cmpK x y S[jp].1 S[jp].2 = cv at *
          have HCV : Hid _ := hcv
          clear hcv
          generalize S[jp].1 = x' at *
          generalize S[jp].2 = y' at *
          by_cases hc : cv < 0
          · go_wp2_with fail
            go_quiet_grown (first | (go_at_call 62; refine Calls.grown_of (A.out _)))
            go_wp2
            go_roundw
            case rel => exact ⟨jp, by go_num, by omega, HJS.out hc, HGW.out.grow _ _⟩
            case measure => simp [intOf]
          · have HSTOP : Hid (∀ m (h : m < S.length), m + 1 = jp + 1 → 0 ≤ cmpK x y S[m].1 S[m].2) := HST.out hc
            have hcz : ¬ cv < 0 := hc
            clear HST HJS
            go_wp2_with fail
            go_quiet_grown (first | (go_at_call 62; refine Calls.grown_of (A.out _)))
            obtain ⟨V, hV⟩ : ∃ V, V = grow (wr.drewN nq) osq := ⟨_, rfl⟩
            have HV : Hid (Gr wr V) := by rw [hV]; exact gr_grow _ _ _
            rw [← hV]
            clear hV e0 e1 d0 d1 A
            obtain ⟨j, hjj⟩ : ∃ j, j = jp + 1 := ⟨_, rfl⟩
            have HSTP : Hid (∀ m (h : m < S.length), m + 1 = j → 0 ≤ cmpK x y S[m].1 S[m].2) := by subst hjj; exact HSTOP
            have hjj' : (jp : Int) + 1 = (j : Int) := by omega
            have hcd : decide (cv < 0) = false := decide_eq_false (by omega)
            simp only [hjj', hcd]
            rw [← hjj] at hj HJ
            clear HSTOP hwp jz1 hc hcz hcd hjz HCV hjl hj0 hjj hjj'
            have GV : Gr W1 V := HGW.out.trans HV.out
            have BB : Below wo.heap.size wo V := BW.out.trans (GV.below.mono (by omega))
            have hown2 := owns_below HO.out BB
            have hbw : Below w.heap.size w V := HB.out.trans (BB.mono HB.out.size)
            have hsz := hbw.size
            have hz2 := GV.size
            have D0 : Hid (V.cell? ⟨wo.heap.size, 0, none⟩ = some (.int .u16 x)) := GV.cell C0.out (by exact z1)
            have D1 : Hid (V.cell? ⟨wo.heap.size, 1, none⟩ = some (.string y)) := GV.cell C1.out (by exact z1)
            have HC : Hid (cellK2 (S.take S.length ++ (0, ⟨#[]⟩) :: S.drop S.length) = cellK2 S ++ [.int .u16 0, .string ⟨#[]⟩]) := by show _ = _; rw [List.take_length, List.drop_length, cellK2_app, cellK2_one]
            have hgo : g < wo.heap.size := by
              have := owns_row HO.out
              exact this.lt
            have hSb : S.length * 24 ≤ 140737488351232 := by have := HSl.out; omega
            clear GV BB HV HGW
            go_wp2_with (at_builtin; refine wpList_append_lies _ rfl _ _ 76 rfl w.heap.size 68 i0 (.agg #[.int .u16 0, .string ⟨#[]⟩]) 2 24 Tryz.underlying76 hi hz0 hz1 hz2' rfl (by decide) _ _ _ rfl (hown2.alloc _) ⟨V.heap.size, 0, none⟩ 1 1 [.int .u16 0, .string ⟨#[]⟩] rfl rfl (cell_two_new _ _ _ _) (by simp [Value.oneCell']) (by decide) (by unfold maxLen; omega) (by omega) (by simp; omega) _ rfl ?_; intro g1 c1 w3 hown3 hgrow hat hlt3)
            have hne : g1 ≠ wo.heap.size := by
              rcases hat with h | h
              · have h2 : some g = some g1 := h
                cases h2
                omega
              · simp at h
                omega
            have hB3 : Below w.heap.size w w3 := (hbw.alloc hsz _).grown hgrow (by simp; omega) (fun j hj => by
              have h1 := owns_base hown2
              have h2 : some g = some j := hj
              cases h2
              exact h1)
            have E0 : Hid (w3.cell? ⟨wo.heap.size, 0, none⟩ = some (.int .u16 x)) := by
              show _ = _
              rw [World.cell?_of_block (hgrow.block wo.heap.size (by simp; omega) (fun h => by
                have h2 : some wo.heap.size = some g := h
                cases h2
                omega)), World.cell?_of_block (Below.heap_alloc V _ wo.heap.size (by omega))]
              exact D0.out
            have E1 : Hid (w3.cell? ⟨wo.heap.size, 1, none⟩ = some (.string y)) := by
              show _ = _
              rw [World.cell?_of_block (hgrow.block wo.heap.size (by simp; omega) (fun h => by
                have h2 : some wo.heap.size = some g := h
                cases h2
                omega)), World.cell?_of_block (Below.heap_alloc V _ wo.heap.size (by omega))]
              exact D1.out
            have O3 : Hid (w3.ownsRow w.heap.size 68 2 (.slice (some ⟨g1, 0, none⟩) (S.length + 1) c1) (S.length + 1) (cellK2 (S.take S.length ++ (0, ⟨#[]⟩) :: S.drop S.length))) := by
              show World.ownsRow _ _ _ _ _ _ _
              rw [HC.out]
              exact hown3
            have HB3 : Hid _ := hB3
            clear hat hgrow D0 D1 hown3 hown2 hbw hsz hB3 HC hz2
            go_wp2_with fail
            go_loopw [7] (fun i wr => ∃ (m : Nat) (z : K), i = .int .i64 m ∧ j ≤ m ∧ m ≤ S.length ∧ Hid (wr.ownsRow w.heap.size 68 2 (.slice (some ⟨g1, 0, none⟩) (S.length + 1) c1) (S.length + 1) (cellK2 (S.take m ++ z :: S.drop m))) ∧ Hid (Below w.heap.size w wr) ∧ Hid (wr.cell? ⟨wo.heap.size, 0, none⟩ = some (.int .u16 x)) ∧ Hid (wr.cell? ⟨wo.heap.size, 1, none⟩ = some (.string y))) (fun i _ => (intOf i).toNat)
            case atStart => exact ⟨S.length, (0, ⟨#[]⟩), by go_num, hj, Nat.le_refl _, O3, HB3, E0, E1⟩
            case round =>
              obtain ⟨m, z, rfl, hjm, hm, HW, HBW, F0, F1⟩ := hrel
              have hgl := gap_len S m z hm
              by_cases hmj : j < m
              · obtain ⟨mp, rfl⟩ : ∃ mp, m = mp + 1 := ⟨m - 1, by omega⟩
                have hmz : (j : Int) < (mp : Int) + 1 := by omega
                have hw' := HW.out
                rw [← hgl] at hw'
                obtain ⟨r0, r1, r2, r3⟩ := owns_at hw' mp (by omega)
                obtain ⟨q0, q1, q2, q3⟩ := owns_at hw' (mp + 1) (by omega)
                have hst := owns_set hw' (mp + 1) (by omega) S[mp].1 S[mp].2
                rw [gap_at S mp z (by omega)] at r0 r1
                rw [show (S[mp].1, S[mp].2) = S[mp] from rfl, gap_step S mp z (by omega)] at hst
                have HST : Hid _ := hst
                have i1 : (mp : Int) < (S.length : Int) + 1 := by omega
                have i2 : (mp : Int) + 1 < (S.length : Int) + 1 := by omega
                have i3 : (0 : Int) ≤ (mp : Int) + 1 := by omega
                have i4 : ((mp : Int) + 1).toNat = mp + 1 := by omega
                have i5 : (0 : Int) ≤ (mp : Int) := by omega
                have hg1 : w.heap.size ≤ g1 := owns_base HW.out
                clear hst hw'
                generalize S[mp].1 = x' at *
                generalize S[mp].2 = y' at *
                go_wp2
                go_roundw
                case rel =>
                  refine ⟨mp, S[mp], by go_num, by omega, by omega, ?_, ?_, ?_, ?_⟩
                  · show World.ownsRow _ _ _ _ _ _ _
                    have h := HST.out
                    rw [gap_len S mp _ (by omega)] at h
                    exact h
                  · exact (HBW.out.setCell (by exact hg1) _).setCell (by exact hg1) _
                  · show _ = _
                    rw [set_far _ _ _ _ (by exact hne), set_far _ _ _ _ (by exact hne)]
                    exact F0.out
                  · show _ = _
                    rw [set_far _ _ _ _ (by exact hne), set_far _ _ _ _ (by exact hne)]
                    exact F1.out
                case measure => simp [intOf]
              · obtain rfl : m = j := by omega
                have hw' := HW.out
                rw [← hgl] at hw'
                obtain ⟨q0, q1, q2, q3⟩ := owns_at hw' m (by omega)
                have hst := owns_set hw' m (by omega) x y
                rw [gap_end S m z (x, y) hm] at hst
                have HST : Hid _ := hst
                have p0 := F0.out
                have p1 := F1.out
                have i2 : (m : Int) < (S.length : Int) + 1 := by omega
                have i3 : (0 : Int) ≤ (m : Int) := by omega
                have hg1 : w.heap.size ≤ g1 := owns_base HW.out
                clear hst hw'
                go_wp2
                go_roundw
                case rel =>
                  have hk1 := HSl.out
                  have hlen := gap_len S m (x, y) hm
                  refine ⟨k + 1, g1, c1, S.take m ++ (x, y) :: S.drop m, by go_num, by omega, ⟨HX.out m, ?_⟩, by show _ = _; omega, by rw [hlen], ?_, ?_⟩
                  · exact ins_sorted S m (x, y) hm HS.out.2 (fun a h ha => HJ.out a h ha) (fun h => Int.not_lt.2 (HSTP.out (m - 1) (by omega) (by omega)))
                  · exact HST.out
                  · exact (HBW.out.setCell (by exact hg1) _).setCell (by exact hg1) _
                case measure => simp [intOf]; omega
        · have HSTP : Hid (∀ m (h : m < S.length), m + 1 = j → 0 ≤ cmpK x y S[m].1 S[m].2) := fun m h e => by omega
          have hjz : decide ((j : Int) > 0) = false := decide_eq_false (by omega)
          have hjz' : ¬ (0 : Int) < (j : Int) := by omega
          clear GW
          go_wp2_with fail
          go_quiet (fail)
          obtain ⟨V, hV⟩ : ∃ V, V = wr.drewN nq := ⟨_, rfl⟩
          have HV : Hid (Gr wr V) := by rw [hV]; exact (Gr.refl _).drewN _
          rw [← hV]
          clear hV d0 d1 hjz hjz'
          have GV : Gr W1 V := HGW.out.trans HV.out
          have BB : Below wo.heap.size wo V := BW.out.trans (GV.below.mono (by omega))
          have hown2 := owns_below HO.out BB
          have hbw : Below w.heap.size w V := HB.out.trans (BB.mono HB.out.size)
          have hsz := hbw.size
          have hz2 := GV.size
          have D0 : Hid (V.cell? ⟨wo.heap.size, 0, none⟩ = some (.int .u16 x)) := GV.cell C0.out (by exact z1)
          have D1 : Hid (V.cell? ⟨wo.heap.size, 1, none⟩ = some (.string y)) := GV.cell C1.out (by exact z1)
          have HC : Hid (cellK2 (S.take S.length ++ (0, ⟨#[]⟩) :: S.drop S.length) = cellK2 S ++ [.int .u16 0, .string ⟨#[]⟩]) := by show _ = _; rw [List.take_length, List.drop_length, cellK2_app, cellK2_one]
          have hgo : g < wo.heap.size := by
            have := owns_row HO.out
            exact this.lt
          have hSb : S.length * 24 ≤ 140737488351232 := by have := HSl.out; omega
          clear GV BB HV HGW
          go_wp2_with (at_builtin; refine wpList_append_lies _ rfl _ _ 76 rfl w.heap.size 68 i0 (.agg #[.int .u16 0, .string ⟨#[]⟩]) 2 24 Tryz.underlying76 hi hz0 hz1 hz2' rfl (by decide) _ _ _ rfl (hown2.alloc _) ⟨V.heap.size, 0, none⟩ 1 1 [.int .u16 0, .string ⟨#[]⟩] rfl rfl (cell_two_new _ _ _ _) (by simp [Value.oneCell']) (by decide) (by unfold maxLen; omega) (by omega) (by simp; omega) _ rfl ?_; intro g1 c1 w3 hown3 hgrow hat hlt3)
          have hne : g1 ≠ wo.heap.size := by
            rcases hat with h | h
            · have h2 : some g = some g1 := h
              cases h2
              omega
            · simp at h
              omega
          have hB3 : Below w.heap.size w w3 := (hbw.alloc hsz _).grown hgrow (by simp; omega) (fun j hj => by
            have h1 := owns_base hown2
            have h2 : some g = some j := hj
            cases h2
            exact h1)
          have E0 : Hid (w3.cell? ⟨wo.heap.size, 0, none⟩ = some (.int .u16 x)) := by
            show _ = _
            rw [World.cell?_of_block (hgrow.block wo.heap.size (by simp; omega) (fun h => by
              have h2 : some wo.heap.size = some g := h
              cases h2
              omega)), World.cell?_of_block (Below.heap_alloc V _ wo.heap.size (by omega))]
            exact D0.out
          have E1 : Hid (w3.cell? ⟨wo.heap.size, 1, none⟩ = some (.string y)) := by
            show _ = _
            rw [World.cell?_of_block (hgrow.block wo.heap.size (by simp; omega) (fun h => by
              have h2 : some wo.heap.size = some g := h
              cases h2
              omega)), World.cell?_of_block (Below.heap_alloc V _ wo.heap.size (by omega))]
            exact D1.out
          have O3 : Hid (w3.ownsRow w.heap.size 68 2 (.slice (some ⟨g1, 0, none⟩) (S.length + 1) c1) (S.length + 1) (cellK2 (S.take S.length ++ (0, ⟨#[]⟩) :: S.drop S.length))) := by
            show World.ownsRow _ _ _ _ _ _ _
            rw [HC.out]
            exact hown3
          have HB3 : Hid _ := hB3
          clear hat hgrow D0 D1 hown3 hown2 hbw hsz hB3 HC hz2
          go_wp2_with fail
          go_loopw [7] (fun i wr => ∃ (m : Nat) (z : K), i = .int .i64 m ∧ j ≤ m ∧ m ≤ S.length ∧ Hid (wr.ownsRow w.heap.size 68 2 (.slice (some ⟨g1, 0, none⟩) (S.length + 1) c1) (S.length + 1) (cellK2 (S.take m ++ z :: S.drop m))) ∧ Hid (Below w.heap.size w wr) ∧ Hid (wr.cell? ⟨wo.heap.size, 0, none⟩ = some (.int .u16 x)) ∧ Hid (wr.cell? ⟨wo.heap.size, 1, none⟩ = some (.string y))) (fun i _ => (intOf i).toNat)
          case atStart => exact ⟨S.length, (0, ⟨#[]⟩), by go_num, hj, Nat.le_refl _, O3, HB3, E0, E1⟩
          case round =>
            obtain ⟨m, z, rfl, hjm, hm, HW, HBW, F0, F1⟩ := hrel
            have hgl := gap_len S m z hm
            by_cases hmj : j < m
            · obtain ⟨mp, rfl⟩ : ∃ mp, m = mp + 1 := ⟨m - 1, by omega⟩
              have hmz : (j : Int) < (mp : Int) + 1 := by omega
              have hw' := HW.out
              rw [← hgl] at hw'
              obtain ⟨r0, r1, r2, r3⟩ := owns_at hw' mp (by omega)
              obtain ⟨q0, q1, q2, q3⟩ := owns_at hw' (mp + 1) (by omega)
              have hst := owns_set hw' (mp + 1) (by omega) S[mp].1 S[mp].2
              rw [gap_at S mp z (by omega)] at r0 r1
              rw [show (S[mp].1, S[mp].2) = S[mp] from rfl, gap_step S mp z (by omega)] at hst
              have HST : Hid _ := hst
              have i1 : (mp : Int) < (S.length : Int) + 1 := by omega
              have i2 : (mp : Int) + 1 < (S.length : Int) + 1 := by omega
              have i3 : (0 : Int) ≤ (mp : Int) + 1 := by omega
              have i4 : ((mp : Int) + 1).toNat = mp + 1 := by omega
              have i5 : (0 : Int) ≤ (mp : Int) := by omega
              have hg1 : w.heap.size ≤ g1 := owns_base HW.out
              clear hst hw'
              generalize S[mp].1 = x' at *
              generalize S[mp].2 = y' at *
              go_wp2
              go_roundw
              case rel =>
                refine ⟨mp, S[mp], by go_num, by omega, by omega, ?_, ?_, ?_, ?_⟩
                · show World.ownsRow _ _ _ _ _ _ _
                  have h := HST.out
                  rw [gap_len S mp _ (by omega)] at h
                  exact h
                · exact (HBW.out.setCell (by exact hg1) _).setCell (by exact hg1) _
                · show _ = _
                  rw [set_far _ _ _ _ (by exact hne), set_far _ _ _ _ (by exact hne)]
                  exact F0.out
                · show _ = _
                  rw [set_far _ _ _ _ (by exact hne), set_far _ _ _ _ (by exact hne)]
                  exact F1.out
              case measure => simp [intOf]
            · obtain rfl : m = j := by omega
              have hw' := HW.out
              rw [← hgl] at hw'
              obtain ⟨q0, q1, q2, q3⟩ := owns_at hw' m (by omega)
              have hst := owns_set hw' m (by omega) x y
              rw [gap_end S m z (x, y) hm] at hst
              have HST : Hid _ := hst
              have p0 := F0.out
              have p1 := F1.out
              have i2 : (m : Int) < (S.length : Int) + 1 := by omega
              have i3 : (0 : Int) ≤ (m : Int) := by omega
              have hg1 : w.heap.size ≤ g1 := owns_base HW.out
              clear hst hw'
              go_wp2
              go_roundw
              case rel =>
                have hk1 := HSl.out
                have hlen := gap_len S m (x, y) hm
                refine ⟨k + 1, g1, c1, S.take m ++ (x, y) :: S.drop m, by go_num, by omega, ⟨HX.out m, ?_⟩, by show _ = _; omega, by rw [hlen], ?_, ?_⟩
                · exact ins_sorted S m (x, y) hm HS.out.2 (fun a h ha => HJ.out a h ha) (fun h => Int.not_lt.2 (HSTP.out (m - 1) (by omega) (by omega)))
                · exact HST.out
                · exact (HBW.out.setCell (by exact hg1) _).setCell (by exact hg1) _
              case measure => simp [intOf]; omega
    · have hz : ¬ (k : Int) < (xs.length : Int) := by omega
      obtain rfl : k = xs.length := by omega
      have hS := HS.out
      rw [List.take_length] at hS
      clear HS
      go_wp2
      go_ret
      exact ⟨_, rfl, S, Or.inr ⟨_, _, _, rfl, owns_row hown⟩, hS.1, hS.2, hb⟩
theorem dsort__nil (a : Option Addr) (cap : Nat) (w : World) :
    Calls Tryz.prog 34 #[.slice a 0 cap] w fun e w' => ∃ v ys, e = .returned v ∧ Sl w' v ys ∧ ys.Perm [] ∧ ys.Pairwise leK ∧ Below w.heap.size w w' := by
  go_enter Tryz.func34, Tryz.ntmps34
  go_wp2
  go_loop [3, 11] (fun t i => t = .slice (some ⟨w.heap.size, 0, none⟩) 0 0 ∧ i = .int .i64 0) (fun _ _ => 0)
  case atStart => exact ⟨rfl, rfl⟩
  case round =>
    obtain ⟨rfl, rfl⟩ := hrel
    go_wp2
    go_ret
    exact ⟨_, rfl, [], Or.inl ⟨rfl, _, _, rfl⟩, rfl, List.Pairwise.nil, (Below.refl _ _).alloc (Nat.le_refl _) _⟩
theorem dsort_ (xs : List K) (v : Value) (w : World) (hl : xs.length * 24 ≤ 140737488351232) (hN : Names xs) (R : Sl w v xs) :
    Calls Tryz.prog 34 #[v] w fun e w' => ∃ v ys, e = .returned v ∧ Sl w' v ys ∧ ys.Perm xs ∧ ys.Pairwise leK ∧ Below w.heap.size w w' := by
  rcases R with ⟨rfl, a, cap, rfl⟩ | ⟨b, off, cap, rfl, R⟩
  · exact dsort__nil a cap w
  · exact dsort__row xs b off cap w hl hN R
theorem Below.touch {w w' : World} (b : Below w.heap.size w w') : Touch [] w w' := ⟨b.os, b.tape, b.output, b.size, fun k hk _ => b.block k hk⟩
end Go.Proofs.YtpihhlllembdeaaGreat
