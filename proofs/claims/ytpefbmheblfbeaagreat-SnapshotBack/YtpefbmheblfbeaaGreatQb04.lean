/- The walk of All; no conditions. -/
import Derived.Test.YtpefbmheblfbeaaGreatQb03
import Derived.Deep.CutRange
import Derived.Deep.CutBlock
import Derived.Test.YtpefbmheblfbeaaGreatQb01
import Derived.Test.YtpefbmheblfbeaaGreatRows
import Derived.Test.YtpefbmheblfbeaaGreatQb02
import Derived.WalkKit
import Derived.ProofKit
import Derived.OpenShut
import Derived.ShutString
import Derived.Deep.Slices
namespace Go.Proofs.YtpefbmheblfbeaaGreat.Me
open Go.RowKit Go.Sort Go.Maps Go.ChangeMaps Go.WideMaps Go.Shelf
set_option maxRecDepth 100000
set_option linter.unusedVariables false
set_option linter.unusedSimpArgs false
attribute [local go_sem] Oper.semAt_some
theorem info56 : (Tryz.prog.info? 60).map (fun i => (i.zero, i.size, i.bytes)) = some (some (.agg #[.int .u16 0, .string ⟨#[]⟩, .int .i64 0, .int .i64 0, .int .i64 0, .int .i64 0, .int .i64 0]), 7, 64) := by kernel_rfl
theorem cell_seven_new (w : World) (a b c d e f g : Value) (t : TypeId) : ∀ j u, [a, b, c, d, e, f, g][j]? = some u → (w.alloc (.cells #[a, b, c, d, e, f, g] t)).cell? ((⟨w.heap.size, 0, none⟩ : Addr).add j) = some u := by
  intro j u hj
  have h7 : j < 7 := by
    rcases Nat.lt_or_ge j 7 with h | h
    · exact h
    · rw [List.getElem?_eq_none (by simpa using h)] at hj; cases hj
  match j, h7, hj with
  | 0, _, hj => simp at hj; subst hj; simp [Addr.add]
  | 1, _, hj => simp at hj; subst hj; simp [Addr.add]
  | 2, _, hj => simp at hj; subst hj; simp [Addr.add]
  | 3, _, hj => simp at hj; subst hj; simp [Addr.add]
  | 4, _, hj => simp at hj; subst hj; simp [Addr.add]
  | 5, _, hj => simp at hj; subst hj; simp [Addr.add]
  | 6, _, hj => simp at hj; subst hj; simp [Addr.add]
def AlQ (w : World) (xs : List En) (v : Value) (w' : World) : Prop := w'.ownsRow w.heap.size 60 7 v xs.length (cellsN xs) ∧ Touch [] w w'
set_option maxRecDepth 100000 in
set_option maxHeartbeats 4000000 in
theorem allM (w : World) (m : Nat) (F : List Nat) (c : Cf) (now : Int) (xs : List En) (h : Mq w m F c now xs) : Calls Tryz.prog 38 #[PT m] w fun e w' => ∃ v, e = .returned v ∧ AlQ w xs v w' := by
  refine (callsIn_wide (n := 0)).1 ?_
  obtain ⟨i3, hi, hz0, hz1, hz2⟩ := info_parts info56
  have hF := h.lt
  have hmF := h.mem
  have HM := hid h
  obtain ⟨b, o, G, rfl, hb⟩ := h
  have hlen := hb.len
  have c9 : Hid (∀ w', Touch [] w w' → w'.cell? ⟨m, 9, none⟩ = some (.pointer (some ⟨o, 0, none⟩))) := hid (fun w' t => (hb.keep0 t).md.cs.c9)
  have HO : Hid (∀ w', Touch [] w w' → Oq w' o G c.e (keysL xs)) := hid (fun w' t => (hb.keep0 t).oq)
  have HLn : Hid (∀ w', Touch [] w w' → Calls Tryz.prog 54 #[PT m] w' fun e w'' => e = .returned (.int .i64 (xs.length : Int)) ∧ w'' = w') := hid (fun w' t => len19 w' m b o G c now xs (hb.keep0 t))
  have TB : Touch [] w (w.alloc (.cells #[PT m] 28)) := (Touch.refl _ _).alloc _
  have hB0 := heap_alloc_new w (.cells #[PT m] 28)
  clear hb
  refine callsIn_of_wp_marks Tryz.func38 rfl trivial (wpIn_wide.2 ?_) rfl
  simp only [Tryz.ntmps38, List.size_toArray, List.length_cons, List.length_nil, Nat.reduceAdd, Nat.reduceSub, Array.replicate_succ, Array.replicate_zero, List.push_toArray, List.append_toArray, List.nil_append, List.cons_append]
  have HA := fun w => all13 w o
  unfold PT at HA HLn
  unfold PT at TB hB0 ⊢
  have HT1 := hid TB
  have zl : (xs.length : Int) ≤ 65536 := by omega
  clear TB
  go_upto_region 4 with (first
    | (go_at_call 54; refine (HLn.out _ HT1.out).mono ?_; rintro e w1 ⟨rfl, e1⟩; rw [e1]; clear e1 w1)
    | (at_make; refine wpList_make_own _ rfl _ _ 24 rfl w.heap.size 60 i3 (.agg #[.int .u16 0, .string ⟨#[]⟩, .int .i64 0, .int .i64 0, .int .i64 0, .int .i64 0, .int .i64 0]) 7 Tryz.underlying24 hi hz0 hz1 .i64 .i64 _ xs.length rfl rfl rfl (by rw [hz2]; omega) (by unfold maxLen; omega) (by simp) ?_; intro w3 o3 g3; have O3 := hid o3; have G3 := hid g3; clear o3 g3))
  have O3 : Hid (w3.ownsRow w.heap.size 60 7 (.slice (some ⟨w.heap.size + 1, 0, none⟩) 0 xs.length) 0 []) := hid (by have := O3.out; rw [World.size_alloc] at this; exact this)
  have T3 : Touch [] w w3 := HT1.out.grown G3.out (fun k hk => by cases hk)
  have c9' := c9.out _ (T3.alloc (.cells #[.slice (some ⟨w.heap.size + 1, 0, none⟩) 0 xs.length] 24))
  have hp1 : w3.heap[w.heap.size]? = some (.cells #[.pointer (some ⟨m, 0, none⟩)] 28 (0, 0)) := (Touch.grown (Touch.refl [] _) G3.out (fun k hk => by cases hk)).keep hB0 (by simp)
  have hp1' : (w3.alloc (.cells #[.slice (some ⟨w.heap.size + 1, 0, none⟩) 0 xs.length] 24)).cell? ⟨w.heap.size, 0, none⟩ = some (.pointer (some ⟨m, 0, none⟩)) := by
    have := ((Touch.refl [] w3).alloc (.cells #[.slice (some ⟨w.heap.size + 1, 0, none⟩) 0 xs.length] 24)).keep hp1 (by simp)
    simp [World.cell?, this]
  go_wp2_with (go_at_call 89; refine (HA _).mono ?_; rintro e w5 ⟨rfl, rfl⟩)
  obtain ⟨W0, hW0⟩ : ∃ W0, (w3.alloc (.cells #[.slice (some ⟨w.heap.size + 1, 0, none⟩) 0 xs.length] 24)).alloc (.cells #[.pointer (some ⟨o, 0, none⟩)] 142) = W0 := ⟨_, rfl⟩
  rw [hW0]
  have T0 : Touch [] w3 W0 := by rw [← hW0]; exact ((Touch.refl _ _).alloc _).alloc _
  have z0 : W0.heap.size = w3.heap.size + 2 := by rw [← hW0]; simp
  have hz3 : w.heap.size < w3.heap.size := block_lt hp1
  have k3 : W0.heap[w3.heap.size]? = some (.cells #[.slice (some ⟨w.heap.size + 1, 0, none⟩) 0 xs.length] 24 (0, 0)) := by rw [← hW0]; exact (Below.heap_alloc _ _ _ (by simp)).trans (heap_alloc_new _ _)
  have k4 : W0.heap[w3.heap.size + 1]? = some (.cells #[.pointer (some ⟨o, 0, none⟩)] 142 (0, 0)) := by
    rw [← hW0]
    have := heap_alloc_new (w3.alloc (.cells #[.slice (some ⟨w.heap.size + 1, 0, none⟩) 0 xs.length] 24)) (.cells #[.pointer (some ⟨o, 0, none⟩)] 142)
    rwa [World.size_alloc] at this
  have k1 := T0.keep hp1 (by simp)
  have TW := hid (T3.trans' T0)
  have O0 : W0.ownsRow w.heap.size 60 7 (.slice (some ⟨w.heap.size + 1, 0, none⟩) 0 xs.length) 0 [] := own_touch O3.out T0 (fun _ _ e => by cases e)
  have hB0' : ∀ b, ((.slice (some ⟨w.heap.size + 1, 0, none⟩) 0 xs.length) : Value).ownBlock = some b → b < w3.heap.size := fun b hb => (O3.out.lt b hb).2
  clear hW0 HA c9' hp1' hB0 HT1 O3 G3
  refine (wpIn_wide (n := 0)).1 ?_
  refine range_at (s := 4) (p := 17) (w3.heap.size + 1) o G c.e (keysL xs) rfl rfl (by simp [World.cell?, k4, PT]) (block_lt k4) (HO.out _ TW.out) (by rw [keysL_len]; omega) (AlI w w.heap.size w3.heap.size m xs) (fun _ _ => False) ?_ (fun X pre W W' hi ht => hi.step ht) (fun _ _ _ h _ => h) ?_ ?_ ?_ ?_
  · intro X W t hX
    have hX' : ∀ k ∈ X, w3.heap.size + 2 ≤ k := fun k hk => by have := hX k hk; omega
    refine ⟨⟨_, t.keep k3 (by simp), ?_, fun b hb hh => ?_⟩, t.keep k1 (by simp), ⟨fun hh => by have := hX' _ hh; omega, fun hh => by have := hX' _ hh; omega, by omega⟩, fun k hk => by have := hX' k hk; omega, TW.out.trans' t⟩
    · exact own_touch O0 t (fun _ _ e => by cases e)
    · have := hB0' b hb
      have := hX' b hh
      omega
  · intro l x W K hK
    unfold ax kv at hK
    unfold kv
    gi_wp2
    exact hK
  · rintro l X pre x b W hi' hb hX ⟨post, hpost⟩
    have hbx : W.heap[b]? = some (.cells #[.int .u16 x.1, .string x.2] 54 (0, 0)) := hb
    have b0 : W.cell? ⟨b, 0, none⟩ = some (.int .u16 x.1) := by simp [World.cell?, hbx]
    have b1 : W.cell? ⟨b, 1, none⟩ = some (.string x.2) := by simp [World.cell?, hbx]
    have hbs := block_lt hb
    have hXW : ∀ k ∈ X, k < W.heap.size := fun k hk => by have := hX k hk; omega
    have hM := HM.out.keep0 hi'.2.2.2.2
    obtain ⟨v, hgv, hfv⟩ : ∃ v, xs[pre.length]? = some (x, v) ∧ fnd xs x = some v := by
      have h1 : (keysL xs)[pre.length]? = some x := by rw [hpost]; simp
      unfold keysL at h1
      rw [List.getElem?_map] at h1
      cases hy : xs[pre.length]? with
      | none => rw [hy] at h1; cases h1
      | some y =>
        rw [hy] at h1
        simp only [Option.map_some, Option.some.injEq] at h1
        obtain ⟨y1, y2⟩ := y
        simp only at h1
        subst h1
        exact ⟨y2, rfl, fnd_of_mem (x := (y1, y2)) hM.nd (List.mem_of_getElem? hy)⟩
    have hok : Ok x := hM.ok x (by rw [hpost]; simp)
    have HG := hid (getM W m _ c now xs hM x hok)
    unfold getS at HG
    rw [hfv] at HG
    simp only at HG
    have hpl : pre.length ≤ 65536 := by
      have := congrArg List.length hpost
      rw [keysL_len, List.length_append] at this
      omega
    obtain ⟨⟨u, u1, u2, u3⟩, u4, u5, u6, u7⟩ := hi'
    have HI := hid (show AlI w w.heap.size w3.heap.size m xs X pre W from ⟨⟨u, u1, u2, u3⟩, u4, u5, u6, u7⟩)
    have p0 : W.cell? ⟨w.heap.size, 0, none⟩ = some (.pointer (some ⟨m, 0, none⟩)) := by unfold PT at u4; simp [World.cell?, u4]
    have HU := hid u2
    have hu1 := hid u1
    have hsz := u7.size
    have HXW := hid hXW
    have HGV := hid hgv
    clear hb hbx hM hfv hpost u2 u3 u4 u5 u6 u7 hX hXW hgv hok
    unfold PT kv nv at HG
    simp only at HG
    unfold ax kv
    simp only [List.setIfInBounds_toArray, List.set_cons_zero, List.set_cons_succ]
    gi_wp2
    refine ⟨trivial, rfl, ?_⟩
    refine (CallsIn.inRound l (callsIn_wide.2 HG.out)).mono ?_
    rintro e W' ⟨rfl, t'⟩
    have T' := hid t'
    obtain ⟨W6, hW6⟩ : ∃ W6, W6 = W'.alloc (.cells #[.int .u16 x.1, .string x.2, .int .i64 v.1.1, .int .i64 v.1.2.1, .int .i64 v.1.2.2.1, .int .i64 v.1.2.2.2, .int .i64 v.2] 60) := ⟨_, rfl⟩
    have T6 : Hid (Touch [] W W6) := hid (by rw [hW6]; exact t'.alloc _)
    have u6 := T6.out.keep hu1.out (by simp)
    have q3 : W6.cell? ⟨w3.heap.size, 0, none⟩ = some u := by simp [World.cell?, u6]
    have O6 := hid (own_touch HU.out T6.out (fun _ _ e => by cases e))
    have hsz6 := T6.out.size
    have e6 : W6.heap.size = W'.heap.size + 1 := by rw [hW6]; simp
    clear t' u6 HG
    have q4 : (W'.alloc (.cells #[.int .u16 x.1, .string x.2, .int .i64 v.1.1, .int .i64 v.1.2.1, .int .i64 v.1.2.2.1, .int .i64 v.1.2.2.2, .int .i64 v.2] 60)).cell? ⟨w3.heap.size, 0, none⟩ = some u := by rw [← hW6]; exact q3
    have O7 : Hid ((W'.alloc (.cells #[.int .u16 x.1, .string x.2, .int .i64 v.1.1, .int .i64 v.1.2.1, .int .i64 v.1.2.2.1, .int .i64 v.1.2.2.2, .int .i64 v.2] 60)).ownsRow w.heap.size 60 7 u pre.length (cellsN (xs.take pre.length))) := hid (by rw [← hW6]; exact O6.out)
    have e7 : (W'.alloc (.cells #[.int .u16 x.1, .string x.2, .int .i64 v.1.1, .int .i64 v.1.2.1, .int .i64 v.1.2.2.1, .int .i64 v.1.2.2.2, .int .i64 v.2] 60)).heap.size = W'.heap.size + 1 := by simp
    gi_wp2_with (gi_at_builtin; refine Hid.out ?_)
    refine hid ?_
    refine wpListIn_append_lies _ rfl _ _ 24 rfl w.heap.size 60 i3 (.agg #[.int .u16 0, .string ⟨#[]⟩, .int .i64 0, .int .i64 0, .int .i64 0, .int .i64 0, .int .i64 0]) 7 64 Tryz.underlying24 hi hz0 hz1 hz2 rfl (by decide) u pre.length (cellsN (xs.take pre.length)) rfl (O7.out.alloc _) ⟨W'.heap.size + 1, 0, none⟩ 1 1 [.int .u16 x.1, .string x.2, .int .i64 v.1.1, .int .i64 v.1.2.1, .int .i64 v.1.2.2.1, .int .i64 v.1.2.2.2, .int .i64 v.2] rfl rfl (by have := cell_seven_new (W'.alloc (.cells #[.int .u16 x.1, .string x.2, .int .i64 v.1.1, .int .i64 v.1.2.1, .int .i64 v.1.2.2.1, .int .i64 v.1.2.2.2, .int .i64 v.2] 60)) (.int .u16 x.1) (.string x.2) (.int .i64 v.1.1) (.int .i64 v.1.2.1) (.int .i64 v.1.2.2.1) (.int .i64 v.1.2.2.2) (.int .i64 v.2) 60; rw [e7] at this; exact this) (by simp [Value.oneCell']) (by decide) (by unfold maxLen; omega) (by omega) (by simp; omega) ?_
    intro g1 c1 w7 hown7 hgrow hat hlt7
    have HO7 := hid hown7
    have HG7 := hid hgrow
    have HAT := hid hat
    clear hown7 hgrow hat
    obtain ⟨k7, m7, n7⟩ := HI.out.push (x := (x, v)) (v' := .slice (some ⟨g1, 0, none⟩) (pre.length + 1) c1) HXW.out (T'.out.alloc _ |>.alloc _) hu1.out HO7.out HG7.out (HAT.out.elim (fun e => Or.inl (by rw [e]; rfl)) (fun e => Or.inr (by rw [← e]; rfl))) HGV.out x
    have s0 : w7.cell? ⟨w3.heap.size, 0, none⟩ = some u := by simp [World.cell?, k7]
    have s1 : w7.frozen? ⟨w3.heap.size, 0, none⟩ = false := by simp [World.frozen?, k7]
    have M7 := hid m7
    have N7 := hid n7
    clear m7 n7 k7 q3 q4 b0 b1 p0
    gi_wp2
    exact ⟨M7.out, N7.out⟩
  · rintro X D W hD hDX hi' hK
    obtain ⟨⟨u, u1, u2, u3⟩, u4, u5, u6, u7⟩ := hi'
    have q0 : W.cell? ⟨w3.heap.size, 0, none⟩ = some u := by simp [World.cell?, u1]
    have HE : Hid (AlI w w.heap.size w3.heap.size m xs X (keysL xs) W) := hid ⟨⟨u, u1, u2, u3⟩, u4, u5, u6, u7⟩
    have HU1 := hid u1
    unfold dfr
    clear u1 u2 u3 u4 u5 u6 u7
    have HKD := hid hK
    clear hK
    go_wp2
    refine ⟨by simp, .inl ⟨_, _, rfl, run_takeDeferred HKD.out, ?_⟩⟩
    refine ⟨u, by simp [results, Tryz.results38, go_sem], u, rfl, ?_⟩
    obtain ⟨⟨u', u1, u2, u3⟩, u4, u5, u6, u7⟩ := HE.out.step (touch_putObj W (l := D) (.deferred none) hDX)
    have : u' = u := by
      have h1 := (touch_putObj W (l := D) (.deferred none) hDX).keep HU1.out HE.out.2.2.1.2.1
      rw [h1] at u1
      simpa using u1.symm
    subst this
    refine ⟨?_, u7⟩
    rw [keysL_len, List.take_length] at u2
    exact u2
  · intro X D W _ _ h
    exact h.elim
end Go.Proofs.YtpefbmheblfbeaaGreat.Me
/- The bytes of a memo, plain; and the contracts of the program's telling of numbers, keys, outcomes, entries and configurations into a builder; the conditions are those that each states. -/
namespace Go.Proofs.YtpefbmheblfbeaaGreat.Sn
open Go.RowKit Go.Sort Go.Shelf Me
set_option linter.unusedVariables false
def keyB (k : K) : List UInt8 := (hd3 k.1 k.2 ++ k.2).data.toList
def nB (n : Int) : List UInt8 := numL n.toNat
def sgB (n : Int) : List UInt8 := nB (sgn n)
def outB (o : O) : List UInt8 := if o.2.1 = 0 then [0] ++ sgB o.1 else [UInt8.ofNat o.2.1.toNat] ++ (sgB o.2.2.1 ++ nB o.2.2.2)
def entB (x : En) : List UInt8 := keyB x.1 ++ (nB x.2.2 ++ outB x.2.1)
def cfgB (c : Cf) : List UInt8 := nB c.t ++ (nB c.n ++ (nB c.s ++ (nB c.e ++ (nB c.f ++ (nB c.b ++ nB c.d)))))
def entsB (xs : List En) : List UInt8 := nB xs.length ++ xs.flatMap entB
def keysB (ks : List K) : List UInt8 := nB ks.length ++ ks.flatMap keyB
def mk1 : List UInt8 := [99, 111, 110, 118, 111, 121, 48, 49]
def bodyB (c : Cf) (now : Int) (xs : List En) : List UInt8 := mk1 ++ (cfgB c ++ (nB now ++ entsB xs))
def sealB (l : List UInt8) : List UInt8 := l ++ by8 (sumL l)
def tellB (c : Cf) (now : Int) (xs : List En) : List UInt8 := sealB (bodyB c now xs)
theorem nB_len {n : Int} (h : n < 18446744073709551616) : (nB n).length ≤ 10 := numL_10 (by omega)
theorem sgn_b {n : Int} (h0 : -9223372036854775808 ≤ n) (h1 : n ≤ 9223372036854775807) : 0 ≤ sgn n ∧ sgn n < 18446744073709551616 := by unfold sgn; split <;> omega
theorem keyB_len (k : K) : (keyB k).length = 3 + k.2.size := by
  unfold keyB
  rw [data_app, List.length_append, Array.length_toList, Array.length_toList]; rfl
structure EnOk (x : En) : Prop where
  s0 : 0 ≤ x.1.1
  s1 : x.1.1 ≤ 65535
  nm : x.1.2.size ≤ 64
  t0 : 0 ≤ x.2.2
  t1 : x.2.2 ≤ 9223372036854775807
  v : -9223372036854775808 ≤ x.2.1.1 ∧ x.2.1.1 ≤ 9223372036854775807
  c : -9223372036854775808 ≤ x.2.1.2.2.1 ∧ x.2.1.2.2.1 ≤ 9223372036854775807
  k : 0 ≤ x.2.1.2.1 ∧ x.2.1.2.1 ≤ 2
  r : 0 ≤ x.2.1.2.2.2 ∧ x.2.1.2.2.2 ≤ 9223372036854775807
theorem outB_len {x : En} (h : EnOk x) : (outB x.2.1).length ≤ 21 := by
  obtain ⟨v0, v1⟩ := sgn_b h.v.1 h.v.2
  obtain ⟨c0, c1⟩ := sgn_b h.c.1 h.c.2
  have a1 := nB_len v1
  have a2 := nB_len c1
  have a3 := nB_len (n := x.2.1.2.2.2) (by have := h.r.2; omega)
  unfold outB sgB
  split
  · rw [List.length_append]; simp; omega
  · rw [List.length_append, List.length_append]; simp; omega
theorem entB_len {x : En} (h : EnOk x) : (entB x).length ≤ 98 := by
  have a1 := outB_len h
  have a2 := nB_len (n := x.2.2) (by have := h.t1; omega)
  unfold entB
  rw [List.length_append, List.length_append, keyB_len]
  have := h.nm
  omega
theorem flat_le {xs : List En} (h : ∀ x ∈ xs, EnOk x) : (xs.flatMap entB).length ≤ 98 * xs.length := by
  induction xs with
  | nil => simp
  | cons a r ih =>
    rw [List.flatMap_cons, List.length_append, List.length_cons]
    have := ih (fun x hx => h x (List.mem_cons_of_mem _ hx))
    have := entB_len (h a List.mem_cons_self)
    omega
section
variable {B b : Nat} {l : List UInt8} {w : World}
theorem tellNumber_ (h : Bd B b l w) (n : Int) (h0 : 0 ≤ n) (h1 : n ≤ 9223372036854775807) (hl : l.length ≤ 70368744177664) : Calls Tryz.prog 36 #[PT b, .int .i64 n] w fun e w' => e = .returned (.tuple #[]) ∧ Bd B b (l ++ nB n) w' ∧ Wr B b w w' := by
  obtain ⟨m, rfl⟩ : ∃ m : Nat, n = (m : Int) := ⟨n.toNat, by omega⟩
  have HN := hid (number_ w m (by omega))
  have HW : Hid (∀ w1, Touch [] w w1 → Calls Tryz.prog 33 #[PT b, .string ⟨(numL m).toArray⟩] w1 fun e w' => e = .returned (.tuple #[.int .i64 (numL m).toArray.size, .nilIface]) ∧ Bd B b (l ++ nB m) w' ∧ Wr B b w w') := hid (fun w1 t1 => by
    refine (write_ (h.touch t1) ⟨(numL m).toArray⟩ (by have := numL_10 (x := m) (by omega); show l.length + (numL m).toArray.size ≤ _; rw [List.size_toArray]; omega)).mono ?_
    rintro e w' ⟨he, h2, h3⟩
    exact ⟨he, h2, ⟨(t1.below (fun _ e => by cases e) h.2.1).trans h3.below, fun k o hk hb ho => h3.keep k o (t1.keep hk (by simp)) hb ho⟩⟩)
  have hw : IntKind.u64.wrap (m : Int) = (m : Int) := by rw [IntKind.wrap_u64]; omega
  generalize (⟨(numL m).toArray⟩ : ByteArray) = bb at *
  unfold PT at *
  clear h h0 h1 hl
  go_enter Tryz.func36, Tryz.ntmps36
  go_wp2_with (first
    | (go_at_call 29; refine HN.out.mono ?_; rintro e w1 ⟨rfl, T1⟩)
    | (go_at_call 33; refine (HW.out _ T1).mono ?_; rintro e w2 ⟨rfl, H2⟩))
  go_end0
  exact ⟨rfl, H2⟩
theorem tellSigned_ (h : Bd B b l w) (n : Int) (h0 : -9223372036854775808 ≤ n) (h1 : n ≤ 9223372036854775807) (hl : l.length ≤ 70368744177664) : Calls Tryz.prog 126 #[PT b, .int .i64 n] w fun e w' => e = .returned (.tuple #[]) ∧ Bd B b (l ++ sgB n) w' ∧ Wr B b w w' := by
  obtain ⟨s0, s1⟩ := sgn_b h0 h1
  have HS := hid (sign_ w n h0 h1)
  unfold sgB
  generalize sgn n = z at *
  obtain ⟨m, rfl⟩ : ∃ m : Nat, z = (m : Int) := ⟨z.toNat, by omega⟩
  have HN := hid (number_ w m (by omega))
  have HW : Hid (∀ w1, Touch [] w w1 → Calls Tryz.prog 33 #[PT b, .string ⟨(numL m).toArray⟩] w1 fun e w' => e = .returned (.tuple #[.int .i64 (numL m).toArray.size, .nilIface]) ∧ Bd B b (l ++ nB m) w' ∧ Wr B b w w') := hid (fun w1 t1 => by
    refine (write_ (h.touch t1) ⟨(numL m).toArray⟩ (by have := numL_10 (x := m) (by omega); show l.length + (numL m).toArray.size ≤ _; rw [List.size_toArray]; omega)).mono ?_
    rintro e w' ⟨he, h2, h3⟩
    exact ⟨he, h2, ⟨(t1.below (fun _ e => by cases e) h.2.1).trans h3.below, fun k o hk hb ho => h3.keep k o (t1.keep hk (by simp)) hb ho⟩⟩)
  generalize (⟨(numL m).toArray⟩ : ByteArray) = bb at *
  unfold PT at *
  clear h h0 h1 hl s0 s1
  go_enter Tryz.func126, Tryz.ntmps126
  go_wp2_with (first
    | (go_at_call 30; refine HS.out.mono ?_; rintro e w1 ⟨rfl, rfl⟩)
    | (go_at_call 29; refine HN.out.mono ?_; rintro e w1 ⟨rfl, T1⟩)
    | (go_at_call 33; refine (HW.out _ T1).mono ?_; rintro e w2 ⟨rfl, H2⟩))
  go_end0
  exact ⟨rfl, H2⟩
theorem tellKey_ (h : Bd B b l w) (k : K) (h0 : 0 ≤ k.1) (h1 : k.1 ≤ 65535) (hn : k.2.size ≤ 64) (hl : l.length ≤ 70368744177664) : Calls Tryz.prog 87 #[PT b, kv k] w fun e w' => e = .returned (.tuple #[]) ∧ Bd B b (l ++ keyB k) w' ∧ Wr B b w w' := by
  have HK := hid (fun w => bytes16_ok k.1 k.2 w h0 h1 hn)
  have HW : Hid (∀ w1, Touch [] w w1 → Calls Tryz.prog 33 #[PT b, .string (hd3 k.1 k.2 ++ k.2)] w1 fun e w' => e = .returned (.tuple #[.int .i64 (hd3 k.1 k.2 ++ k.2).size, .nilIface]) ∧ Bd B b (l ++ keyB k) w' ∧ Wr B b w w') := hid (fun w1 t1 => by
    refine (write_ (h.touch t1) (hd3 k.1 k.2 ++ k.2) (by rw [ByteArray.size_append, hd3_size]; omega)).mono ?_
    rintro e w' ⟨he, h2, h3⟩
    exact ⟨he, h2, ⟨(t1.below (fun _ e => by cases e) h.2.1).trans h3.below, fun k o hk hb ho => h3.keep k o (t1.keep hk (by simp)) hb ho⟩⟩)
  generalize hd3 k.1 k.2 ++ k.2 = bb at *
  unfold PT kv at *
  clear h h0 h1 hl hn
  go_enter Tryz.func87, Tryz.ntmps87
  go_wp2_with (first
    | (go_at_call 124; refine (HK.out _).mono ?_; rintro e w1 ⟨rfl, G1⟩; have T1 := ((Touch.refl [] w).alloc (.cells #[.int .u16 k.1, .string k.2] 54)).trans' (Touch.of_below G1.below))
    | (go_at_call 33; refine (HW.out _ T1).mono ?_; rintro e w2 ⟨rfl, H2⟩))
  go_end0
  exact ⟨rfl, H2⟩
end
end Go.Proofs.YtpefbmheblfbeaaGreat.Sn
/- What Of asks of one entry more, and what it answers, as plain functions; the contract of checkNext; no conditions but those that each states. -/
namespace Go.Proofs.YtpefbmheblfbeaaGreat.Me
open Go.RowKit Go.Sort Go.Maps Go.ChangeMaps Go.WideMaps
set_option maxRecDepth 100000
set_option linter.unusedVariables false
set_option linter.unusedSimpArgs false
def nxE (c : Cf) (now : Int) (xs : List En) (x : En) : Int := if pairE x.1 x.2.1 ≠ 0 then pairE x.1 x.2.1 else if ((fnd xs x.1).isSome || !keepsC c x.2.1 || decide (x.2.2 < 0) || decide (now < x.2.2)) = true then 1 else 0
def ofL (c : Cf) (now : Int) : List En → List En → Int → Int × Int
  | _, [], _ => (0, 0)
  | done, x :: rest, i => if nxE c now done x ≠ 0 then (i, nxE c now done x) else ofL c now (done ++ [x]) rest (i + 1)
def ofP (c : Cf) (now : Int) (xs : List En) : Int × Int := if okC c = false then (0, 100) else if isT now = false then (0, 10) else if c.e < (xs.length : Int) then (0, 3) else ofL c now [] xs 0
set_option maxHeartbeats 4000000 in
set_option maxRecDepth 100000 in
theorem next40_pair (w : World) (m b o : Nat) (G : List Nat) (c : Cf) (now : Int) (xs : List En) (h : Mb w m b o G c now xs) (x : En) (hk : Ok x.1) (hp : pairE x.1 x.2.1 ≠ 0) : Calls Tryz.prog 85 #[PT m, nv x] w fun e w' => e = .returned (.int .i64 (pairE x.1 x.2.1)) ∧ Touch [] w w' := by
  obtain ⟨V, hV⟩ : ∃ V, V = w.alloc (.cells #[.int .u16 x.1.1, .string x.1.2, .int .i64 x.2.1.1, .int .i64 x.2.1.2.1, .int .i64 x.2.1.2.2.1, .int .i64 x.2.1.2.2.2, .int .i64 x.2.2] 60) := ⟨_, rfl⟩
  have TV : Hid (Touch [] w V) := hid (by rw [hV]; exact (Touch.refl _ _).alloc _)
  have HX : Hid (∀ w', Touch [] V w' → w'.cell? ⟨w.heap.size, 0, none⟩ = some (.int .u16 x.1.1) ∧ w'.cell? ⟨w.heap.size, 1, none⟩ = some (.string x.1.2) ∧ w'.cell? ⟨w.heap.size, 2, none⟩ = some (.int .i64 x.2.1.1) ∧ w'.cell? ⟨w.heap.size, 3, none⟩ = some (.int .i64 x.2.1.2.1) ∧ w'.cell? ⟨w.heap.size, 4, none⟩ = some (.int .i64 x.2.1.2.2.1) ∧ w'.cell? ⟨w.heap.size, 5, none⟩ = some (.int .i64 x.2.1.2.2.2) ∧ w'.cell? ⟨w.heap.size, 6, none⟩ = some (.int .i64 x.2.2)) := hid (fun w' t => by
    have := t.keep (k := w.heap.size) (by rw [hV]; exact heap_alloc_new w _) (by simp)
    simp [World.cell?, this])
  obtain ⟨x0, x1, x2, x3, x4, x5, x6⟩ := HX.out V (Touch.refl _ _)
  have HP := hid (pair46 V x.1 x.2.1)
  unfold kv ov at HP
  generalize pairE x.1 x.2.1 = pe at *
  clear h
  unfold PT nv
  go_enter Tryz.func85, Tryz.ntmps85
  go_upto_region 1 with fail
  rw [← hV]
  clear hV
  go_wp2_with (go_at_call 74; refine HP.out.mono ?_; rintro e w2 ⟨rfl, t2⟩; have T2 := hid (TV.out.trans' t2); clear t2)
  go_ret
  exact ⟨rfl, T2.out⟩
set_option maxHeartbeats 4000000 in
set_option maxRecDepth 100000 in
theorem next40_some (w : World) (m b o : Nat) (G : List Nat) (c : Cf) (now : Int) (xs : List En) (h : Mb w m b o G c now xs) (x : En) (hk : Ok x.1) (hp : pairE x.1 x.2.1 = 0) (v : V) (hf : fnd xs x.1 = some v) : Calls Tryz.prog 85 #[PT m, nv x] w fun e w' => e = .returned (.int .i64 1) ∧ Touch [] w w' := by
  obtain ⟨V, hV⟩ : ∃ V, V = w.alloc (.cells #[.int .u16 x.1.1, .string x.1.2, .int .i64 x.2.1.1, .int .i64 x.2.1.2.1, .int .i64 x.2.1.2.2.1, .int .i64 x.2.1.2.2.2, .int .i64 x.2.2] 60) := ⟨_, rfl⟩
  have TV : Hid (Touch [] w V) := hid (by rw [hV]; exact (Touch.refl _ _).alloc _)
  have HX : Hid (∀ w', Touch [] V w' → w'.cell? ⟨w.heap.size, 0, none⟩ = some (.int .u16 x.1.1) ∧ w'.cell? ⟨w.heap.size, 1, none⟩ = some (.string x.1.2) ∧ w'.cell? ⟨w.heap.size, 2, none⟩ = some (.int .i64 x.2.1.1) ∧ w'.cell? ⟨w.heap.size, 3, none⟩ = some (.int .i64 x.2.1.2.1) ∧ w'.cell? ⟨w.heap.size, 4, none⟩ = some (.int .i64 x.2.1.2.2.1) ∧ w'.cell? ⟨w.heap.size, 5, none⟩ = some (.int .i64 x.2.1.2.2.2) ∧ w'.cell? ⟨w.heap.size, 6, none⟩ = some (.int .i64 x.2.2)) := hid (fun w' t => by
    have := t.keep (k := w.heap.size) (by rw [hV]; exact heap_alloc_new w _) (by simp)
    simp [World.cell?, this])
  obtain ⟨x0, x1, x2, x3, x4, x5, x6⟩ := HX.out V (Touch.refl _ _)
  have HP := hid (pair46 V x.1 x.2.1)
  unfold kv ov at HP
  rw [hp] at HP
  clear hp
  unfold PT nv
  go_enter Tryz.func85, Tryz.ntmps85
  go_upto_region 1 with fail
  rw [← hV]
  clear hV
  go_upto_region 4 with (go_at_call 74; refine HP.out.mono ?_; rintro e w2 ⟨rfl, t2⟩; have T2 := hid (TV.out.trans' t2); have T2v := hid t2; clear t2)
  clear x0 x1 x2 x3 x4 x5 x6
  have sA : ∀ w', Touch [] w2 w' → w'.cell? ⟨m, 8, none⟩ = some (.map (some b)) := fun w' t => (h.keep0 (T2.out.trans' t)).md.cs.c8
  have sB : ∀ w', Touch [] w2 w' → w'.cell? ⟨w.heap.size, 0, none⟩ = some (.int .u16 x.1.1) := fun w' t => (HX.out w' (T2v.out.trans' t)).1
  have sC : ∀ w', Touch [] w2 w' → w'.cell? ⟨w.heap.size, 1, none⟩ = some (.string x.1.2) := fun w' t => (HX.out w' (T2v.out.trans' t)).2.1
  have sL : ∀ w', Touch [] w2 w' → (Instr.lookup 141 (.map (some b)) (.agg #[.int .u16 x.1.1, .string x.1.2]) true).run Tryz.prog w' = .ok (.tuple #[.agg #[.int .i64 v.1.1, .int .i64 v.1.2.1, .int .i64 v.1.2.2.1, .int .i64 v.1.2.2.2, .int .i64 v.2], .bool true]) w' := fun w' t => by
    have := (h.keep0 (T2.out.trans' t)).look hk
    rw [hf] at this
    exact this
  obtain ⟨U, hU⟩ : ∃ U, U = (w2.alloc (.cells #[.int .i64 v.1.1, .int .i64 v.1.2.1, .int .i64 v.1.2.2.1, .int .i64 v.1.2.2.2, .int .i64 v.2] 147)).drew := ⟨_, rfl⟩
  have TU2 : Touch [] w2 U := by rw [hU]; exact ((Touch.refl _ _).alloc _).drew
  have TU : Hid (Touch [] w U) := hid (T2.out.trans' TU2)
  have HM := hid (h.keep0 TU.out)
  have HXU := hid (fun w' (t : Touch [] U w') => HX.out w' ((T2v.out.trans' TU2).trans' t))
  have t0 : Touch [] w2 w2.drew := (Touch.refl _ _).drew
  go_region_held3 (fun w' => Touch [] w2 w') (repeat (first | assumption | exact Touch.refl _ _ | apply Touch.alloc | apply Touch.drew | (refine Touch.setCell ?_ (Or.inr (by simp)) _))) (fail)
  all_goals
    clear sA sB sC sL t0
    rw [← hU]
    clear hU TU2
    go_upto_region 5 with fail
    have sM7 : ∀ w', Touch [] U w' → w'.cell? ⟨m, 7, none⟩ = some (.int .i64 now) := fun w' t => (HM.out.keep0 t).md.cs.c7
    have sX0 : ∀ w', Touch [] U w' → w'.cell? ⟨w.heap.size, 0, none⟩ = some (.int .u16 x.1.1) := fun w' t => (HXU.out w' t).1
    have sX1 : ∀ w', Touch [] U w' → w'.cell? ⟨w.heap.size, 1, none⟩ = some (.string x.1.2) := fun w' t => (HXU.out w' t).2.1
    have sX2 : ∀ w', Touch [] U w' → w'.cell? ⟨w.heap.size, 2, none⟩ = some (.int .i64 x.2.1.1) := fun w' t => (HXU.out w' t).2.2.1
    have sX3 : ∀ w', Touch [] U w' → w'.cell? ⟨w.heap.size, 3, none⟩ = some (.int .i64 x.2.1.2.1) := fun w' t => (HXU.out w' t).2.2.2.1
    have sX4 : ∀ w', Touch [] U w' → w'.cell? ⟨w.heap.size, 4, none⟩ = some (.int .i64 x.2.1.2.2.1) := fun w' t => (HXU.out w' t).2.2.2.2.1
    have sX5 : ∀ w', Touch [] U w' → w'.cell? ⟨w.heap.size, 5, none⟩ = some (.int .i64 x.2.1.2.2.2) := fun w' t => (HXU.out w' t).2.2.2.2.2.1
    have sX6 : ∀ w', Touch [] U w' → w'.cell? ⟨w.heap.size, 6, none⟩ = some (.int .i64 x.2.2) := fun w' t => (HXU.out w' t).2.2.2.2.2.2
    have s0 : Touch [] U U.drew := (Touch.refl _ _).drew
    refine wp_region_H (S := fun w' => Touch [] U w') (by kernel_rfl) ?_
    refine wpH_take (i := 0) (v := (.bool true)) (some 26) rfl rfl (by kernel_rfl) (by kernel_rfl) (by kernel_rfl) (fun _ _ _ h => h) (Or.inl ⟨by rfl, fun w' hS => (by go_simp)⟩) s0 ?_
    try simp only [Go.Act.put, List.setIfInBounds_toArray, List.set_cons_zero, List.set_cons_succ]
    refine wpH_take (i := 1) (v := (.bool true)) (some 27) rfl rfl (by kernel_rfl) (by kernel_rfl) (by kernel_rfl) (fun _ _ _ h => h) (Or.inl ⟨by rfl, fun w' hS => (by go_simp)⟩) s0 ?_
    try simp only [Go.Act.put, List.setIfInBounds_toArray, List.set_cons_zero, List.set_cons_succ]
    refine wpH_take (i := 2) (v := undef) (some 28) rfl rfl (by kernel_rfl) (by kernel_rfl) (by kernel_rfl) (fun _ _ _ h => h) (Or.inr ⟨by rfl, rfl⟩) s0 ?_
    try simp only [Go.Act.put, List.setIfInBounds_toArray, List.set_cons_zero, List.set_cons_succ]
    refine wpH_take (i := 3) (v := undef) (some 29) rfl rfl (by kernel_rfl) (by kernel_rfl) (by kernel_rfl) (fun _ _ _ h => h) (Or.inr ⟨by rfl, rfl⟩) s0 ?_
    try simp only [Go.Act.put, List.setIfInBounds_toArray, List.set_cons_zero, List.set_cons_succ]
    refine wpH_take (i := 4) (v := undef) (some 30) rfl rfl (by kernel_rfl) (by kernel_rfl) (by kernel_rfl) (fun _ _ _ h => h) (Or.inr ⟨by rfl, rfl⟩) s0 ?_
    try simp only [Go.Act.put, List.setIfInBounds_toArray, List.set_cons_zero, List.set_cons_succ]
    refine wpH_take (i := 5) (v := undef) (some 31) rfl rfl (by kernel_rfl) (by kernel_rfl) (by kernel_rfl) (fun _ _ _ h => h) (Or.inr ⟨by rfl, rfl⟩) s0 ?_
    try simp only [Go.Act.put, List.setIfInBounds_toArray, List.set_cons_zero, List.set_cons_succ]
    refine wpH_take (i := 6) (v := undef) (some 32) rfl rfl (by kernel_rfl) (by kernel_rfl) (by kernel_rfl) (fun _ _ _ h => h) (Or.inr ⟨by rfl, rfl⟩) s0 ?_
    try simp only [Go.Act.put, List.setIfInBounds_toArray, List.set_cons_zero, List.set_cons_succ]
    refine wpH_take (i := 7) (v := (.bool true)) (some 33) rfl rfl (by kernel_rfl) (by kernel_rfl) (by kernel_rfl) (fun _ _ _ h => h) (Or.inl ⟨by rfl, fun w' hS => (by go_simp)⟩) s0 ?_
    try simp only [Go.Act.put, List.setIfInBounds_toArray, List.set_cons_zero, List.set_cons_succ]
    refine wpH_take (i := 8) (v := (.bool true)) (some 34) rfl rfl (by kernel_rfl) (by kernel_rfl) (by kernel_rfl) (fun _ _ _ h => h) (Or.inl ⟨by rfl, fun w' hS => (by go_simp)⟩) s0 ?_
    try simp only [Go.Act.put, List.setIfInBounds_toArray, List.set_cons_zero, List.set_cons_succ]
    refine wpH_take (i := 9) (v := undef) (some 35) rfl rfl (by kernel_rfl) (by kernel_rfl) (by kernel_rfl) (fun _ _ _ h => h) (Or.inr ⟨by rfl, rfl⟩) s0 ?_
    try simp only [Go.Act.put, List.setIfInBounds_toArray, List.set_cons_zero, List.set_cons_succ]
    refine wpH_take (i := 10) (v := undef) (some 36) rfl rfl (by kernel_rfl) (by kernel_rfl) (by kernel_rfl) (fun _ _ _ h => h) (Or.inr ⟨by rfl, rfl⟩) s0 ?_
    try simp only [Go.Act.put, List.setIfInBounds_toArray, List.set_cons_zero, List.set_cons_succ]
    refine wpH_take (i := 11) (v := undef) (some 37) rfl rfl (by kernel_rfl) (by kernel_rfl) (by kernel_rfl) (fun _ _ _ h => h) (Or.inr ⟨by rfl, rfl⟩) s0 ?_
    try simp only [Go.Act.put, List.setIfInBounds_toArray, List.set_cons_zero, List.set_cons_succ]
    refine wpH_take (i := 12) (v := (.bool true)) (some 38) rfl rfl (by kernel_rfl) (by kernel_rfl) (by kernel_rfl) (fun _ _ _ h => h) (Or.inl ⟨by rfl, fun w' hS => (by go_simp)⟩) s0 ?_
    try simp only [Go.Act.put, List.setIfInBounds_toArray, List.set_cons_zero, List.set_cons_succ]
    refine wpH_take (i := 13) (v := (.bool true)) (some 39) rfl rfl (by kernel_rfl) (by kernel_rfl) (by kernel_rfl) (fun _ _ _ h => h) (Or.inl ⟨by rfl, fun w' hS => (by go_simp)⟩) s0 ?_
    try simp only [Go.Act.put, List.setIfInBounds_toArray, List.set_cons_zero, List.set_cons_succ]
    refine wpH_take (i := 14) (v := undef) (some 40) rfl rfl (by kernel_rfl) (by kernel_rfl) (by kernel_rfl) (fun _ _ _ h => h) (Or.inr ⟨by rfl, rfl⟩) s0 ?_
    try simp only [Go.Act.put, List.setIfInBounds_toArray, List.set_cons_zero, List.set_cons_succ]
    refine wpH_take (i := 15) (v := undef) (some 41) rfl rfl (by kernel_rfl) (by kernel_rfl) (by kernel_rfl) (fun _ _ _ h => h) (Or.inr ⟨by rfl, rfl⟩) s0 ?_
    try simp only [Go.Act.put, List.setIfInBounds_toArray, List.set_cons_zero, List.set_cons_succ]
    refine wpH_take (i := 16) (v := undef) (some 42) rfl rfl (by kernel_rfl) (by kernel_rfl) (by kernel_rfl) (fun _ _ _ h => h) (Or.inr ⟨by rfl, rfl⟩) s0 ?_
    try simp only [Go.Act.put, List.setIfInBounds_toArray, List.set_cons_zero, List.set_cons_succ]
    refine wpH_take (i := 17) (v := undef) (some 43) rfl rfl (by kernel_rfl) (by kernel_rfl) (by kernel_rfl) (fun _ _ _ h => h) (Or.inr ⟨by rfl, rfl⟩) s0 ?_
    try simp only [Go.Act.put, List.setIfInBounds_toArray, List.set_cons_zero, List.set_cons_succ]
    refine wpH_take (i := 18) (v := undef) (some 44) rfl rfl (by kernel_rfl) (by kernel_rfl) (by kernel_rfl) (fun _ _ _ h => h) (Or.inr ⟨by rfl, rfl⟩) s0 ?_
    try simp only [Go.Act.put, List.setIfInBounds_toArray, List.set_cons_zero, List.set_cons_succ]
    refine wpH_take (i := 19) (v := undef) (some 45) rfl rfl (by kernel_rfl) (by kernel_rfl) (by kernel_rfl) (fun _ _ _ h => h) (Or.inr ⟨by rfl, rfl⟩) s0 ?_
    try simp only [Go.Act.put, List.setIfInBounds_toArray, List.set_cons_zero, List.set_cons_succ]
    refine wpH_take (i := 20) (v := undef) (some 46) rfl rfl (by kernel_rfl) (by kernel_rfl) (by kernel_rfl) (fun _ _ _ h => h) (Or.inr ⟨by rfl, rfl⟩) s0 ?_
    try simp only [Go.Act.put, List.setIfInBounds_toArray, List.set_cons_zero, List.set_cons_succ]
    refine wpH_take (i := 21) (v := (.bool true)) (some 47) rfl rfl (by kernel_rfl) (by kernel_rfl) (by kernel_rfl) (fun _ _ _ h => h) (Or.inl ⟨by rfl, fun w' hS => (by go_simp)⟩) s0 ?_
    try simp only [Go.Act.put, List.setIfInBounds_toArray, List.set_cons_zero, List.set_cons_succ]
    refine wpAnyH_done (by kernel_rfl) ?_ _
    have SE := hid s0
    clear sX0 sX1 sX2 sX3 sX4 sX5 sX6 sM7 s0
    go_wp2
    go_ret
    exact ⟨rfl, TU.out.trans' SE.out⟩
set_option maxHeartbeats 4000000 in
set_option maxRecDepth 100000 in
theorem next40_B (w : World) (m b o : Nat) (G : List Nat) (c : Cf) (now : Int) (xs : List En) (h : Mb w m b o G c now xs) (x : En) (hk : Ok x.1) (hp : pairE x.1 x.2.1 = 0) (hf : fnd xs x.1 = none) (hkc : keepsC c x.2.1 = false) : Calls Tryz.prog 85 #[PT m, nv x] w fun e w' => e = .returned (.int .i64 1) ∧ Touch [] w w' := by
  obtain ⟨V, hV⟩ : ∃ V, V = w.alloc (.cells #[.int .u16 x.1.1, .string x.1.2, .int .i64 x.2.1.1, .int .i64 x.2.1.2.1, .int .i64 x.2.1.2.2.1, .int .i64 x.2.1.2.2.2, .int .i64 x.2.2] 60) := ⟨_, rfl⟩
  have TV : Hid (Touch [] w V) := hid (by rw [hV]; exact (Touch.refl _ _).alloc _)
  have HX : Hid (∀ w', Touch [] V w' → w'.cell? ⟨w.heap.size, 0, none⟩ = some (.int .u16 x.1.1) ∧ w'.cell? ⟨w.heap.size, 1, none⟩ = some (.string x.1.2) ∧ w'.cell? ⟨w.heap.size, 2, none⟩ = some (.int .i64 x.2.1.1) ∧ w'.cell? ⟨w.heap.size, 3, none⟩ = some (.int .i64 x.2.1.2.1) ∧ w'.cell? ⟨w.heap.size, 4, none⟩ = some (.int .i64 x.2.1.2.2.1) ∧ w'.cell? ⟨w.heap.size, 5, none⟩ = some (.int .i64 x.2.1.2.2.2) ∧ w'.cell? ⟨w.heap.size, 6, none⟩ = some (.int .i64 x.2.2)) := hid (fun w' t => by
    have := t.keep (k := w.heap.size) (by rw [hV]; exact heap_alloc_new w _) (by simp)
    simp [World.cell?, this])
  obtain ⟨x0, x1, x2, x3, x4, x5, x6⟩ := HX.out V (Touch.refl _ _)
  have HP := hid (pair46 V x.1 x.2.1)
  unfold kv ov at HP
  rw [hp] at HP
  clear hp
  have HKq : Hid (∀ wu w' : World, Mb wu m b o G c now xs → Touch [] wu w' → Calls Tryz.prog 75 #[.pointer (some ⟨m, 0, none⟩), .agg #[.int .i64 x.2.1.1, .int .i64 x.2.1.2.1, .int .i64 x.2.1.2.2.1, .int .i64 x.2.1.2.2.2]] w' fun e w'' => e = .returned (.bool (keepsC c x.2.1)) ∧ Touch [] wu w'') := hid (fun wu w' hu t => (keeps47 w' m c now b o (hu.keep0 t).md x.2.1).mono (by
    rintro e w'' ⟨rfl, t2⟩
    exact ⟨rfl, t.trans' t2⟩))
  rw [hkc] at HKq
  clear hkc
  unfold PT nv
  go_enter Tryz.func85, Tryz.ntmps85
  go_upto_region 1 with fail
  rw [← hV]
  clear hV
  go_upto_region 4 with (go_at_call 74; refine HP.out.mono ?_; rintro e w2 ⟨rfl, t2⟩; have T2 := hid (TV.out.trans' t2); have T2v := hid t2; clear t2)
  clear x0 x1 x2 x3 x4 x5 x6
  have sA : ∀ w', Touch [] w2 w' → w'.cell? ⟨m, 8, none⟩ = some (.map (some b)) := fun w' t => (h.keep0 (T2.out.trans' t)).md.cs.c8
  have sB : ∀ w', Touch [] w2 w' → w'.cell? ⟨w.heap.size, 0, none⟩ = some (.int .u16 x.1.1) := fun w' t => (HX.out w' (T2v.out.trans' t)).1
  have sC : ∀ w', Touch [] w2 w' → w'.cell? ⟨w.heap.size, 1, none⟩ = some (.string x.1.2) := fun w' t => (HX.out w' (T2v.out.trans' t)).2.1
  have sL : ∀ w', Touch [] w2 w' → (Instr.lookup 141 (.map (some b)) (.agg #[.int .u16 x.1.1, .string x.1.2]) true).run Tryz.prog w' = .ok (.tuple #[.agg #[.int .i64 0, .int .i64 0, .int .i64 0, .int .i64 0, .int .i64 0], .bool false]) w' := fun w' t => by
    have := (h.keep0 (T2.out.trans' t)).look hk
    rw [hf] at this
    exact this
  obtain ⟨U, hU⟩ : ∃ U, U = (w2.alloc (.cells #[.int .i64 0, .int .i64 0, .int .i64 0, .int .i64 0, .int .i64 0] 147)).drew := ⟨_, rfl⟩
  have TU2 : Touch [] w2 U := by rw [hU]; exact ((Touch.refl _ _).alloc _).drew
  have TU : Hid (Touch [] w U) := hid (T2.out.trans' TU2)
  have HM := hid (h.keep0 TU.out)
  have HXU := hid (fun w' (t : Touch [] U w') => HX.out w' ((T2v.out.trans' TU2).trans' t))
  have t0 : Touch [] w2 w2.drew := (Touch.refl _ _).drew
  go_region_held3 (fun w' => Touch [] w2 w') (repeat (first | assumption | exact Touch.refl _ _ | apply Touch.alloc | apply Touch.drew | (refine Touch.setCell ?_ (Or.inr (by simp)) _))) (fail)
  all_goals
    clear sA sB sC sL t0
    rw [← hU]
    clear hU TU2
    go_upto_region 5 with fail
    have sM7 : ∀ w', Touch [] U w' → w'.cell? ⟨m, 7, none⟩ = some (.int .i64 now) := fun w' t => (HM.out.keep0 t).md.cs.c7
    have sX0 : ∀ w', Touch [] U w' → w'.cell? ⟨w.heap.size, 0, none⟩ = some (.int .u16 x.1.1) := fun w' t => (HXU.out w' t).1
    have sX1 : ∀ w', Touch [] U w' → w'.cell? ⟨w.heap.size, 1, none⟩ = some (.string x.1.2) := fun w' t => (HXU.out w' t).2.1
    have sX2 : ∀ w', Touch [] U w' → w'.cell? ⟨w.heap.size, 2, none⟩ = some (.int .i64 x.2.1.1) := fun w' t => (HXU.out w' t).2.2.1
    have sX3 : ∀ w', Touch [] U w' → w'.cell? ⟨w.heap.size, 3, none⟩ = some (.int .i64 x.2.1.2.1) := fun w' t => (HXU.out w' t).2.2.2.1
    have sX4 : ∀ w', Touch [] U w' → w'.cell? ⟨w.heap.size, 4, none⟩ = some (.int .i64 x.2.1.2.2.1) := fun w' t => (HXU.out w' t).2.2.2.2.1
    have sX5 : ∀ w', Touch [] U w' → w'.cell? ⟨w.heap.size, 5, none⟩ = some (.int .i64 x.2.1.2.2.2) := fun w' t => (HXU.out w' t).2.2.2.2.2.1
    have sX6 : ∀ w', Touch [] U w' → w'.cell? ⟨w.heap.size, 6, none⟩ = some (.int .i64 x.2.2) := fun w' t => (HXU.out w' t).2.2.2.2.2.2
    have HKp := hid (fun w' t => HKq.out U w' HM.out t)
    have s0 : Touch [] U U.drew := (Touch.refl _ _).drew
    refine wp_region_H (S := fun w' => Touch [] U w') (by kernel_rfl) ?_
    refine wpH_take (i := 0) (v := (.bool false)) (some 26) rfl rfl (by kernel_rfl) (by kernel_rfl) (by kernel_rfl) (fun _ _ _ h => h) (Or.inl ⟨by rfl, fun w' hS => (by go_simp)⟩) s0 ?_
    try simp only [Go.Act.put, List.setIfInBounds_toArray, List.set_cons_zero, List.set_cons_succ]
    refine wpH_take (i := 1) (v := (.bool false)) (some 27) rfl rfl (by kernel_rfl) (by kernel_rfl) (by kernel_rfl) (fun _ _ _ h => h) (Or.inl ⟨by rfl, fun w' hS => (by go_simp)⟩) s0 ?_
    try simp only [Go.Act.put, List.setIfInBounds_toArray, List.set_cons_zero, List.set_cons_succ]
    refine wpH_take (i := 2) (v := (.pointer (some ⟨m, 0, none⟩))) (some 28) rfl rfl (by kernel_rfl) (by kernel_rfl) (by kernel_rfl) (fun _ _ _ h => h) (Or.inl ⟨by rfl, fun w' hS => (by go_simp)⟩) s0 ?_
    try simp only [Go.Act.put, List.setIfInBounds_toArray, List.set_cons_zero, List.set_cons_succ]
    refine wpH_take (i := 3) (v := (.pointer (some ⟨w.heap.size, 2, none⟩))) (some 29) rfl rfl (by kernel_rfl) (by kernel_rfl) (by kernel_rfl) (fun _ _ _ h => h) (Or.inl ⟨by rfl, fun w' hS => (by go_simp)⟩) s0 ?_
    try simp only [Go.Act.put, List.setIfInBounds_toArray, List.set_cons_zero, List.set_cons_succ]
    refine wpH_take (i := 4) (v := (.agg #[.int .i64 x.2.1.1, .int .i64 x.2.1.2.1, .int .i64 x.2.1.2.2.1, .int .i64 x.2.1.2.2.2])) (some 30) rfl rfl (by kernel_rfl) (by kernel_rfl) (by kernel_rfl) (fun _ _ _ h => h) (Or.inl ⟨by rfl, fun w' hS => (by have z0 := sX2 _ hS; have z1 := sX3 _ hS; have z2 := sX4 _ hS; have z3 := sX5 _ hS; go_simp)⟩) s0 ?_
    try simp only [Go.Act.put, List.setIfInBounds_toArray, List.set_cons_zero, List.set_cons_succ]
    refine wpH_call (i := 5) (o := { dst := some 31, op := Op.call { callee := Callee.value (Operand.func 75), args := #[Operand.tmp 28, Operand.tmp 30], argTypes := #[28, 58] }, type := 4, pos := _, after := #[{ on := 2, ground := Ground.data }, { on := 4, ground := Ground.data }, { on := 1, ground := Ground.chain }, { on := 1, ground := Ground.guard }], guard := some (1, false) }) (by kernel_rfl) rfl (fun K' hK => ?_)
    rw [if_pos (by rfl)]
    go_simp
    refine (HKp.out _ s0).mono ?_
    rintro e w6 ⟨rfl, s1⟩
    refine hK.out _ _ s1 ?_
    clear hK
    try simp only [Go.Act.put, List.setIfInBounds_toArray, List.set_cons_zero, List.set_cons_succ]
    refine wpH_take (i := 6) (v := (.bool true)) (some 32) rfl rfl (by kernel_rfl) (by kernel_rfl) (by kernel_rfl) (fun _ _ _ h => h) (Or.inl ⟨by rfl, fun w' hS => (by go_simp)⟩) s1 ?_
    try simp only [Go.Act.put, List.setIfInBounds_toArray, List.set_cons_zero, List.set_cons_succ]
    refine wpH_take (i := 7) (v := (.bool true)) (some 33) rfl rfl (by kernel_rfl) (by kernel_rfl) (by kernel_rfl) (fun _ _ _ h => h) (Or.inl ⟨by rfl, fun w' hS => (by go_simp)⟩) s1 ?_
    try simp only [Go.Act.put, List.setIfInBounds_toArray, List.set_cons_zero, List.set_cons_succ]
    refine wpH_take (i := 8) (v := (.bool true)) (some 34) rfl rfl (by kernel_rfl) (by kernel_rfl) (by kernel_rfl) (fun _ _ _ h => h) (Or.inl ⟨by rfl, fun w' hS => (by go_simp)⟩) s1 ?_
    try simp only [Go.Act.put, List.setIfInBounds_toArray, List.set_cons_zero, List.set_cons_succ]
    refine wpH_take (i := 9) (v := undef) (some 35) rfl rfl (by kernel_rfl) (by kernel_rfl) (by kernel_rfl) (fun _ _ _ h => h) (Or.inr ⟨by rfl, rfl⟩) s1 ?_
    try simp only [Go.Act.put, List.setIfInBounds_toArray, List.set_cons_zero, List.set_cons_succ]
    refine wpH_take (i := 10) (v := undef) (some 36) rfl rfl (by kernel_rfl) (by kernel_rfl) (by kernel_rfl) (fun _ _ _ h => h) (Or.inr ⟨by rfl, rfl⟩) s1 ?_
    try simp only [Go.Act.put, List.setIfInBounds_toArray, List.set_cons_zero, List.set_cons_succ]
    refine wpH_take (i := 11) (v := undef) (some 37) rfl rfl (by kernel_rfl) (by kernel_rfl) (by kernel_rfl) (fun _ _ _ h => h) (Or.inr ⟨by rfl, rfl⟩) s1 ?_
    try simp only [Go.Act.put, List.setIfInBounds_toArray, List.set_cons_zero, List.set_cons_succ]
    refine wpH_take (i := 12) (v := (.bool true)) (some 38) rfl rfl (by kernel_rfl) (by kernel_rfl) (by kernel_rfl) (fun _ _ _ h => h) (Or.inl ⟨by rfl, fun w' hS => (by go_simp)⟩) s1 ?_
    try simp only [Go.Act.put, List.setIfInBounds_toArray, List.set_cons_zero, List.set_cons_succ]
    refine wpH_take (i := 13) (v := (.bool true)) (some 39) rfl rfl (by kernel_rfl) (by kernel_rfl) (by kernel_rfl) (fun _ _ _ h => h) (Or.inl ⟨by rfl, fun w' hS => (by go_simp)⟩) s1 ?_
    try simp only [Go.Act.put, List.setIfInBounds_toArray, List.set_cons_zero, List.set_cons_succ]
    refine wpH_take (i := 14) (v := undef) (some 40) rfl rfl (by kernel_rfl) (by kernel_rfl) (by kernel_rfl) (fun _ _ _ h => h) (Or.inr ⟨by rfl, rfl⟩) s1 ?_
    try simp only [Go.Act.put, List.setIfInBounds_toArray, List.set_cons_zero, List.set_cons_succ]
    refine wpH_take (i := 15) (v := undef) (some 41) rfl rfl (by kernel_rfl) (by kernel_rfl) (by kernel_rfl) (fun _ _ _ h => h) (Or.inr ⟨by rfl, rfl⟩) s1 ?_
    try simp only [Go.Act.put, List.setIfInBounds_toArray, List.set_cons_zero, List.set_cons_succ]
    refine wpH_take (i := 16) (v := undef) (some 42) rfl rfl (by kernel_rfl) (by kernel_rfl) (by kernel_rfl) (fun _ _ _ h => h) (Or.inr ⟨by rfl, rfl⟩) s1 ?_
    try simp only [Go.Act.put, List.setIfInBounds_toArray, List.set_cons_zero, List.set_cons_succ]
    refine wpH_take (i := 17) (v := undef) (some 43) rfl rfl (by kernel_rfl) (by kernel_rfl) (by kernel_rfl) (fun _ _ _ h => h) (Or.inr ⟨by rfl, rfl⟩) s1 ?_
    try simp only [Go.Act.put, List.setIfInBounds_toArray, List.set_cons_zero, List.set_cons_succ]
    refine wpH_take (i := 18) (v := undef) (some 44) rfl rfl (by kernel_rfl) (by kernel_rfl) (by kernel_rfl) (fun _ _ _ h => h) (Or.inr ⟨by rfl, rfl⟩) s1 ?_
    try simp only [Go.Act.put, List.setIfInBounds_toArray, List.set_cons_zero, List.set_cons_succ]
    refine wpH_take (i := 19) (v := undef) (some 45) rfl rfl (by kernel_rfl) (by kernel_rfl) (by kernel_rfl) (fun _ _ _ h => h) (Or.inr ⟨by rfl, rfl⟩) s1 ?_
    try simp only [Go.Act.put, List.setIfInBounds_toArray, List.set_cons_zero, List.set_cons_succ]
    refine wpH_take (i := 20) (v := undef) (some 46) rfl rfl (by kernel_rfl) (by kernel_rfl) (by kernel_rfl) (fun _ _ _ h => h) (Or.inr ⟨by rfl, rfl⟩) s1 ?_
    try simp only [Go.Act.put, List.setIfInBounds_toArray, List.set_cons_zero, List.set_cons_succ]
    refine wpH_take (i := 21) (v := (.bool true)) (some 47) rfl rfl (by kernel_rfl) (by kernel_rfl) (by kernel_rfl) (fun _ _ _ h => h) (Or.inl ⟨by rfl, fun w' hS => (by go_simp)⟩) s1 ?_
    try simp only [Go.Act.put, List.setIfInBounds_toArray, List.set_cons_zero, List.set_cons_succ]
    refine wpAnyH_done (by kernel_rfl) ?_ _
    have SE := hid s1
    clear sX0 sX1 sX2 sX3 sX4 sX5 sX6 sM7 s0 s1
    go_wp2
    go_ret
    exact ⟨rfl, TU.out.trans' SE.out⟩
set_option maxHeartbeats 4000000 in
set_option maxRecDepth 100000 in
theorem next40_C (w : World) (m b o : Nat) (G : List Nat) (c : Cf) (now : Int) (xs : List En) (h : Mb w m b o G c now xs) (x : En) (hk : Ok x.1) (hp : pairE x.1 x.2.1 = 0) (hf : fnd xs x.1 = none) (hkc : keepsC c x.2.1 = true) (ha : x.2.2 < 0) : Calls Tryz.prog 85 #[PT m, nv x] w fun e w' => e = .returned (.int .i64 1) ∧ Touch [] w w' := by
  obtain ⟨V, hV⟩ : ∃ V, V = w.alloc (.cells #[.int .u16 x.1.1, .string x.1.2, .int .i64 x.2.1.1, .int .i64 x.2.1.2.1, .int .i64 x.2.1.2.2.1, .int .i64 x.2.1.2.2.2, .int .i64 x.2.2] 60) := ⟨_, rfl⟩
  have TV : Hid (Touch [] w V) := hid (by rw [hV]; exact (Touch.refl _ _).alloc _)
  have HX : Hid (∀ w', Touch [] V w' → w'.cell? ⟨w.heap.size, 0, none⟩ = some (.int .u16 x.1.1) ∧ w'.cell? ⟨w.heap.size, 1, none⟩ = some (.string x.1.2) ∧ w'.cell? ⟨w.heap.size, 2, none⟩ = some (.int .i64 x.2.1.1) ∧ w'.cell? ⟨w.heap.size, 3, none⟩ = some (.int .i64 x.2.1.2.1) ∧ w'.cell? ⟨w.heap.size, 4, none⟩ = some (.int .i64 x.2.1.2.2.1) ∧ w'.cell? ⟨w.heap.size, 5, none⟩ = some (.int .i64 x.2.1.2.2.2) ∧ w'.cell? ⟨w.heap.size, 6, none⟩ = some (.int .i64 x.2.2)) := hid (fun w' t => by
    have := t.keep (k := w.heap.size) (by rw [hV]; exact heap_alloc_new w _) (by simp)
    simp [World.cell?, this])
  obtain ⟨x0, x1, x2, x3, x4, x5, x6⟩ := HX.out V (Touch.refl _ _)
  have HP := hid (pair46 V x.1 x.2.1)
  unfold kv ov at HP
  rw [hp] at HP
  clear hp
  have HKq : Hid (∀ wu w' : World, Mb wu m b o G c now xs → Touch [] wu w' → Calls Tryz.prog 75 #[.pointer (some ⟨m, 0, none⟩), .agg #[.int .i64 x.2.1.1, .int .i64 x.2.1.2.1, .int .i64 x.2.1.2.2.1, .int .i64 x.2.1.2.2.2]] w' fun e w'' => e = .returned (.bool (keepsC c x.2.1)) ∧ Touch [] wu w'') := hid (fun wu w' hu t => (keeps47 w' m c now b o (hu.keep0 t).md x.2.1).mono (by
    rintro e w'' ⟨rfl, t2⟩
    exact ⟨rfl, t.trans' t2⟩))
  rw [hkc] at HKq
  clear hkc
  unfold PT nv
  go_enter Tryz.func85, Tryz.ntmps85
  go_upto_region 1 with fail
  rw [← hV]
  clear hV
  go_upto_region 4 with (go_at_call 74; refine HP.out.mono ?_; rintro e w2 ⟨rfl, t2⟩; have T2 := hid (TV.out.trans' t2); have T2v := hid t2; clear t2)
  clear x0 x1 x2 x3 x4 x5 x6
  have sA : ∀ w', Touch [] w2 w' → w'.cell? ⟨m, 8, none⟩ = some (.map (some b)) := fun w' t => (h.keep0 (T2.out.trans' t)).md.cs.c8
  have sB : ∀ w', Touch [] w2 w' → w'.cell? ⟨w.heap.size, 0, none⟩ = some (.int .u16 x.1.1) := fun w' t => (HX.out w' (T2v.out.trans' t)).1
  have sC : ∀ w', Touch [] w2 w' → w'.cell? ⟨w.heap.size, 1, none⟩ = some (.string x.1.2) := fun w' t => (HX.out w' (T2v.out.trans' t)).2.1
  have sL : ∀ w', Touch [] w2 w' → (Instr.lookup 141 (.map (some b)) (.agg #[.int .u16 x.1.1, .string x.1.2]) true).run Tryz.prog w' = .ok (.tuple #[.agg #[.int .i64 0, .int .i64 0, .int .i64 0, .int .i64 0, .int .i64 0], .bool false]) w' := fun w' t => by
    have := (h.keep0 (T2.out.trans' t)).look hk
    rw [hf] at this
    exact this
  obtain ⟨U, hU⟩ : ∃ U, U = (w2.alloc (.cells #[.int .i64 0, .int .i64 0, .int .i64 0, .int .i64 0, .int .i64 0] 147)).drew := ⟨_, rfl⟩
  have TU2 : Touch [] w2 U := by rw [hU]; exact ((Touch.refl _ _).alloc _).drew
  have TU : Hid (Touch [] w U) := hid (T2.out.trans' TU2)
  have HM := hid (h.keep0 TU.out)
  have HXU := hid (fun w' (t : Touch [] U w') => HX.out w' ((T2v.out.trans' TU2).trans' t))
  have t0 : Touch [] w2 w2.drew := (Touch.refl _ _).drew
  go_region_held3 (fun w' => Touch [] w2 w') (repeat (first | assumption | exact Touch.refl _ _ | apply Touch.alloc | apply Touch.drew | (refine Touch.setCell ?_ (Or.inr (by simp)) _))) (fail)
  all_goals
    clear sA sB sC sL t0
    rw [← hU]
    clear hU TU2
    go_upto_region 5 with fail
    have sM7 : ∀ w', Touch [] U w' → w'.cell? ⟨m, 7, none⟩ = some (.int .i64 now) := fun w' t => (HM.out.keep0 t).md.cs.c7
    have sX0 : ∀ w', Touch [] U w' → w'.cell? ⟨w.heap.size, 0, none⟩ = some (.int .u16 x.1.1) := fun w' t => (HXU.out w' t).1
    have sX1 : ∀ w', Touch [] U w' → w'.cell? ⟨w.heap.size, 1, none⟩ = some (.string x.1.2) := fun w' t => (HXU.out w' t).2.1
    have sX2 : ∀ w', Touch [] U w' → w'.cell? ⟨w.heap.size, 2, none⟩ = some (.int .i64 x.2.1.1) := fun w' t => (HXU.out w' t).2.2.1
    have sX3 : ∀ w', Touch [] U w' → w'.cell? ⟨w.heap.size, 3, none⟩ = some (.int .i64 x.2.1.2.1) := fun w' t => (HXU.out w' t).2.2.2.1
    have sX4 : ∀ w', Touch [] U w' → w'.cell? ⟨w.heap.size, 4, none⟩ = some (.int .i64 x.2.1.2.2.1) := fun w' t => (HXU.out w' t).2.2.2.2.1
    have sX5 : ∀ w', Touch [] U w' → w'.cell? ⟨w.heap.size, 5, none⟩ = some (.int .i64 x.2.1.2.2.2) := fun w' t => (HXU.out w' t).2.2.2.2.2.1
    have sX6 : ∀ w', Touch [] U w' → w'.cell? ⟨w.heap.size, 6, none⟩ = some (.int .i64 x.2.2) := fun w' t => (HXU.out w' t).2.2.2.2.2.2
    have HKp := hid (fun w' t => HKq.out U w' HM.out t)
    have s0 : Touch [] U U.drew := (Touch.refl _ _).drew
    refine wp_region_H (S := fun w' => Touch [] U w') (by kernel_rfl) ?_
    refine wpH_take (i := 0) (v := (.bool false)) (some 26) rfl rfl (by kernel_rfl) (by kernel_rfl) (by kernel_rfl) (fun _ _ _ h => h) (Or.inl ⟨by rfl, fun w' hS => (by go_simp)⟩) s0 ?_
    try simp only [Go.Act.put, List.setIfInBounds_toArray, List.set_cons_zero, List.set_cons_succ]
    refine wpH_take (i := 1) (v := (.bool false)) (some 27) rfl rfl (by kernel_rfl) (by kernel_rfl) (by kernel_rfl) (fun _ _ _ h => h) (Or.inl ⟨by rfl, fun w' hS => (by go_simp)⟩) s0 ?_
    try simp only [Go.Act.put, List.setIfInBounds_toArray, List.set_cons_zero, List.set_cons_succ]
    refine wpH_take (i := 2) (v := (.pointer (some ⟨m, 0, none⟩))) (some 28) rfl rfl (by kernel_rfl) (by kernel_rfl) (by kernel_rfl) (fun _ _ _ h => h) (Or.inl ⟨by rfl, fun w' hS => (by go_simp)⟩) s0 ?_
    try simp only [Go.Act.put, List.setIfInBounds_toArray, List.set_cons_zero, List.set_cons_succ]
    refine wpH_take (i := 3) (v := (.pointer (some ⟨w.heap.size, 2, none⟩))) (some 29) rfl rfl (by kernel_rfl) (by kernel_rfl) (by kernel_rfl) (fun _ _ _ h => h) (Or.inl ⟨by rfl, fun w' hS => (by go_simp)⟩) s0 ?_
    try simp only [Go.Act.put, List.setIfInBounds_toArray, List.set_cons_zero, List.set_cons_succ]
    refine wpH_take (i := 4) (v := (.agg #[.int .i64 x.2.1.1, .int .i64 x.2.1.2.1, .int .i64 x.2.1.2.2.1, .int .i64 x.2.1.2.2.2])) (some 30) rfl rfl (by kernel_rfl) (by kernel_rfl) (by kernel_rfl) (fun _ _ _ h => h) (Or.inl ⟨by rfl, fun w' hS => (by have z0 := sX2 _ hS; have z1 := sX3 _ hS; have z2 := sX4 _ hS; have z3 := sX5 _ hS; go_simp)⟩) s0 ?_
    try simp only [Go.Act.put, List.setIfInBounds_toArray, List.set_cons_zero, List.set_cons_succ]
    refine wpH_call (i := 5) (o := { dst := some 31, op := Op.call { callee := Callee.value (Operand.func 75), args := #[Operand.tmp 28, Operand.tmp 30], argTypes := #[28, 58] }, type := 4, pos := _, after := #[{ on := 2, ground := Ground.data }, { on := 4, ground := Ground.data }, { on := 1, ground := Ground.chain }, { on := 1, ground := Ground.guard }], guard := some (1, false) }) (by kernel_rfl) rfl (fun K' hK => ?_)
    rw [if_pos (by rfl)]
    go_simp
    refine (HKp.out _ s0).mono ?_
    rintro e w6 ⟨rfl, s1⟩
    refine hK.out _ _ s1 ?_
    clear hK
    try simp only [Go.Act.put, List.setIfInBounds_toArray, List.set_cons_zero, List.set_cons_succ]
    refine wpH_take (i := 6) (v := (.bool false)) (some 32) rfl rfl (by kernel_rfl) (by kernel_rfl) (by kernel_rfl) (fun _ _ _ h => h) (Or.inl ⟨by rfl, fun w' hS => (by go_simp)⟩) s1 ?_
    try simp only [Go.Act.put, List.setIfInBounds_toArray, List.set_cons_zero, List.set_cons_succ]
    refine wpH_take (i := 7) (v := (.bool false)) (some 33) rfl rfl (by kernel_rfl) (by kernel_rfl) (by kernel_rfl) (fun _ _ _ h => h) (Or.inl ⟨by rfl, fun w' hS => (by go_simp)⟩) s1 ?_
    try simp only [Go.Act.put, List.setIfInBounds_toArray, List.set_cons_zero, List.set_cons_succ]
    refine wpH_take (i := 8) (v := (.bool false)) (some 34) rfl rfl (by kernel_rfl) (by kernel_rfl) (by kernel_rfl) (fun _ _ _ h => h) (Or.inl ⟨by rfl, fun w' hS => (by go_simp)⟩) s1 ?_
    try simp only [Go.Act.put, List.setIfInBounds_toArray, List.set_cons_zero, List.set_cons_succ]
    refine wpH_take (i := 9) (v := (.pointer (some ⟨w.heap.size, 6, none⟩))) (some 35) rfl rfl (by kernel_rfl) (by kernel_rfl) (by kernel_rfl) (fun _ _ _ h => h) (Or.inl ⟨by rfl, fun w' hS => (by go_simp)⟩) s1 ?_
    try simp only [Go.Act.put, List.setIfInBounds_toArray, List.set_cons_zero, List.set_cons_succ]
    refine wpH_take (i := 10) (v := (.int .i64 x.2.2)) (some 36) rfl rfl (by kernel_rfl) (by kernel_rfl) (by kernel_rfl) (fun _ _ _ h => h) (Or.inl ⟨by rfl, fun w' hS => (by have z0 := sX6 _ hS; go_simp)⟩) s1 ?_
    try simp only [Go.Act.put, List.setIfInBounds_toArray, List.set_cons_zero, List.set_cons_succ]
    refine wpH_take (i := 11) (v := (.bool true)) (some 37) rfl rfl (by kernel_rfl) (by kernel_rfl) (by kernel_rfl) (fun _ _ _ h => h) (Or.inl ⟨by rfl, fun w' hS => (by go_simp)⟩) s1 ?_
    try simp only [Go.Act.put, List.setIfInBounds_toArray, List.set_cons_zero, List.set_cons_succ]
    refine wpH_take (i := 12) (v := (.bool true)) (some 38) rfl rfl (by kernel_rfl) (by kernel_rfl) (by kernel_rfl) (fun _ _ _ h => h) (Or.inl ⟨by rfl, fun w' hS => (by go_simp)⟩) s1 ?_
    try simp only [Go.Act.put, List.setIfInBounds_toArray, List.set_cons_zero, List.set_cons_succ]
    refine wpH_take (i := 13) (v := (.bool true)) (some 39) rfl rfl (by kernel_rfl) (by kernel_rfl) (by kernel_rfl) (fun _ _ _ h => h) (Or.inl ⟨by rfl, fun w' hS => (by go_simp)⟩) s1 ?_
    try simp only [Go.Act.put, List.setIfInBounds_toArray, List.set_cons_zero, List.set_cons_succ]
    refine wpH_take (i := 14) (v := undef) (some 40) rfl rfl (by kernel_rfl) (by kernel_rfl) (by kernel_rfl) (fun _ _ _ h => h) (Or.inr ⟨by rfl, rfl⟩) s1 ?_
    try simp only [Go.Act.put, List.setIfInBounds_toArray, List.set_cons_zero, List.set_cons_succ]
    refine wpH_take (i := 15) (v := undef) (some 41) rfl rfl (by kernel_rfl) (by kernel_rfl) (by kernel_rfl) (fun _ _ _ h => h) (Or.inr ⟨by rfl, rfl⟩) s1 ?_
    try simp only [Go.Act.put, List.setIfInBounds_toArray, List.set_cons_zero, List.set_cons_succ]
    refine wpH_take (i := 16) (v := undef) (some 42) rfl rfl (by kernel_rfl) (by kernel_rfl) (by kernel_rfl) (fun _ _ _ h => h) (Or.inr ⟨by rfl, rfl⟩) s1 ?_
    try simp only [Go.Act.put, List.setIfInBounds_toArray, List.set_cons_zero, List.set_cons_succ]
    refine wpH_take (i := 17) (v := undef) (some 43) rfl rfl (by kernel_rfl) (by kernel_rfl) (by kernel_rfl) (fun _ _ _ h => h) (Or.inr ⟨by rfl, rfl⟩) s1 ?_
    try simp only [Go.Act.put, List.setIfInBounds_toArray, List.set_cons_zero, List.set_cons_succ]
    refine wpH_take (i := 18) (v := undef) (some 44) rfl rfl (by kernel_rfl) (by kernel_rfl) (by kernel_rfl) (fun _ _ _ h => h) (Or.inr ⟨by rfl, rfl⟩) s1 ?_
    try simp only [Go.Act.put, List.setIfInBounds_toArray, List.set_cons_zero, List.set_cons_succ]
    refine wpH_take (i := 19) (v := undef) (some 45) rfl rfl (by kernel_rfl) (by kernel_rfl) (by kernel_rfl) (fun _ _ _ h => h) (Or.inr ⟨by rfl, rfl⟩) s1 ?_
    try simp only [Go.Act.put, List.setIfInBounds_toArray, List.set_cons_zero, List.set_cons_succ]
    refine wpH_take (i := 20) (v := undef) (some 46) rfl rfl (by kernel_rfl) (by kernel_rfl) (by kernel_rfl) (fun _ _ _ h => h) (Or.inr ⟨by rfl, rfl⟩) s1 ?_
    try simp only [Go.Act.put, List.setIfInBounds_toArray, List.set_cons_zero, List.set_cons_succ]
    refine wpH_take (i := 21) (v := (.bool true)) (some 47) rfl rfl (by kernel_rfl) (by kernel_rfl) (by kernel_rfl) (fun _ _ _ h => h) (Or.inl ⟨by rfl, fun w' hS => (by go_simp)⟩) s1 ?_
    try simp only [Go.Act.put, List.setIfInBounds_toArray, List.set_cons_zero, List.set_cons_succ]
    refine wpAnyH_done (by kernel_rfl) ?_ _
    have SE := hid s1
    clear sX0 sX1 sX2 sX3 sX4 sX5 sX6 sM7 s0 s1
    go_wp2
    go_ret
    exact ⟨rfl, TU.out.trans' SE.out⟩
set_option maxHeartbeats 4000000 in
set_option maxRecDepth 100000 in
theorem next40_D (w : World) (m b o : Nat) (G : List Nat) (c : Cf) (now : Int) (xs : List En) (h : Mb w m b o G c now xs) (x : En) (hk : Ok x.1) (hp : pairE x.1 x.2.1 = 0) (hf : fnd xs x.1 = none) (hkc : keepsC c x.2.1 = true) (ha : ¬ x.2.2 < 0) (hb : now < x.2.2) : Calls Tryz.prog 85 #[PT m, nv x] w fun e w' => e = .returned (.int .i64 1) ∧ Touch [] w w' := by
  obtain ⟨V, hV⟩ : ∃ V, V = w.alloc (.cells #[.int .u16 x.1.1, .string x.1.2, .int .i64 x.2.1.1, .int .i64 x.2.1.2.1, .int .i64 x.2.1.2.2.1, .int .i64 x.2.1.2.2.2, .int .i64 x.2.2] 60) := ⟨_, rfl⟩
  have TV : Hid (Touch [] w V) := hid (by rw [hV]; exact (Touch.refl _ _).alloc _)
  have HX : Hid (∀ w', Touch [] V w' → w'.cell? ⟨w.heap.size, 0, none⟩ = some (.int .u16 x.1.1) ∧ w'.cell? ⟨w.heap.size, 1, none⟩ = some (.string x.1.2) ∧ w'.cell? ⟨w.heap.size, 2, none⟩ = some (.int .i64 x.2.1.1) ∧ w'.cell? ⟨w.heap.size, 3, none⟩ = some (.int .i64 x.2.1.2.1) ∧ w'.cell? ⟨w.heap.size, 4, none⟩ = some (.int .i64 x.2.1.2.2.1) ∧ w'.cell? ⟨w.heap.size, 5, none⟩ = some (.int .i64 x.2.1.2.2.2) ∧ w'.cell? ⟨w.heap.size, 6, none⟩ = some (.int .i64 x.2.2)) := hid (fun w' t => by
    have := t.keep (k := w.heap.size) (by rw [hV]; exact heap_alloc_new w _) (by simp)
    simp [World.cell?, this])
  obtain ⟨x0, x1, x2, x3, x4, x5, x6⟩ := HX.out V (Touch.refl _ _)
  have HP := hid (pair46 V x.1 x.2.1)
  unfold kv ov at HP
  rw [hp] at HP
  clear hp
  have HKq : Hid (∀ wu w' : World, Mb wu m b o G c now xs → Touch [] wu w' → Calls Tryz.prog 75 #[.pointer (some ⟨m, 0, none⟩), .agg #[.int .i64 x.2.1.1, .int .i64 x.2.1.2.1, .int .i64 x.2.1.2.2.1, .int .i64 x.2.1.2.2.2]] w' fun e w'' => e = .returned (.bool (keepsC c x.2.1)) ∧ Touch [] wu w'') := hid (fun wu w' hu t => (keeps47 w' m c now b o (hu.keep0 t).md x.2.1).mono (by
    rintro e w'' ⟨rfl, t2⟩
    exact ⟨rfl, t.trans' t2⟩))
  rw [hkc] at HKq
  clear hkc
  unfold PT nv
  go_enter Tryz.func85, Tryz.ntmps85
  go_upto_region 1 with fail
  rw [← hV]
  clear hV
  go_upto_region 4 with (go_at_call 74; refine HP.out.mono ?_; rintro e w2 ⟨rfl, t2⟩; have T2 := hid (TV.out.trans' t2); have T2v := hid t2; clear t2)
  clear x0 x1 x2 x3 x4 x5 x6
  have sA : ∀ w', Touch [] w2 w' → w'.cell? ⟨m, 8, none⟩ = some (.map (some b)) := fun w' t => (h.keep0 (T2.out.trans' t)).md.cs.c8
  have sB : ∀ w', Touch [] w2 w' → w'.cell? ⟨w.heap.size, 0, none⟩ = some (.int .u16 x.1.1) := fun w' t => (HX.out w' (T2v.out.trans' t)).1
  have sC : ∀ w', Touch [] w2 w' → w'.cell? ⟨w.heap.size, 1, none⟩ = some (.string x.1.2) := fun w' t => (HX.out w' (T2v.out.trans' t)).2.1
  have sL : ∀ w', Touch [] w2 w' → (Instr.lookup 141 (.map (some b)) (.agg #[.int .u16 x.1.1, .string x.1.2]) true).run Tryz.prog w' = .ok (.tuple #[.agg #[.int .i64 0, .int .i64 0, .int .i64 0, .int .i64 0, .int .i64 0], .bool false]) w' := fun w' t => by
    have := (h.keep0 (T2.out.trans' t)).look hk
    rw [hf] at this
    exact this
  obtain ⟨U, hU⟩ : ∃ U, U = (w2.alloc (.cells #[.int .i64 0, .int .i64 0, .int .i64 0, .int .i64 0, .int .i64 0] 147)).drew := ⟨_, rfl⟩
  have TU2 : Touch [] w2 U := by rw [hU]; exact ((Touch.refl _ _).alloc _).drew
  have TU : Hid (Touch [] w U) := hid (T2.out.trans' TU2)
  have HM := hid (h.keep0 TU.out)
  have HXU := hid (fun w' (t : Touch [] U w') => HX.out w' ((T2v.out.trans' TU2).trans' t))
  have t0 : Touch [] w2 w2.drew := (Touch.refl _ _).drew
  go_region_held3 (fun w' => Touch [] w2 w') (repeat (first | assumption | exact Touch.refl _ _ | apply Touch.alloc | apply Touch.drew | (refine Touch.setCell ?_ (Or.inr (by simp)) _))) (fail)
  all_goals
    clear sA sB sC sL t0
    rw [← hU]
    clear hU TU2
    go_upto_region 5 with fail
    have sM7 : ∀ w', Touch [] U w' → w'.cell? ⟨m, 7, none⟩ = some (.int .i64 now) := fun w' t => (HM.out.keep0 t).md.cs.c7
    have sX0 : ∀ w', Touch [] U w' → w'.cell? ⟨w.heap.size, 0, none⟩ = some (.int .u16 x.1.1) := fun w' t => (HXU.out w' t).1
    have sX1 : ∀ w', Touch [] U w' → w'.cell? ⟨w.heap.size, 1, none⟩ = some (.string x.1.2) := fun w' t => (HXU.out w' t).2.1
    have sX2 : ∀ w', Touch [] U w' → w'.cell? ⟨w.heap.size, 2, none⟩ = some (.int .i64 x.2.1.1) := fun w' t => (HXU.out w' t).2.2.1
    have sX3 : ∀ w', Touch [] U w' → w'.cell? ⟨w.heap.size, 3, none⟩ = some (.int .i64 x.2.1.2.1) := fun w' t => (HXU.out w' t).2.2.2.1
    have sX4 : ∀ w', Touch [] U w' → w'.cell? ⟨w.heap.size, 4, none⟩ = some (.int .i64 x.2.1.2.2.1) := fun w' t => (HXU.out w' t).2.2.2.2.1
    have sX5 : ∀ w', Touch [] U w' → w'.cell? ⟨w.heap.size, 5, none⟩ = some (.int .i64 x.2.1.2.2.2) := fun w' t => (HXU.out w' t).2.2.2.2.2.1
    have sX6 : ∀ w', Touch [] U w' → w'.cell? ⟨w.heap.size, 6, none⟩ = some (.int .i64 x.2.2) := fun w' t => (HXU.out w' t).2.2.2.2.2.2
    have HKp := hid (fun w' t => HKq.out U w' HM.out t)
    have s0 : Touch [] U U.drew := (Touch.refl _ _).drew
    refine wp_region_H (S := fun w' => Touch [] U w') (by kernel_rfl) ?_
    refine wpH_take (i := 0) (v := (.bool false)) (some 26) rfl rfl (by kernel_rfl) (by kernel_rfl) (by kernel_rfl) (fun _ _ _ h => h) (Or.inl ⟨by rfl, fun w' hS => (by go_simp)⟩) s0 ?_
    try simp only [Go.Act.put, List.setIfInBounds_toArray, List.set_cons_zero, List.set_cons_succ]
    refine wpH_take (i := 1) (v := (.bool false)) (some 27) rfl rfl (by kernel_rfl) (by kernel_rfl) (by kernel_rfl) (fun _ _ _ h => h) (Or.inl ⟨by rfl, fun w' hS => (by go_simp)⟩) s0 ?_
    try simp only [Go.Act.put, List.setIfInBounds_toArray, List.set_cons_zero, List.set_cons_succ]
    refine wpH_take (i := 2) (v := (.pointer (some ⟨m, 0, none⟩))) (some 28) rfl rfl (by kernel_rfl) (by kernel_rfl) (by kernel_rfl) (fun _ _ _ h => h) (Or.inl ⟨by rfl, fun w' hS => (by go_simp)⟩) s0 ?_
    try simp only [Go.Act.put, List.setIfInBounds_toArray, List.set_cons_zero, List.set_cons_succ]
    refine wpH_take (i := 3) (v := (.pointer (some ⟨w.heap.size, 2, none⟩))) (some 29) rfl rfl (by kernel_rfl) (by kernel_rfl) (by kernel_rfl) (fun _ _ _ h => h) (Or.inl ⟨by rfl, fun w' hS => (by go_simp)⟩) s0 ?_
    try simp only [Go.Act.put, List.setIfInBounds_toArray, List.set_cons_zero, List.set_cons_succ]
    refine wpH_take (i := 4) (v := (.agg #[.int .i64 x.2.1.1, .int .i64 x.2.1.2.1, .int .i64 x.2.1.2.2.1, .int .i64 x.2.1.2.2.2])) (some 30) rfl rfl (by kernel_rfl) (by kernel_rfl) (by kernel_rfl) (fun _ _ _ h => h) (Or.inl ⟨by rfl, fun w' hS => (by have z0 := sX2 _ hS; have z1 := sX3 _ hS; have z2 := sX4 _ hS; have z3 := sX5 _ hS; go_simp)⟩) s0 ?_
    try simp only [Go.Act.put, List.setIfInBounds_toArray, List.set_cons_zero, List.set_cons_succ]
    refine wpH_call (i := 5) (o := { dst := some 31, op := Op.call { callee := Callee.value (Operand.func 75), args := #[Operand.tmp 28, Operand.tmp 30], argTypes := #[28, 58] }, type := 4, pos := _, after := #[{ on := 2, ground := Ground.data }, { on := 4, ground := Ground.data }, { on := 1, ground := Ground.chain }, { on := 1, ground := Ground.guard }], guard := some (1, false) }) (by kernel_rfl) rfl (fun K' hK => ?_)
    rw [if_pos (by rfl)]
    go_simp
    refine (HKp.out _ s0).mono ?_
    rintro e w6 ⟨rfl, s1⟩
    refine hK.out _ _ s1 ?_
    clear hK
    try simp only [Go.Act.put, List.setIfInBounds_toArray, List.set_cons_zero, List.set_cons_succ]
    refine wpH_take (i := 6) (v := (.bool false)) (some 32) rfl rfl (by kernel_rfl) (by kernel_rfl) (by kernel_rfl) (fun _ _ _ h => h) (Or.inl ⟨by rfl, fun w' hS => (by go_simp)⟩) s1 ?_
    try simp only [Go.Act.put, List.setIfInBounds_toArray, List.set_cons_zero, List.set_cons_succ]
    refine wpH_take (i := 7) (v := (.bool false)) (some 33) rfl rfl (by kernel_rfl) (by kernel_rfl) (by kernel_rfl) (fun _ _ _ h => h) (Or.inl ⟨by rfl, fun w' hS => (by go_simp)⟩) s1 ?_
    try simp only [Go.Act.put, List.setIfInBounds_toArray, List.set_cons_zero, List.set_cons_succ]
    refine wpH_take (i := 8) (v := (.bool false)) (some 34) rfl rfl (by kernel_rfl) (by kernel_rfl) (by kernel_rfl) (fun _ _ _ h => h) (Or.inl ⟨by rfl, fun w' hS => (by go_simp)⟩) s1 ?_
    try simp only [Go.Act.put, List.setIfInBounds_toArray, List.set_cons_zero, List.set_cons_succ]
    refine wpH_take (i := 9) (v := (.pointer (some ⟨w.heap.size, 6, none⟩))) (some 35) rfl rfl (by kernel_rfl) (by kernel_rfl) (by kernel_rfl) (fun _ _ _ h => h) (Or.inl ⟨by rfl, fun w' hS => (by go_simp)⟩) s1 ?_
    try simp only [Go.Act.put, List.setIfInBounds_toArray, List.set_cons_zero, List.set_cons_succ]
    refine wpH_take (i := 10) (v := (.int .i64 x.2.2)) (some 36) rfl rfl (by kernel_rfl) (by kernel_rfl) (by kernel_rfl) (fun _ _ _ h => h) (Or.inl ⟨by rfl, fun w' hS => (by have z0 := sX6 _ hS; go_simp)⟩) s1 ?_
    try simp only [Go.Act.put, List.setIfInBounds_toArray, List.set_cons_zero, List.set_cons_succ]
    refine wpH_take (i := 11) (v := (.bool false)) (some 37) rfl rfl (by kernel_rfl) (by kernel_rfl) (by kernel_rfl) (fun _ _ _ h => h) (Or.inl ⟨by rfl, fun w' hS => (by go_simp)⟩) s1 ?_
    try simp only [Go.Act.put, List.setIfInBounds_toArray, List.set_cons_zero, List.set_cons_succ]
    refine wpH_take (i := 12) (v := (.bool false)) (some 38) rfl rfl (by kernel_rfl) (by kernel_rfl) (by kernel_rfl) (fun _ _ _ h => h) (Or.inl ⟨by rfl, fun w' hS => (by go_simp)⟩) s1 ?_
    try simp only [Go.Act.put, List.setIfInBounds_toArray, List.set_cons_zero, List.set_cons_succ]
    refine wpH_take (i := 13) (v := (.bool false)) (some 39) rfl rfl (by kernel_rfl) (by kernel_rfl) (by kernel_rfl) (fun _ _ _ h => h) (Or.inl ⟨by rfl, fun w' hS => (by go_simp)⟩) s1 ?_
    try simp only [Go.Act.put, List.setIfInBounds_toArray, List.set_cons_zero, List.set_cons_succ]
    refine wpH_take (i := 14) (v := (.pointer (some ⟨w.heap.size, 6, none⟩))) (some 40) rfl rfl (by kernel_rfl) (by kernel_rfl) (by kernel_rfl) (fun _ _ _ h => h) (Or.inl ⟨by rfl, fun w' hS => (by go_simp)⟩) s1 ?_
    try simp only [Go.Act.put, List.setIfInBounds_toArray, List.set_cons_zero, List.set_cons_succ]
    refine wpH_take (i := 15) (v := (.int .i64 x.2.2)) (some 41) rfl rfl (by kernel_rfl) (by kernel_rfl) (by kernel_rfl) (fun _ _ _ h => h) (Or.inl ⟨by rfl, fun w' hS => (by have z0 := sX6 _ hS; go_simp)⟩) s1 ?_
    try simp only [Go.Act.put, List.setIfInBounds_toArray, List.set_cons_zero, List.set_cons_succ]
    refine wpH_take (i := 16) (v := (.pointer (some ⟨m, 0, none⟩))) (some 42) rfl rfl (by kernel_rfl) (by kernel_rfl) (by kernel_rfl) (fun _ _ _ h => h) (Or.inl ⟨by rfl, fun w' hS => (by go_simp)⟩) s1 ?_
    try simp only [Go.Act.put, List.setIfInBounds_toArray, List.set_cons_zero, List.set_cons_succ]
    refine wpH_take (i := 17) (v := (.pointer (some ⟨m, 0, none⟩))) (some 43) rfl rfl (by kernel_rfl) (by kernel_rfl) (by kernel_rfl) (fun _ _ _ h => h) (Or.inl ⟨by rfl, fun w' hS => (by go_simp)⟩) s1 ?_
    try simp only [Go.Act.put, List.setIfInBounds_toArray, List.set_cons_zero, List.set_cons_succ]
    refine wpH_take (i := 18) (v := (.pointer (some ⟨m, 7, none⟩))) (some 44) rfl rfl (by kernel_rfl) (by kernel_rfl) (by kernel_rfl) (fun _ _ _ h => h) (Or.inl ⟨by rfl, fun w' hS => (by go_simp)⟩) s1 ?_
    try simp only [Go.Act.put, List.setIfInBounds_toArray, List.set_cons_zero, List.set_cons_succ]
    refine wpH_take (i := 19) (v := (.int .i64 now)) (some 45) rfl rfl (by kernel_rfl) (by kernel_rfl) (by kernel_rfl) (fun _ _ _ h => h) (Or.inl ⟨by rfl, fun w' hS => (by have z0 := sM7 _ hS; go_simp)⟩) s1 ?_
    try simp only [Go.Act.put, List.setIfInBounds_toArray, List.set_cons_zero, List.set_cons_succ]
    refine wpH_take (i := 20) (v := (.bool true)) (some 46) rfl rfl (by kernel_rfl) (by kernel_rfl) (by kernel_rfl) (fun _ _ _ h => h) (Or.inl ⟨by rfl, fun w' hS => (by go_simp)⟩) s1 ?_
    try simp only [Go.Act.put, List.setIfInBounds_toArray, List.set_cons_zero, List.set_cons_succ]
    refine wpH_take (i := 21) (v := (.bool true)) (some 47) rfl rfl (by kernel_rfl) (by kernel_rfl) (by kernel_rfl) (fun _ _ _ h => h) (Or.inl ⟨by rfl, fun w' hS => (by go_simp)⟩) s1 ?_
    try simp only [Go.Act.put, List.setIfInBounds_toArray, List.set_cons_zero, List.set_cons_succ]
    refine wpAnyH_done (by kernel_rfl) ?_ _
    have SE := hid s1
    clear sX0 sX1 sX2 sX3 sX4 sX5 sX6 sM7 s0 s1
    go_wp2
    go_ret
    exact ⟨rfl, TU.out.trans' SE.out⟩
set_option maxHeartbeats 4000000 in
set_option maxRecDepth 100000 in
theorem next40_E (w : World) (m b o : Nat) (G : List Nat) (c : Cf) (now : Int) (xs : List En) (h : Mb w m b o G c now xs) (x : En) (hk : Ok x.1) (hp : pairE x.1 x.2.1 = 0) (hf : fnd xs x.1 = none) (hkc : keepsC c x.2.1 = true) (ha : ¬ x.2.2 < 0) (hb : ¬ now < x.2.2) : Calls Tryz.prog 85 #[PT m, nv x] w fun e w' => e = .returned (.int .i64 0) ∧ Touch [] w w' := by
  obtain ⟨V, hV⟩ : ∃ V, V = w.alloc (.cells #[.int .u16 x.1.1, .string x.1.2, .int .i64 x.2.1.1, .int .i64 x.2.1.2.1, .int .i64 x.2.1.2.2.1, .int .i64 x.2.1.2.2.2, .int .i64 x.2.2] 60) := ⟨_, rfl⟩
  have TV : Hid (Touch [] w V) := hid (by rw [hV]; exact (Touch.refl _ _).alloc _)
  have HX : Hid (∀ w', Touch [] V w' → w'.cell? ⟨w.heap.size, 0, none⟩ = some (.int .u16 x.1.1) ∧ w'.cell? ⟨w.heap.size, 1, none⟩ = some (.string x.1.2) ∧ w'.cell? ⟨w.heap.size, 2, none⟩ = some (.int .i64 x.2.1.1) ∧ w'.cell? ⟨w.heap.size, 3, none⟩ = some (.int .i64 x.2.1.2.1) ∧ w'.cell? ⟨w.heap.size, 4, none⟩ = some (.int .i64 x.2.1.2.2.1) ∧ w'.cell? ⟨w.heap.size, 5, none⟩ = some (.int .i64 x.2.1.2.2.2) ∧ w'.cell? ⟨w.heap.size, 6, none⟩ = some (.int .i64 x.2.2)) := hid (fun w' t => by
    have := t.keep (k := w.heap.size) (by rw [hV]; exact heap_alloc_new w _) (by simp)
    simp [World.cell?, this])
  obtain ⟨x0, x1, x2, x3, x4, x5, x6⟩ := HX.out V (Touch.refl _ _)
  have HP := hid (pair46 V x.1 x.2.1)
  unfold kv ov at HP
  rw [hp] at HP
  clear hp
  have HKq : Hid (∀ wu w' : World, Mb wu m b o G c now xs → Touch [] wu w' → Calls Tryz.prog 75 #[.pointer (some ⟨m, 0, none⟩), .agg #[.int .i64 x.2.1.1, .int .i64 x.2.1.2.1, .int .i64 x.2.1.2.2.1, .int .i64 x.2.1.2.2.2]] w' fun e w'' => e = .returned (.bool (keepsC c x.2.1)) ∧ Touch [] wu w'') := hid (fun wu w' hu t => (keeps47 w' m c now b o (hu.keep0 t).md x.2.1).mono (by
    rintro e w'' ⟨rfl, t2⟩
    exact ⟨rfl, t.trans' t2⟩))
  rw [hkc] at HKq
  clear hkc
  unfold PT nv
  go_enter Tryz.func85, Tryz.ntmps85
  go_upto_region 1 with fail
  rw [← hV]
  clear hV
  go_upto_region 4 with (go_at_call 74; refine HP.out.mono ?_; rintro e w2 ⟨rfl, t2⟩; have T2 := hid (TV.out.trans' t2); have T2v := hid t2; clear t2)
  clear x0 x1 x2 x3 x4 x5 x6
  have sA : ∀ w', Touch [] w2 w' → w'.cell? ⟨m, 8, none⟩ = some (.map (some b)) := fun w' t => (h.keep0 (T2.out.trans' t)).md.cs.c8
  have sB : ∀ w', Touch [] w2 w' → w'.cell? ⟨w.heap.size, 0, none⟩ = some (.int .u16 x.1.1) := fun w' t => (HX.out w' (T2v.out.trans' t)).1
  have sC : ∀ w', Touch [] w2 w' → w'.cell? ⟨w.heap.size, 1, none⟩ = some (.string x.1.2) := fun w' t => (HX.out w' (T2v.out.trans' t)).2.1
  have sL : ∀ w', Touch [] w2 w' → (Instr.lookup 141 (.map (some b)) (.agg #[.int .u16 x.1.1, .string x.1.2]) true).run Tryz.prog w' = .ok (.tuple #[.agg #[.int .i64 0, .int .i64 0, .int .i64 0, .int .i64 0, .int .i64 0], .bool false]) w' := fun w' t => by
    have := (h.keep0 (T2.out.trans' t)).look hk
    rw [hf] at this
    exact this
  obtain ⟨U, hU⟩ : ∃ U, U = (w2.alloc (.cells #[.int .i64 0, .int .i64 0, .int .i64 0, .int .i64 0, .int .i64 0] 147)).drew := ⟨_, rfl⟩
  have TU2 : Touch [] w2 U := by rw [hU]; exact ((Touch.refl _ _).alloc _).drew
  have TU : Hid (Touch [] w U) := hid (T2.out.trans' TU2)
  have HM := hid (h.keep0 TU.out)
  have HXU := hid (fun w' (t : Touch [] U w') => HX.out w' ((T2v.out.trans' TU2).trans' t))
  have t0 : Touch [] w2 w2.drew := (Touch.refl _ _).drew
  go_region_held3 (fun w' => Touch [] w2 w') (repeat (first | assumption | exact Touch.refl _ _ | apply Touch.alloc | apply Touch.drew | (refine Touch.setCell ?_ (Or.inr (by simp)) _))) (fail)
  all_goals
    clear sA sB sC sL t0
    rw [← hU]
    clear hU TU2
    go_upto_region 5 with fail
    have sM7 : ∀ w', Touch [] U w' → w'.cell? ⟨m, 7, none⟩ = some (.int .i64 now) := fun w' t => (HM.out.keep0 t).md.cs.c7
    have sX0 : ∀ w', Touch [] U w' → w'.cell? ⟨w.heap.size, 0, none⟩ = some (.int .u16 x.1.1) := fun w' t => (HXU.out w' t).1
    have sX1 : ∀ w', Touch [] U w' → w'.cell? ⟨w.heap.size, 1, none⟩ = some (.string x.1.2) := fun w' t => (HXU.out w' t).2.1
    have sX2 : ∀ w', Touch [] U w' → w'.cell? ⟨w.heap.size, 2, none⟩ = some (.int .i64 x.2.1.1) := fun w' t => (HXU.out w' t).2.2.1
    have sX3 : ∀ w', Touch [] U w' → w'.cell? ⟨w.heap.size, 3, none⟩ = some (.int .i64 x.2.1.2.1) := fun w' t => (HXU.out w' t).2.2.2.1
    have sX4 : ∀ w', Touch [] U w' → w'.cell? ⟨w.heap.size, 4, none⟩ = some (.int .i64 x.2.1.2.2.1) := fun w' t => (HXU.out w' t).2.2.2.2.1
    have sX5 : ∀ w', Touch [] U w' → w'.cell? ⟨w.heap.size, 5, none⟩ = some (.int .i64 x.2.1.2.2.2) := fun w' t => (HXU.out w' t).2.2.2.2.2.1
    have sX6 : ∀ w', Touch [] U w' → w'.cell? ⟨w.heap.size, 6, none⟩ = some (.int .i64 x.2.2) := fun w' t => (HXU.out w' t).2.2.2.2.2.2
    have HKp := hid (fun w' t => HKq.out U w' HM.out t)
    have s0 : Touch [] U U.drew := (Touch.refl _ _).drew
    refine wp_region_H (S := fun w' => Touch [] U w') (by kernel_rfl) ?_
    refine wpH_take (i := 0) (v := (.bool false)) (some 26) rfl rfl (by kernel_rfl) (by kernel_rfl) (by kernel_rfl) (fun _ _ _ h => h) (Or.inl ⟨by rfl, fun w' hS => (by go_simp)⟩) s0 ?_
    try simp only [Go.Act.put, List.setIfInBounds_toArray, List.set_cons_zero, List.set_cons_succ]
    refine wpH_take (i := 1) (v := (.bool false)) (some 27) rfl rfl (by kernel_rfl) (by kernel_rfl) (by kernel_rfl) (fun _ _ _ h => h) (Or.inl ⟨by rfl, fun w' hS => (by go_simp)⟩) s0 ?_
    try simp only [Go.Act.put, List.setIfInBounds_toArray, List.set_cons_zero, List.set_cons_succ]
    refine wpH_take (i := 2) (v := (.pointer (some ⟨m, 0, none⟩))) (some 28) rfl rfl (by kernel_rfl) (by kernel_rfl) (by kernel_rfl) (fun _ _ _ h => h) (Or.inl ⟨by rfl, fun w' hS => (by go_simp)⟩) s0 ?_
    try simp only [Go.Act.put, List.setIfInBounds_toArray, List.set_cons_zero, List.set_cons_succ]
    refine wpH_take (i := 3) (v := (.pointer (some ⟨w.heap.size, 2, none⟩))) (some 29) rfl rfl (by kernel_rfl) (by kernel_rfl) (by kernel_rfl) (fun _ _ _ h => h) (Or.inl ⟨by rfl, fun w' hS => (by go_simp)⟩) s0 ?_
    try simp only [Go.Act.put, List.setIfInBounds_toArray, List.set_cons_zero, List.set_cons_succ]
    refine wpH_take (i := 4) (v := (.agg #[.int .i64 x.2.1.1, .int .i64 x.2.1.2.1, .int .i64 x.2.1.2.2.1, .int .i64 x.2.1.2.2.2])) (some 30) rfl rfl (by kernel_rfl) (by kernel_rfl) (by kernel_rfl) (fun _ _ _ h => h) (Or.inl ⟨by rfl, fun w' hS => (by have z0 := sX2 _ hS; have z1 := sX3 _ hS; have z2 := sX4 _ hS; have z3 := sX5 _ hS; go_simp)⟩) s0 ?_
    try simp only [Go.Act.put, List.setIfInBounds_toArray, List.set_cons_zero, List.set_cons_succ]
    refine wpH_call (i := 5) (o := { dst := some 31, op := Op.call { callee := Callee.value (Operand.func 75), args := #[Operand.tmp 28, Operand.tmp 30], argTypes := #[28, 58] }, type := 4, pos := _, after := #[{ on := 2, ground := Ground.data }, { on := 4, ground := Ground.data }, { on := 1, ground := Ground.chain }, { on := 1, ground := Ground.guard }], guard := some (1, false) }) (by kernel_rfl) rfl (fun K' hK => ?_)
    rw [if_pos (by rfl)]
    go_simp
    refine (HKp.out _ s0).mono ?_
    rintro e w6 ⟨rfl, s1⟩
    refine hK.out _ _ s1 ?_
    clear hK
    try simp only [Go.Act.put, List.setIfInBounds_toArray, List.set_cons_zero, List.set_cons_succ]
    refine wpH_take (i := 6) (v := (.bool false)) (some 32) rfl rfl (by kernel_rfl) (by kernel_rfl) (by kernel_rfl) (fun _ _ _ h => h) (Or.inl ⟨by rfl, fun w' hS => (by go_simp)⟩) s1 ?_
    try simp only [Go.Act.put, List.setIfInBounds_toArray, List.set_cons_zero, List.set_cons_succ]
    refine wpH_take (i := 7) (v := (.bool false)) (some 33) rfl rfl (by kernel_rfl) (by kernel_rfl) (by kernel_rfl) (fun _ _ _ h => h) (Or.inl ⟨by rfl, fun w' hS => (by go_simp)⟩) s1 ?_
    try simp only [Go.Act.put, List.setIfInBounds_toArray, List.set_cons_zero, List.set_cons_succ]
    refine wpH_take (i := 8) (v := (.bool false)) (some 34) rfl rfl (by kernel_rfl) (by kernel_rfl) (by kernel_rfl) (fun _ _ _ h => h) (Or.inl ⟨by rfl, fun w' hS => (by go_simp)⟩) s1 ?_
    try simp only [Go.Act.put, List.setIfInBounds_toArray, List.set_cons_zero, List.set_cons_succ]
    refine wpH_take (i := 9) (v := (.pointer (some ⟨w.heap.size, 6, none⟩))) (some 35) rfl rfl (by kernel_rfl) (by kernel_rfl) (by kernel_rfl) (fun _ _ _ h => h) (Or.inl ⟨by rfl, fun w' hS => (by go_simp)⟩) s1 ?_
    try simp only [Go.Act.put, List.setIfInBounds_toArray, List.set_cons_zero, List.set_cons_succ]
    refine wpH_take (i := 10) (v := (.int .i64 x.2.2)) (some 36) rfl rfl (by kernel_rfl) (by kernel_rfl) (by kernel_rfl) (fun _ _ _ h => h) (Or.inl ⟨by rfl, fun w' hS => (by have z0 := sX6 _ hS; go_simp)⟩) s1 ?_
    try simp only [Go.Act.put, List.setIfInBounds_toArray, List.set_cons_zero, List.set_cons_succ]
    refine wpH_take (i := 11) (v := (.bool false)) (some 37) rfl rfl (by kernel_rfl) (by kernel_rfl) (by kernel_rfl) (fun _ _ _ h => h) (Or.inl ⟨by rfl, fun w' hS => (by go_simp)⟩) s1 ?_
    try simp only [Go.Act.put, List.setIfInBounds_toArray, List.set_cons_zero, List.set_cons_succ]
    refine wpH_take (i := 12) (v := (.bool false)) (some 38) rfl rfl (by kernel_rfl) (by kernel_rfl) (by kernel_rfl) (fun _ _ _ h => h) (Or.inl ⟨by rfl, fun w' hS => (by go_simp)⟩) s1 ?_
    try simp only [Go.Act.put, List.setIfInBounds_toArray, List.set_cons_zero, List.set_cons_succ]
    refine wpH_take (i := 13) (v := (.bool false)) (some 39) rfl rfl (by kernel_rfl) (by kernel_rfl) (by kernel_rfl) (fun _ _ _ h => h) (Or.inl ⟨by rfl, fun w' hS => (by go_simp)⟩) s1 ?_
    try simp only [Go.Act.put, List.setIfInBounds_toArray, List.set_cons_zero, List.set_cons_succ]
    refine wpH_take (i := 14) (v := (.pointer (some ⟨w.heap.size, 6, none⟩))) (some 40) rfl rfl (by kernel_rfl) (by kernel_rfl) (by kernel_rfl) (fun _ _ _ h => h) (Or.inl ⟨by rfl, fun w' hS => (by go_simp)⟩) s1 ?_
    try simp only [Go.Act.put, List.setIfInBounds_toArray, List.set_cons_zero, List.set_cons_succ]
    refine wpH_take (i := 15) (v := (.int .i64 x.2.2)) (some 41) rfl rfl (by kernel_rfl) (by kernel_rfl) (by kernel_rfl) (fun _ _ _ h => h) (Or.inl ⟨by rfl, fun w' hS => (by have z0 := sX6 _ hS; go_simp)⟩) s1 ?_
    try simp only [Go.Act.put, List.setIfInBounds_toArray, List.set_cons_zero, List.set_cons_succ]
    refine wpH_take (i := 16) (v := (.pointer (some ⟨m, 0, none⟩))) (some 42) rfl rfl (by kernel_rfl) (by kernel_rfl) (by kernel_rfl) (fun _ _ _ h => h) (Or.inl ⟨by rfl, fun w' hS => (by go_simp)⟩) s1 ?_
    try simp only [Go.Act.put, List.setIfInBounds_toArray, List.set_cons_zero, List.set_cons_succ]
    refine wpH_take (i := 17) (v := (.pointer (some ⟨m, 0, none⟩))) (some 43) rfl rfl (by kernel_rfl) (by kernel_rfl) (by kernel_rfl) (fun _ _ _ h => h) (Or.inl ⟨by rfl, fun w' hS => (by go_simp)⟩) s1 ?_
    try simp only [Go.Act.put, List.setIfInBounds_toArray, List.set_cons_zero, List.set_cons_succ]
    refine wpH_take (i := 18) (v := (.pointer (some ⟨m, 7, none⟩))) (some 44) rfl rfl (by kernel_rfl) (by kernel_rfl) (by kernel_rfl) (fun _ _ _ h => h) (Or.inl ⟨by rfl, fun w' hS => (by go_simp)⟩) s1 ?_
    try simp only [Go.Act.put, List.setIfInBounds_toArray, List.set_cons_zero, List.set_cons_succ]
    refine wpH_take (i := 19) (v := (.int .i64 now)) (some 45) rfl rfl (by kernel_rfl) (by kernel_rfl) (by kernel_rfl) (fun _ _ _ h => h) (Or.inl ⟨by rfl, fun w' hS => (by have z0 := sM7 _ hS; go_simp)⟩) s1 ?_
    try simp only [Go.Act.put, List.setIfInBounds_toArray, List.set_cons_zero, List.set_cons_succ]
    refine wpH_take (i := 20) (v := (.bool false)) (some 46) rfl rfl (by kernel_rfl) (by kernel_rfl) (by kernel_rfl) (fun _ _ _ h => h) (Or.inl ⟨by rfl, fun w' hS => (by go_simp)⟩) s1 ?_
    try simp only [Go.Act.put, List.setIfInBounds_toArray, List.set_cons_zero, List.set_cons_succ]
    refine wpH_take (i := 21) (v := (.bool false)) (some 47) rfl rfl (by kernel_rfl) (by kernel_rfl) (by kernel_rfl) (fun _ _ _ h => h) (Or.inl ⟨by rfl, fun w' hS => (by go_simp)⟩) s1 ?_
    try simp only [Go.Act.put, List.setIfInBounds_toArray, List.set_cons_zero, List.set_cons_succ]
    refine wpAnyH_done (by kernel_rfl) ?_ _
    have SE := hid s1
    clear sX0 sX1 sX2 sX3 sX4 sX5 sX6 sM7 s0 s1
    go_wp2
    go_ret
    exact ⟨rfl, TU.out.trans' SE.out⟩
theorem next40 (w : World) (m : Nat) (F : List Nat) (c : Cf) (now : Int) (xs : List En) (h : Mq w m F c now xs) (x : En) (hk : Ok x.1) : Calls Tryz.prog 85 #[PT m, nv x] w fun e w' => e = .returned (.int .i64 (nxE c now xs x)) ∧ Touch [] w w' := by
  obtain ⟨b, o, G, rfl, h⟩ := h
  unfold nxE
  by_cases hp : pairE x.1 x.2.1 = 0
  · rw [if_neg (by simp [hp])]
    cases hf : fnd xs x.1 with
    | some v => rw [if_pos (by simp)]; exact next40_some w m b o G c now xs h x hk hp v hf
    | none =>
      cases hkc : keepsC c x.2.1 with
      | false => rw [if_pos (by simp)]; exact next40_B w m b o G c now xs h x hk hp hf hkc
      | true =>
        by_cases ha : x.2.2 < 0
        · rw [if_pos (by simp [ha])]; exact next40_C w m b o G c now xs h x hk hp hf hkc ha
        · by_cases hb : now < x.2.2
          · rw [if_pos (by simp [hb])]; exact next40_D w m b o G c now xs h x hk hp hf hkc ha hb
          · rw [if_neg (by simp; omega)]; exact next40_E w m b o G c now xs h x hk hp hf hkc ha hb
  · rw [if_pos hp]; exact next40_pair w m b o G c now xs h x hk hp
end Go.Proofs.YtpefbmheblfbeaaGreat.Me
/- Contracts of Check and the document's Check; no conditions. -/
namespace Go.Proofs.YtpefbmheblfbeaaGreat.Me
open Go.RowKit Go.Sort Go.Maps Go.ChangeMaps Go.WideMaps
set_option maxRecDepth 100000
set_option linter.unusedVariables false
set_option linter.unusedSimpArgs false
set_option maxHeartbeats 4000000 in
theorem check12 (w : World) (c : Cf) : Calls Tryz.prog 121 #[cv c] w fun e w' => e = .returned (.int .i64 (if okC c then 0 else 100)) ∧ Touch [] w w' := by
  obtain ⟨t, n, s, e, f, b, d⟩ := c
  unfold cv okC
  simp only
  have mn : ∀ (w : World) (ts : Array TypeId) (ty : TypeId), (Builtin.min_ ts ty #[.int .i64 t, .int .i64 n, .int .i64 s, .int .i64 d]).run Tryz.prog w = .ok (.int .i64 (if d < (if s < (if n < t then n else t) then s else (if n < t then n else t)) then d else (if s < (if n < t then n else t) then s else (if n < t then n else t)))) w := fun w ts ty => by simp [Builtin.min_, Builtin.min2]
  have HM : Hid (0 ≤ (if d < (if s < (if n < t then n else t) then s else (if n < t then n else t)) then d else (if s < (if n < t then n else t) then s else (if n < t then n else t))) ↔ 0 ≤ t ∧ 0 ≤ n ∧ 0 ≤ s ∧ 0 ≤ d) := by
    show _ ↔ _
    repeat' split
    all_goals omega
  generalize (if d < (if s < (if n < t then n else t) then s else (if n < t then n else t)) then d else (if s < (if n < t then n else t) then s else (if n < t then n else t))) = M at *
  by_cases h0 : 0 ≤ M
  rotate_left
  · rw [decide_eq_false (by have := HM.out; omega)]
    go_enter Tryz.func121, Tryz.ntmps121
    go_wp2
    go_ret
    exact ⟨rfl, by repeat (first | exact Touch.refl _ _ | apply Touch.alloc)⟩
  by_cases h1 : 0 ≤ e
  rotate_left
  · rw [decide_eq_false (by have := HM.out; omega)]
    go_enter Tryz.func121, Tryz.ntmps121
    go_wp2
    go_ret
    exact ⟨rfl, by repeat (first | exact Touch.refl _ _ | apply Touch.alloc)⟩
  by_cases h2 : e ≤ 65536
  rotate_left
  · rw [decide_eq_false (by have := HM.out; omega)]
    go_enter Tryz.func121, Tryz.ntmps121
    go_wp2
    go_ret
    exact ⟨rfl, by repeat (first | exact Touch.refl _ _ | apply Touch.alloc)⟩
  by_cases h3 : 1 ≤ f
  rotate_left
  · rw [decide_eq_false (by have := HM.out; omega)]
    go_enter Tryz.func121, Tryz.ntmps121
    go_wp2
    go_ret
    exact ⟨rfl, by repeat (first | exact Touch.refl _ _ | apply Touch.alloc)⟩
  by_cases h4 : f ≤ 4096
  rotate_left
  · rw [decide_eq_false (by have := HM.out; omega)]
    go_enter Tryz.func121, Tryz.ntmps121
    go_wp2
    go_ret
    exact ⟨rfl, by repeat (first | exact Touch.refl _ _ | apply Touch.alloc)⟩
  by_cases h5 : 1 ≤ b
  rotate_left
  · rw [decide_eq_false (by have := HM.out; omega)]
    go_enter Tryz.func121, Tryz.ntmps121
    go_wp2
    go_ret
    exact ⟨rfl, by repeat (first | exact Touch.refl _ _ | apply Touch.alloc)⟩
  by_cases h6 : b ≤ 1024
  rotate_left
  · rw [decide_eq_false (by have := HM.out; omega)]
    go_enter Tryz.func121, Tryz.ntmps121
    go_wp2
    go_ret
    exact ⟨rfl, by repeat (first | exact Touch.refl _ _ | apply Touch.alloc)⟩
  rw [decide_eq_true (by have := HM.out; omega)]
  go_enter Tryz.func121, Tryz.ntmps121
  go_wp2
  go_ret
  exact ⟨rfl, by repeat (first | exact Touch.refl _ _ | apply Touch.alloc)⟩
end Go.Proofs.YtpefbmheblfbeaaGreat.Me
/- Contracts of New and of awake, and of what a nil memo answers; no conditions but those that each states. -/
namespace Go.Proofs.YtpefbmheblfbeaaGreat.Me
open Go.RowKit Go.Sort Go.Maps Go.ChangeMaps Go.WideMaps
set_option maxRecDepth 100000
set_option linter.unusedVariables false
set_option linter.unusedSimpArgs false
def cbx (c : Cf) (t : Nat) : Obj := .cells #[.int .i64 c.t, .int .i64 c.n, .int .i64 c.s, .int .i64 c.e, .int .i64 c.f, .int .i64 c.b, .int .i64 c.d] t
structure C7 (w : World) (r : Nat) (c : Cf) : Prop where
  c0 : w.cell? ⟨r, 0, none⟩ = some (.int .i64 c.t)
  c1 : w.cell? ⟨r, 1, none⟩ = some (.int .i64 c.n)
  c2 : w.cell? ⟨r, 2, none⟩ = some (.int .i64 c.s)
  c3 : w.cell? ⟨r, 3, none⟩ = some (.int .i64 c.e)
  c4 : w.cell? ⟨r, 4, none⟩ = some (.int .i64 c.f)
  c5 : w.cell? ⟨r, 5, none⟩ = some (.int .i64 c.b)
  c6 : w.cell? ⟨r, 6, none⟩ = some (.int .i64 c.d)
theorem C7.mk' {w : World} {r t : Nat} {c : Cf} (h : w.heap[r]? = some (cbx c t)) : C7 w r c := by
  unfold cbx at h
  constructor <;> simp [World.cell?, h]
theorem new9_no (w : World) (c : Cf) (hc : okC c = false) : Calls Tryz.prog 83 #[cv c] w fun e w' => e = .returned (.tuple #[.pointer none, .int .i64 100]) ∧ Touch [] w w' := by
  have HC := hid (fun w => check12 w c)
  rw [hc] at HC
  unfold cv at *
  simp only [Bool.false_eq_true, if_false] at HC
  go_enter Tryz.func83, Tryz.ntmps83
  go_wp2_with (go_at_call 121; refine (HC.out _).mono ?_; rintro e w2 ⟨rfl, t2⟩; have T2 := hid t2; clear t2)
  exact bodyPost_ret (v := .tuple #[.pointer none, .int .i64 100]) (by simp [results, Tryz.results83, go_sem]) rfl ⟨rfl, ((Touch.refl _ _).alloc _).trans' T2.out⟩
def NwQ (w : World) (c : Cf) (m : Nat) (w' : World) : Prop := ∃ F, Mq w' m F c 0 [] ∧ (∀ k ∈ F, w.heap.size ≤ k) ∧ Touch [] w w'
set_option maxHeartbeats 1000000 in
theorem new9_ok (w : World) (c : Cf) (hc : okC c = true) (wc : c.t ≤ 9223372036854775807 ∧ c.n ≤ 9223372036854775807 ∧ c.s ≤ 9223372036854775807) :
    Calls Tryz.prog 83 #[cv c] w fun e w' => ∃ m, e = .returned (.tuple #[PT m, .int .i64 0]) ∧ NwQ w c m w' := by
  have HC := hid (fun w => check12 w c)
  rw [hc] at HC
  simp only [if_true] at HC
  obtain ⟨e0, e1⟩ := okC_e hc
  have HO := hid (fun w => new6_ok w c.e e0 e1)
  have TB : Touch [] w (w.alloc (cbx c 23)) := (Touch.refl _ _).alloc _
  have HB : Hid (∀ w2, Touch [] (w.alloc (cbx c 23)) w2 → C7 w2 w.heap.size c) := fun w2 t => C7.mk' (t.keep (heap_alloc_new w (cbx c 23)) (by simp))
  have HE : Hid (∀ w2 w3, Touch [] (w.alloc (cbx c 23)) w2 → Od w3 w2.heap.size none c.e [] → Touch [] w2 w3 → NwQ w c (w3.heap.size + 1) ((w3.alloc (.map #[] 0)).alloc (.cells (mcs c 0 w3.heap.size w2.heap.size) 144))) := fun w2 w3 t2 o3 t3 => by
    have hz2 := t2.size
    have hz3 := t3.size
    rw [World.size_alloc] at hz2
    have t4 : Touch [] w3 ((w3.alloc (.map #[] 0)).alloc (.cells (mcs c 0 w3.heap.size w2.heap.size) 144)) := ((Touch.refl _ _).alloc _).alloc _
    have oq3 : Oq w3 w2.heap.size [w2.heap.size] c.e [] := ⟨none, [], rfl, rfl, o3⟩
    have olt := oq3.lt w2.heap.size (by simp)
    refine ⟨[w3.heap.size + 1, w3.heap.size, w2.heap.size], ⟨w3.heap.size, w2.heap.size, [w2.heap.size], rfl, ?_, ?_, oq3.keep0 t4, ⟨hc, wc, Int.le_refl _, by show (0 : Int) ≤ MT; unfold MT; decide, fun x hx => (by cases hx), by simpa using e0⟩, by simp; omega⟩, fun k hk => ?_, ((TB.trans' t2).trans' t3).trans' t4⟩
    · have := heap_alloc_new (w3.alloc (.map #[] 0)) (.cells (mcs c 0 w3.heap.size w2.heap.size) 144)
      rw [World.size_alloc] at this
      exact this
    · refine MapAt.kept (w := w3.alloc (.map #[] 0)) ?_ (Below.heap_alloc _ _ _ (by simp))
      exact (mapAt_made w3).congr (fun _ _ => rfl)
    · simp only [List.mem_cons, List.not_mem_nil, or_false] at hk
      omega
  have hmm := @run_makeMap Tryz.prog
  clear hc wc e0 e1 TB
  unfold mcs cbx PT at *
  unfold cv at *
  go_enter Tryz.func83, Tryz.ntmps83
  go_wp2_with (first
    | (go_at_call 121; refine (HC.out _).mono ?_; rintro e w2 ⟨rfl, t2⟩; have T2 := hid t2; obtain ⟨c0, c1, c2, c3, c4, c5, c6⟩ := HB.out _ t2; clear t2)
    | (go_at_call 122; refine (HO.out _).mono ?_; rintro e w3 ⟨rfl, o3, t3⟩; have O3 := hid o3; have T3 := hid t3; clear c0 c1 c2 c3 c4 c5 c6; obtain ⟨c0, c1, c2, c3, c4, c5, c6⟩ := HB.out _ (T2.out.trans' t3); clear o3 t3))
  exact bodyPost_ret (v := .tuple #[.pointer (some ⟨w3.heap.size + 1, 0, none⟩), .int .i64 0]) (by simp [results, Tryz.results83, go_sem]) rfl ⟨_, rfl, HE.out _ _ T2.out O3.out T3.out⟩
end Go.Proofs.YtpefbmheblfbeaaGreat.Me
/- A slice of the document's entries as a plain list; the contracts of its Find, below and How; no conditions but those that each states. -/
namespace Go.Proofs.YtpefbmheblfbeaaGreat.Me
open Go.RowKit Go.Sort Go.Maps Go.ChangeMaps Go.WideMaps
set_option maxRecDepth 100000
set_option linter.unusedVariables false
set_option linter.unusedSimpArgs false
def At7 (w : World) (t g off : Nat) (xs : List En) : Prop := ∃ cs, w.heap[g]? = some (.cells cs t (0, 0)) ∧ ∀ i (h : i < xs.length) j, j < 7 → cs[off + (i * 7 + j)]? = (nl xs[i])[j]?
def RN (t : Nat) (w : World) (v : Value) (xs : List En) : Prop := ∃ a c, v = .slice a xs.length c ∧ xs.length ≤ c ∧ (0 < xs.length → ∃ g off, a = some ⟨g, off, none⟩ ∧ At7 w t g off xs)
section
variable {t : Nat} {w w' : World} {g off : Nat} {v : Value} {xs : List En}
theorem At7.cell (h : At7 w t g off xs) (i j : Nat) (hi : i < xs.length) (hj : j < 7) {u : Value} (hu : (nl xs[i])[j]? = some u) : w.cell? ⟨g, off + (i * 7 + j), none⟩ = some u := by
  obtain ⟨cs, h1, h2⟩ := h
  have h3 := h2 i hi j hj
  rw [hu] at h3
  simp [World.cell?, h1, h3]
theorem RN.keepK (h : RN t w v xs) (hk : ∀ (r : Nat) (cs : Array Value), w.heap[r]? = some (.cells cs t (0, 0)) → w'.heap[r]? = some (.cells cs t (0, 0))) : RN t w' v xs := by
  obtain ⟨a, c, h1, h2, h3⟩ := h
  refine ⟨a, c, h1, h2, fun hp => ?_⟩
  obtain ⟨g, off, h4, cs, h5, h6⟩ := h3 hp
  exact ⟨g, off, h4, cs, hk g cs h5, h6⟩
theorem RN.keep (h : RN t w v xs) (ht : Touch [] w w') : RN t w' v xs := h.keepK (fun r cs hr => ht.keep hr (by simp))
theorem RN.own {base : Nat} (h : w.ownsRow base t 7 v xs.length (cellsN xs)) : RN t w v xs := by
  have h' := h
  obtain ⟨h1, h2 | ⟨g, cap, cur, rfl, hg, hc, hn, hm, hs, ht⟩⟩ := h
  · obtain ⟨h2, h3⟩ := h2
    exact ⟨none, 0, by rw [h3]; exact h2, by omega, fun h => by omega⟩
  · refine ⟨_, cap, rfl, hn, fun hp => ⟨g, 0, rfl, cur, hc, fun i hi j hj => ?_⟩⟩
    have hl : (cellsN xs).length = xs.length * 7 := h1
    have e : ∀ q, q < xs.length * 7 → cur[q]? = (cellsN xs)[q]? := fun q hq => by
      rw [← ht, List.getElem?_take, if_pos hq, Array.getElem?_toList]
    rw [Nat.zero_add, e _ (by omega), cellsN_at xs i j hi hj]
end
end Go.Proofs.YtpefbmheblfbeaaGreat.Me
/- The contracts of the document's How and Find; there are at most seventy thousand entries. -/
namespace Go.Proofs.YtpefbmheblfbeaaGreat.Me
open Go.RowKit Go.Sort Go.Maps Go.ChangeMaps Go.WideMaps
set_option maxRecDepth 100000
set_option linter.unusedVariables false
set_option linter.unusedSimpArgs false
def pos : List En → K → Int
  | [], _ => -1
  | x :: l, k => if x.1 = k then 0 else if pos l k < 0 then -1 else pos l k + 1
theorem pos_at {xs : List En} {k : K} {i : Nat} (hi : i < xs.length) (he : xs[i].1 = k) (hb : ∀ j (h : j < i), xs[j].1 ≠ k) : pos xs k = (i : Int) := by
  induction xs generalizing i with
  | nil => simp at hi
  | cons x l ih =>
    unfold pos
    cases i with
    | zero =>
      rw [if_pos (by simpa using he)]
      rfl
    | succ i =>
      have h0 := hb 0 (by omega)
      rw [if_neg (by simpa using h0)]
      have hp := ih (i := i) (by simpa using hi) (by simpa using he) (fun j hj => by have := hb (j + 1) (by omega); simpa using this)
      rw [hp, if_neg (by omega)]
      rfl
theorem pos_yes {xs : List En} {k : K} (h : k ∈ keysL xs) : ∃ i, ∃ hi : i < xs.length, xs[i].1 = k ∧ (∀ j (hj : j < i), xs[j].1 ≠ k) ∧ pos xs k = (i : Int) := by
  induction xs with
  | nil => simp [keysL] at h
  | cons x l ih =>
    by_cases e : x.1 = k
    · exact ⟨0, by simp, by simpa using e, fun j hj => by omega, by unfold pos; rw [if_pos e]; rfl⟩
    · simp only [keysL, List.map_cons, List.mem_cons] at h
      rcases h with h | h
      · exact absurd h.symm e
      · obtain ⟨i, hi, h1, h2, h3⟩ := ih h
        have hb : ∀ j (hj : j < i + 1), ((x :: l)[j]'(by simp only [List.length_cons]; omega)).1 ≠ k := fun j hj => by
          cases j with
          | zero => simpa using e
          | succ j => simpa using h2 j (by omega)
        exact ⟨i + 1, by simpa using hi, by simpa using h1, hb, pos_at (by simpa using hi) (by simpa using h1) hb⟩
end Go.Proofs.YtpefbmheblfbeaaGreat.Me
/- Keys, outcomes and configurations as arguments, opened; no conditions. -/
namespace Go.Proofs.YtpefbmheblfbeaaGreat.Me
open Go.ChangeShapes Go.WideShapes Go.ChangeAt Go.RowKit
set_option maxRecDepth 100000
set_option linter.unusedVariables false
theorem cells2 : Tryz.prog.cellsOf 2 = 1 := by kernel_rfl
theorem cells3 : Tryz.prog.cellsOf 3 = 1 := by kernel_rfl
theorem cells9 : Tryz.prog.cellsOf 9 = 1 := by kernel_rfl
theorem cells37 : Tryz.prog.cellsOf 52 = 1 := by kernel_rfl
theorem cells41 : Tryz.prog.cellsOf 56 = 3 := by kernel_rfl
theorem cells43 : Tryz.prog.cellsOf 58 = 4 := by kernel_rfl
theorem cells23 : Tryz.prog.cellsOf 23 = 7 := by kernel_rfl
def Wo (x : O) : Prop := W64 x.1 ∧ W64 x.2.1 ∧ W64 x.2.2.1 ∧ W64 x.2.2.2
def Wc (c : Cf) : Prop := W64 c.t ∧ W64 c.n ∧ W64 c.s ∧ W64 c.e ∧ W64 c.f ∧ W64 c.b ∧ W64 c.d
set_option maxRecDepth 100000 in
theorem fields43 {H : Type} {enc : TypeId × Value → H} {W : World} {base fuel : Nat} {spare : Nat → Bool} {held : Bool} {cs : List Value} {x : DataW H × List MemPlace} (h : DataW.trod enc Tryz.prog W base spare held fuel 58 cs = some x) (hl : cs.length = 4) : ∃ o : O, cs = [.int .i64 o.1, .int .i64 o.2.1, .int .i64 o.2.2.1, .int .i64 o.2.2.2] ∧ Wo o := by
  obtain ⟨ys, k, hk, hxy, _, hyl, hfe⟩ := DataW.trod_struct Tryz.underlying58 h
  match cs, hl with
  | [v0, v1, v2, v3], _ =>
    have hy : ys.length = 2 := hyl
    match ys, hy with
    | [y0, y1], _ =>
      have g0 := hfe 0 _ rfl
      have g1 := hfe 1 _ rfl
      simp [cells2, cells41] at g0 g1
      obtain ⟨A, a1, _, wa⟩ := DataW.trod_int Tryz.underlying2 g0
      obtain ⟨zs, k2, hk2, _, _, hzl, hfz⟩ := DataW.trod_struct Tryz.underlying56 g1
      have hz : zs.length = 3 := hzl
      match zs, hz with
      | [z0, z1, z2], _ =>
        have f0 := hfz 0 _ rfl
        have f1 := hfz 1 _ rfl
        have f2 := hfz 2 _ rfl
        simp [cells3] at f0 f1 f2
        obtain ⟨B, b1, _, wb⟩ := DataW.trod_int Tryz.underlying3 f0
        obtain ⟨C, c1, _, wc⟩ := DataW.trod_int Tryz.underlying3 f1
        obtain ⟨D, d1, _, wd⟩ := DataW.trod_int Tryz.underlying3 f2
        simp only [List.cons.injEq, and_true] at a1 b1 c1 d1
        subst a1 b1 c1 d1
        exact ⟨(A, B, C, D), rfl, wa, wb, wc, wd⟩
theorem laidOut : laidOutB Tryz.prog = true := by kernel_rfl
end Go.Proofs.YtpefbmheblfbeaaGreat.Me
/- The contract of Of; the entries lie in a slice of its own. -/
namespace Go.Proofs.YtpefbmheblfbeaaGreat.Me
open Go.RowKit Go.Sort Go.Maps Go.ChangeMaps Go.WideMaps
set_option maxRecDepth 100000
set_option linter.unusedVariables false
set_option linter.unusedSimpArgs false
theorem drx_out {xs : List En} {k : K} (h : ¬ k ∈ keysL xs) : drx xs k = xs := by
  unfold drx
  refine List.filter_eq_self.2 (fun x hx => ?_)
  simp only [decide_eq_true_eq]
  exact fun e => h (by unfold keysL; exact List.mem_map.2 ⟨x, hx, e⟩)
theorem fnd_out {xs : List En} {k : K} (hd : (keysL xs).Nodup) (h : fnd xs k = none) : ¬ k ∈ keysL xs := fun hk => by
  obtain ⟨i, hi, h1, _⟩ := pos_yes hk
  have := fnd_of_mem hd (List.getElem_mem hi)
  rw [h1, h] at this
  cases this
theorem putL_new {e : Int} {xs : List En} {x : En} (h : ¬ x.1 ∈ keysL xs) (hl : (xs.length : Int) + 1 ≤ e) : putL e xs x.1 x.2 = xs ++ [x] := by
  unfold putL
  rw [if_neg]
  · unfold putY; rw [drx_out h]
  · unfold useB useY
    rw [dr_no h, List.length_append, keysL_len]
    simp only [decide_eq_true_eq, List.length_singleton]
    omega
theorem nxE_ok {c : Cf} {now : Int} {xs : List En} {x : En} (h : nxE c now xs x = 0) : x.1.2.size ≤ 64 ∧ (right x.2.1 = true ∧ 0 ≤ x.2.2 ∧ x.2.2 ≤ now) ∧ fnd xs x.1 = none := by
  unfold nxE at h
  by_cases hp : pairE x.1 x.2.1 = 0
  · rw [if_neg (by simp [hp])] at h
    obtain ⟨h1, h2⟩ := pairE_ok hp
    split at h
    · cases h
    · rename_i hh
      simp only [Bool.or_eq_true, decide_eq_true_eq, not_or] at hh
      refine ⟨h1, ⟨h2, by omega, by omega⟩, ?_⟩
      cases hf : fnd xs x.1 with
      | none => rfl
      | some v => exfalso; apply hh.1.1.1; rw [hf]; rfl
  · rw [if_pos hp] at h; exact absurd h hp
theorem RN.mqt {t : Nat} {w w' : World} {m : Nat} {F : List Nat} {c : Cf} {now : Int} {xs ys : List En} {v : Value} (hr : RN t w v ys) (h1 : t ≠ 197) (h2 : t ≠ 220) (h3 : t ≠ 144) (h : Mq w m F c now xs) (tt : Touch F w w') : RN t w' v ys := hr.keepK (fun r cs hc => tt.keep hc (h.away hc h1 h2 h3))
theorem RN.at1 {t : Nat} {w : World} {g off n c : Nat} {xs : List En} (h : RN t w (.slice (some ⟨g, off, none⟩) n c) xs) (hp : 0 < xs.length) : At7 w t g off xs := by
  obtain ⟨a', c', e1, _, e3⟩ := h
  obtain ⟨g', off', e4, hat⟩ := e3 hp
  injection e1 with e1 _ _
  rw [e4] at e1
  injection e1 with e1
  injection e1 with e5 e6
  rw [e5, e6]
  exact hat
structure OfS (w : World) (c : Cf) (now : Int) (xs : List En) (v : Value) (m k : Nat) (wr : World) : Prop where
  mq : ∃ F, Mq wr m F c now (xs.take k) ∧ ∀ i ∈ F, w.heap.size ≤ i
  rn : RN 60 wr v xs
  t : Touch [] w wr
  eq : ofL c now [] xs 0 = ofL c now (xs.take k) (xs.drop k) (k : Int)
section
variable {w wr wr' : World} {c : Cf} {now : Int} {xs : List En} {v : Value} {m k : Nat}
theorem OfS.keep0 (h : OfS w c now xs v m k wr) (t : Touch [] wr wr') : OfS w c now xs v m k wr' := by
  obtain ⟨F, q, hF⟩ := h.mq
  exact ⟨⟨F, q.keep0 t, hF⟩, h.rn.keep t, h.t.trans' t, h.eq⟩
theorem OfS.next (h : OfS w c now xs v m k wr) (x : En) (hk : Ok x.1) : Calls Tryz.prog 85 #[PT m, nv x] wr fun e w' => e = .returned (.int .i64 (nxE c now (xs.take k) x)) ∧ Touch [] wr w' := by
  obtain ⟨F, q, hF⟩ := h.mq
  exact next40 wr m F c now _ q x hk
theorem OfS.bad (h : OfS w c now xs v m k wr) (hk : k < xs.length) (h0 : nxE c now (xs.take k) xs[k] ≠ 0) : ofL c now [] xs 0 = ((k : Int), nxE c now (xs.take k) xs[k]) := by
  rw [h.eq, List.drop_eq_getElem_cons hk]
  unfold ofL
  rw [if_pos h0]
theorem OfS.fin (h : OfS w c now xs v m k wr) (hk : xs.length ≤ k) : ofL c now [] xs 0 = (0, 0) ∧ ∃ F, Mq wr m F c now xs ∧ (∀ i ∈ F, w.heap.size ≤ i) := by
  obtain ⟨F, q, hF⟩ := h.mq
  rw [List.take_of_length_le hk] at q
  refine ⟨?_, F, q, hF⟩
  rw [h.eq, List.drop_of_length_le hk]
  rfl
theorem OfS.put (h : OfS w c now xs v m k wr) (hk : k < xs.length) (hl : (xs.length : Int) ≤ c.e) (h0 : nxE c now (xs.take k) xs[k] = 0) (ok : Ok xs[k].1) : Calls Tryz.prog 76 #[PT m, kv xs[k].1, ev xs[k].2] wr fun e w' => ∃ u, e = .returned u ∧ OfS w c now xs v m (k + 1) w' := by
  obtain ⟨F, q, hF⟩ := h.mq
  obtain ⟨g1, g2, g3⟩ := nxE_ok h0
  have hn := fnd_out q.nd g3
  have hp : putL c.e (xs.take k) xs[k].1 xs[k].2 = xs.take (k + 1) := by
    rw [putL_new hn (by rw [List.length_take]; omega), List.take_add_one, List.getElem?_eq_getElem hk]
    rfl
  refine (putM wr m F c now _ q xs[k].1 ok g1 xs[k].2 g2).mono ?_
  rintro e w' ⟨u, rfl, _, F2, q2, t2, f2⟩
  rw [hp] at q2
  refine ⟨u, rfl, ⟨F2, q2, fun i hi => ?_⟩, h.rn.mqt (by decide) (by decide) (by decide) q t2, h.t.trans t2 (fun i hi => Or.inr (hF i hi)), ?_⟩
  · rcases f2 i hi with h1 | h1
    · exact hF i h1
    · exact Nat.le_trans h.t.size h1
  · rw [h.eq, List.drop_eq_getElem_cons hk, ofL, if_neg (by rw [h0]; simp), List.take_add_one, List.getElem?_eq_getElem hk]
    rfl
end
def OfA (w : World) (c : Cf) (now : Int) (xs : List En) (pm : Value) (w' : World) : Prop := ((ofP c now xs).2 ≠ 0 ∧ pm = .pointer none ∧ Touch [] w w') ∨ ((ofP c now xs).2 = 0 ∧ (ofP c now xs).1 = 0 ∧ ∃ m F, pm = PT m ∧ Mq w' m F c now xs ∧ (∀ i ∈ F, w.heap.size ≤ i) ∧ Touch [] w w')
set_option maxHeartbeats 1000000 in
theorem of15_cfg (w : World) (c : Cf) (now : Int) (a1 : Option Addr) (n1 c1 : Nat) (hc : okC c = false) : Calls Tryz.prog 31 #[cv c, .int .i64 now, .slice a1 n1 c1] w fun e w' => e = .returned (.tuple #[.pointer none, .int .i64 0, .int .i64 100]) ∧ Touch [] w w' := by
  have HN := hid (fun w2 => new9_no w2 c hc)
  unfold cv at HN
  unfold cv
  go_enter Tryz.func31, Tryz.ntmps31
  go_wp2_with (go_at_call 83; refine (HN.out _).mono ?_; rintro x w3 ⟨rfl, t3⟩; have T3 := hid (((Touch.refl [] w).alloc _).trans' t3); clear t3)
  exact bodyPost_ret (v := .tuple #[.pointer none, .int .i64 0, .int .i64 100]) (by simp [results, Tryz.results31, go_sem]) rfl ⟨rfl, T3.out⟩
set_option maxHeartbeats 1000000 in
theorem of15_tick (w : World) (c : Cf) (now : Int) (a1 : Option Addr) (n1 c1 : Nat) (wc : Wc c) (hc : okC c = true) (ht : isT now = false) : Calls Tryz.prog 31 #[cv c, .int .i64 now, .slice a1 n1 c1] w fun e w' => e = .returned (.tuple #[.pointer none, .int .i64 0, .int .i64 10]) ∧ Touch [] w w' := by
  have HN : Hid (∀ w2, Calls Tryz.prog 83 #[cv c] w2 fun x w' => ∃ m, x = .returned (.tuple #[PT m, .int .i64 0]) ∧ NwQ w2 c m w') := hid (fun w2 => new9_ok w2 c hc ⟨wc.1.hi, wc.2.1.hi, wc.2.2.1.hi⟩)
  have HT := hid (fun w => is39 now w)
  rw [ht] at HT
  unfold cv PT at HN
  unfold cv
  go_enter Tryz.func31, Tryz.ntmps31
  go_wp2_with (first
    | (go_at_call 83; refine (HN.out _).mono ?_; rintro x w3 ⟨m, rfl, F, q3, f3, t3⟩; have T3 := hid (((Touch.refl [] w).alloc _).trans' t3); clear t3 q3 f3)
    | (go_at_call 84; refine (HT.out _).mono ?_; rintro x w4 ⟨rfl, e4⟩; rw [e4]; clear e4 w4))
  exact bodyPost_ret (v := .tuple #[.pointer none, .int .i64 0, .int .i64 10]) (by simp [results, Tryz.results31, go_sem]) rfl ⟨rfl, T3.out⟩
set_option maxHeartbeats 1000000 in
theorem of15_many (w : World) (c : Cf) (now : Int) (a1 : Option Addr) (n1 c1 : Nat) (wc : Wc c) (hc : okC c = true) (ht : isT now = true) (hm : c.e < (n1 : Int)) (hl : (n1 : Int) ≤ 9223372036854775807) : Calls Tryz.prog 31 #[cv c, .int .i64 now, .slice a1 n1 c1] w fun e w' => e = .returned (.tuple #[.pointer none, .int .i64 0, .int .i64 3]) ∧ Touch [] w w' := by
  obtain ⟨V, hV⟩ : ∃ V, V = w.alloc (cbx c 23) := ⟨_, rfl⟩
  have TV : Hid (Touch [] w V) := hid (by rw [hV]; exact (Touch.refl _ _).alloc _)
  have HC : Hid (∀ w', Touch [] V w' → C7 w' w.heap.size c) := hid (fun w' t => C7.mk' (t.keep (by rw [hV]; exact heap_alloc_new w (cbx c 23)) (by simp)))
  obtain ⟨c0, c1', c2, c3, c4, c5, c6⟩ := HC.out V (Touch.refl _ _)
  have HN : Hid (∀ w2, Calls Tryz.prog 83 #[cv c] w2 fun x w' => ∃ m, x = .returned (.tuple #[PT m, .int .i64 0]) ∧ NwQ w2 c m w') := hid (fun w2 => new9_ok w2 c hc ⟨wc.1.hi, wc.2.1.hi, wc.2.2.1.hi⟩)
  have HT := hid (fun w => is39 now w)
  rw [ht] at HT
  unfold cv PT at HN
  unfold cv
  unfold cbx at hV
  clear wc
  go_enter Tryz.func31, Tryz.ntmps31
  go_upto_region 1 with fail
  rw [← hV]
  clear hV
  go_upto_region 4 with (go_at_call 83; refine (HN.out _).mono ?_; rintro x w3 ⟨m, rfl, F, q3, f3, t3⟩; have T3 := hid t3; clear t3 q3 f3)
  clear c0 c1' c2 c3 c4 c5 c6
  obtain ⟨c0, c1', c2, c3, c4, c5, c6⟩ := HC.out w3 T3.out
  go_wp2_with (go_at_call 84; refine (HT.out _).mono ?_; rintro x w4 ⟨rfl, e4⟩; rw [e4]; clear e4 w4)
  exact bodyPost_ret (v := .tuple #[.pointer none, .int .i64 0, .int .i64 3]) (by simp [results, Tryz.results31, go_sem]) rfl ⟨rfl, TV.out.trans' T3.out⟩
set_option maxHeartbeats 8000000 in
set_option maxRecDepth 100000 in
theorem of15_go (w : World) (c : Cf) (now : Int) (xs : List En) (v : Value) (wc : Wc c) (hc : okC c = true) (ht : isT now = true) (hm : ¬ c.e < (xs.length : Int)) (hv : RN 60 w v xs) (hok : ∀ x ∈ xs, Ok x.1) : Calls Tryz.prog 31 #[cv c, .int .i64 now, v] w fun e w' => ∃ pm, e = .returned (.tuple #[pm, .int .i64 (ofL c now [] xs 0).1, .int .i64 (ofL c now [] xs 0).2]) ∧ (((ofL c now [] xs 0).2 ≠ 0 ∧ pm = .pointer none ∧ Touch [] w w') ∨ ((ofL c now [] xs 0).2 = 0 ∧ (ofL c now [] xs 0).1 = 0 ∧ ∃ m F, pm = PT m ∧ Mq w' m F c now xs ∧ (∀ i ∈ F, w.heap.size ≤ i) ∧ Touch [] w w')) := by
  obtain ⟨a1, c1, rfl, hcp, hg⟩ := hv
  have HR0 : Hid (RN 60 w (.slice a1 xs.length c1) xs) := hid ⟨a1, c1, rfl, hcp, hg⟩
  obtain ⟨V, hV⟩ : ∃ V, V = w.alloc (cbx c 23) := ⟨_, rfl⟩
  have TV : Hid (Touch [] w V) := hid (by rw [hV]; exact (Touch.refl _ _).alloc _)
  have HC : Hid (∀ w', Touch [] V w' → C7 w' w.heap.size c) := hid (fun w' t => C7.mk' (t.keep (by rw [hV]; exact heap_alloc_new w (cbx c 23)) (by simp)))
  obtain ⟨c0, c1', c2, c3, c4, c5, c6⟩ := HC.out V (Touch.refl _ _)
  have HN : Hid (∀ w2, Calls Tryz.prog 83 #[cv c] w2 fun x w' => ∃ m, x = .returned (.tuple #[PT m, .int .i64 0]) ∧ NwQ w2 c m w') := hid (fun w2 => new9_ok w2 c hc ⟨wc.1.hi, wc.2.1.hi, wc.2.2.1.hi⟩)
  have HT := hid (fun w => is39 now w)
  rw [ht] at HT
  have HNow : Hid (0 ≤ now ∧ now ≤ MT) := hid (by unfold isT at ht; simp only [Bool.and_eq_true, decide_eq_true_eq] at ht; unfold MT; exact ht)
  have HOK := hid hok
  have hle := (okC_e hc).2
  obtain ⟨n, hn⟩ : ∃ n, n = xs.length := ⟨_, rfl⟩
  have HNx := hid hn
  have HG : Hid (0 < n → ∃ g off, a1 = some ⟨g, off, none⟩) := hid (fun hp => by obtain ⟨g, off, h1, _⟩ := hg (by omega); exact ⟨g, off, h1⟩)
  rw [← hn] at HR0 hm ⊢
  have zl : (n : Int) ≤ c.e := by omega
  have zn : (n : Int) ≤ 65536 := by omega
  have HLe := hid zl
  obtain ⟨rp, hrp⟩ : ∃ rp, rp = ofL c now [] xs 0 := ⟨_, rfl⟩
  rw [← hrp]
  have HRp := hid hrp
  unfold cv PT at HN
  unfold cv
  unfold cbx at hV
  clear wc hc ht hm hcp hg hok hn hle hrp
  go_enter Tryz.func31, Tryz.ntmps31
  go_upto_region 1 with fail
  rw [← hV]
  clear hV
  go_upto_region 4 with (go_at_call 83; refine (HN.out _).mono ?_; rintro x w3 ⟨m, rfl, F, q3, f3, t3⟩; have T3 := hid t3; have Q3 := hid q3; have F3 := hid f3; clear t3 q3 f3)
  clear c0 c1' c2 c3 c4 c5 c6
  obtain ⟨c0, c1', c2, c3, c4, c5, c6⟩ := HC.out w3 T3.out
  obtain ⟨k7, kf⟩ : w3.cell? ⟨m, 7, none⟩ = some (.int .i64 0) ∧ w3.frozen? ⟨m, 7, none⟩ = false := by
    obtain ⟨b, o, G, _, q⟩ := Q3.out
    exact ⟨q.md.cs.c7, q.md.cs.f7⟩
  go_upto_region 9 with (go_at_call 84; refine (HT.out _).mono ?_; rintro x w4 ⟨rfl, e4⟩; rw [e4]; clear e4 w4)
  clear c0 c1' c2 c3 c4 c5 c6 k7 kf
  obtain ⟨W3, hW3⟩ : ∃ W3, W3 = w3.setCell ⟨m, 7, none⟩ (.int .i64 now) := ⟨_, rfl⟩
  have HI0 : Hid (OfS w c now xs (.slice a1 n c1) m 0 W3) := hid (by
    obtain ⟨F2, q2, t2, f2⟩ := Q3.out.time HNow.out.1 HNow.out.2
    rw [← hW3] at q2 t2
    have hz := TV.out.size
    refine ⟨⟨F2, q2, fun i hi => ?_⟩, (HR0.out.keep (TV.out.trans' T3.out)).mqt (by decide) (by decide) (by decide) Q3.out t2, (TV.out.trans' T3.out).trans t2 (fun i hi => Or.inr (by have := F3.out i hi; omega)), rfl⟩
    rcases f2 i hi with h1 | h1
    · have := F3.out i h1; omega
    · have := (TV.out.trans' T3.out).size; omega)
  rw [← hW3]
  clear hW3 T3 Q3 F3 HN HT HC TV HR0 HNow
  go_wp2_with fail
  go_loopw [36] (fun s36 wr => ∃ k : Nat, s36 = .int .i64 (k : Int) ∧ k ≤ n ∧ Hid (OfS w c now xs (.slice a1 n c1) m k wr)) (fun i _ => n - (intOf i).toNat)
  case atStart => exact ⟨0, rfl, Nat.zero_le _, HI0⟩
  case round =>
    clear HI0
    obtain ⟨k, rfl, hk, HS⟩ := hrel
    by_cases hlt : k < n
    · have zk : (k : Int) < (n : Int) := by omega
      have hix : k < xs.length := by have := HNx.out; omega
      obtain ⟨g, off, rfl⟩ := HG.out (by omega)
      have hat := HS.out.rn.at1 (by omega)
      have r0 := hat.cell k 0 hix (by omega) rfl
      have r1 := hat.cell k 1 hix (by omega) rfl
      have r2 := hat.cell k 2 hix (by omega) rfl
      have r3 := hat.cell k 3 hix (by omega) rfl
      have r4 := hat.cell k 4 hix (by omega) rfl
      have r5 := hat.cell k 5 hix (by omega) rfl
      have r6 := hat.cell k 6 hix (by omega) rfl
      rw [Nat.add_zero] at r0
      simp only [← Nat.add_assoc] at r1 r2 r3 r4 r5 r6
      have HB := hid (fun h0 => HS.out.bad hix h0)
      have hokx := HOK.out xs[k] (List.getElem_mem hix)
      have HP : Hid (∀ w', Touch [] wr w' → nxE c now (xs.take k) xs[k] = 0 → Calls Tryz.prog 76 #[PT m, kv xs[k].1, ev xs[k].2] w' fun e w'' => ∃ u, e = .returned u ∧ OfS w c now xs (.slice (some ⟨g, off, none⟩) n c1) m (k + 1) w'') := hid (fun w' t h0 => (HS.out.keep0 t).put hix (by have := HLe.out; have := HNx.out; omega) h0 hokx)
      have HNk := hid (And.intro hk hlt)
      clear hat hk hlt
      generalize xs[k] = x at *
      clear hix
      obtain ⟨W1, hW1⟩ : ∃ W1, W1 = wr.alloc (.cells #[.int .u16 x.1.1, .string x.1.2, .int .i64 x.2.1.1, .int .i64 x.2.1.2.1, .int .i64 x.2.1.2.2.1, .int .i64 x.2.1.2.2.2, .int .i64 x.2.2] 60) := ⟨_, rfl⟩
      have HT1 : Hid (Touch [] wr W1) := hid (by rw [hW1]; exact (Touch.refl _ _).alloc _)
      have HX : Hid (∀ w', Touch [] W1 w' → w'.cell? ⟨wr.heap.size, 0, none⟩ = some (.int .u16 x.1.1) ∧ w'.cell? ⟨wr.heap.size, 1, none⟩ = some (.string x.1.2) ∧ w'.cell? ⟨wr.heap.size, 2, none⟩ = some (.int .i64 x.2.1.1) ∧ w'.cell? ⟨wr.heap.size, 3, none⟩ = some (.int .i64 x.2.1.2.1) ∧ w'.cell? ⟨wr.heap.size, 4, none⟩ = some (.int .i64 x.2.1.2.2.1) ∧ w'.cell? ⟨wr.heap.size, 5, none⟩ = some (.int .i64 x.2.1.2.2.2) ∧ w'.cell? ⟨wr.heap.size, 6, none⟩ = some (.int .i64 x.2.2)) := hid (fun w' t => by
        have := t.keep (k := wr.heap.size) (by rw [hW1]; exact heap_alloc_new wr _) (by simp)
        simp [World.cell?, this])
      have HNe := hid ((HS.out.keep0 HT1.out).next x hokx)
      obtain ⟨er, her⟩ : ∃ er, er = nxE c now (xs.take k) x := ⟨_, rfl⟩
      rw [← her] at HNe HB HP
      clear hokx her
      unfold PT nv at HNe
      unfold PT kv ev at HP
      obtain ⟨p0, p1, p2, p3, p4, p5, p6⟩ := HX.out W1 (Touch.refl _ _)
      go_upto_region 12 with fail
      rw [← hW1]
      clear hW1 r0 r1 r2 r3 r4 r5 r6
      go_upto_region 13 with (go_at_call 85; refine HNe.out.mono ?_; rintro z w2 ⟨rfl, t2⟩; have T2 := hid t2; clear t2)
      clear p0 p1 p2 p3 p4 p5 p6
      by_cases he : er ≠ 0
      · have HE := hid (HB.out he)
        clear HP HB
        go_wp2_with fail
        refine bodyPost_ret (v := .tuple #[.pointer none, .int .i64 (k : Int), .int .i64 er]) (by simp [results, Tryz.results31, go_sem]) rfl ?_
        have e1 : rp = ((k : Int), er) := HRp.out.trans HE.out
        rw [e1]
        exact ⟨_, rfl, Or.inl ⟨he, rfl, (HS.out.t.trans' HT1.out).trans' T2.out⟩⟩
      · obtain rfl : er = 0 := Classical.not_not.1 he
        have HP2 := hid (HP.out w2 (HT1.out.trans' T2.out) rfl)
        obtain ⟨p0, p1, p2, p3, p4, p5, p6⟩ := HX.out w2 T2.out
        clear HP HB he
        go_wp2_with (go_at_call 76; refine HP2.out.mono ?_; rintro z w5 ⟨u5, rfl, l5⟩; have L5 := hid l5; clear l5)
        go_roundw
        case rel => exact ⟨k + 1, by go_num, by have := HNk.out; omega, L5⟩
        case measure => simp [intOf]; have := HNk.out; omega
    · have zk : (n : Int) ≤ (k : Int) := by omega
      have HE := hid (HS.out.fin (by have := HNx.out; omega))
      go_wp2_with fail
      refine bodyPost_ret (v := .tuple #[.pointer (some ⟨m, 0, none⟩), .int .i64 0, .int .i64 0]) (by simp [results, Tryz.results31, go_sem]) rfl ?_
      obtain ⟨e1, F, q, hF⟩ := HE.out
      rw [HRp.out, e1]
      exact ⟨_, rfl, Or.inr ⟨rfl, rfl, m, F, rfl, q, hF, HS.out.t⟩⟩
theorem of15 (w : World) (c : Cf) (now : Int) (xs : List En) (v : Value) (wc : Wc c) (hl : (xs.length : Int) ≤ 9223372036854775807) (hv : RN 60 w v xs) (hok : ∀ x ∈ xs, Ok x.1) : Calls Tryz.prog 31 #[cv c, .int .i64 now, v] w fun e w' => ∃ pm, e = .returned (.tuple #[pm, .int .i64 (ofP c now xs).1, .int .i64 (ofP c now xs).2]) ∧ OfA w c now xs pm w' := by
  unfold OfA
  unfold ofP
  cases hc : okC c with
  | false =>
    rw [if_pos rfl]
    obtain ⟨a1, c1, rfl, _⟩ := hv
    refine (of15_cfg w c now a1 _ c1 hc).mono ?_
    rintro e w' ⟨rfl, t⟩
    exact ⟨_, rfl, Or.inl ⟨by decide, rfl, t⟩⟩
  | true =>
    rw [if_neg (by simp)]
    cases ht : isT now with
    | false =>
      rw [if_pos rfl]
      obtain ⟨a1, c1, rfl, _⟩ := hv
      refine (of15_tick w c now a1 _ c1 wc hc ht).mono ?_
      rintro e w' ⟨rfl, t⟩
      exact ⟨_, rfl, Or.inl ⟨by decide, rfl, t⟩⟩
    | true =>
      rw [if_neg (by simp)]
      by_cases hm : c.e < (xs.length : Int)
      · rw [if_pos hm]
        obtain ⟨a1, c1, rfl, _⟩ := hv
        refine (of15_many w c now a1 _ c1 wc hc ht hm hl).mono ?_
        rintro e w' ⟨rfl, t⟩
        exact ⟨_, rfl, Or.inl ⟨by decide, rfl, t⟩⟩
      · rw [if_neg hm]
        exact of15_go w c now xs v wc hc ht hm hv hok
end Go.Proofs.YtpefbmheblfbeaaGreat.Me
