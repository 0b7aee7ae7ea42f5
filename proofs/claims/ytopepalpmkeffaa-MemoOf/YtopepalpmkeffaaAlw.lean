/- The walk of All; no conditions. -/
import Derived.Test.YtopepalpmkeffaaAll
import Derived.Deep.CutRange
import Derived.Deep.CutBlock
namespace Go.Proofs.Ytopepalpmkeffaa
open Go.RowKit Go.Sort Go.Maps Go.ChangeMaps Go.WideMaps Go.Shelf
set_option linter.unusedVariables false
set_option linter.unusedSimpArgs false
attribute [local go_sem] Oper.semAt_some
theorem info56 : (Try.prog.info? 56).map (fun i => (i.zero, i.size, i.bytes)) = some (some (.agg #[.int .u16 0, .string ⟨#[]⟩, .int .i64 0, .int .i64 0, .int .i64 0, .int .i64 0, .int .i64 0]), 7, 64) := by kernel_rfl
theorem cell_seven_new (w : World) (a b c d e f g : Value) (t : TypeId) : ∀ j u, [a, b, c, d, e, f, g][j]? = some u → (w.alloc (.cells #[a, b, c, d, e, f, g] t)).cell? ((⟨w.heap.size, 0, none⟩ : Addr).add j) = some u := by
  intro j u hj
  have h7 : j < 7 := by
    rcases Nat.lt_or_ge j 7 with h | h
    · exact h
    · rw [List.getElem?_eq_none (by simpa using h)] at hj; cases hj
  match j, h7, hj with
  | 0, _, hj => simp at hj; subst hj; simp [Addr.add]
  | 1, _, hj => simp at hj; subst hj; simp [Addr.add]
  | 2, _, hj => simp at hj; subst hj; simp [Addr.add]
  | 3, _, hj => simp at hj; subst hj; simp [Addr.add]
  | 4, _, hj => simp at hj; subst hj; simp [Addr.add]
  | 5, _, hj => simp at hj; subst hj; simp [Addr.add]
  | 6, _, hj => simp at hj; subst hj; simp [Addr.add]
def AlQ (w : World) (xs : List En) (v : Value) (w' : World) : Prop := w'.ownsRow w.heap.size 56 7 v xs.length (cellsN xs) ∧ Touch [] w w'
set_option maxRecDepth 100000 in
set_option maxHeartbeats 4000000 in
theorem allM (w : World) (m : Nat) (F : List Nat) (c : Cf) (now : Int) (xs : List En) (h : Mq w m F c now xs) : Calls Try.prog 20 #[PT m] w fun e w' => ∃ v, e = .returned v ∧ AlQ w xs v w' := by
  refine (callsIn_wide (n := 0)).1 ?_
  obtain ⟨i3, hi, hz0, hz1, hz2⟩ := info_parts info56
  have hF := h.lt
  have hmF := h.mem
  have HM := hid h
  obtain ⟨b, o, G, rfl, hb⟩ := h
  have hlen := hb.len
  have c9 : Hid (∀ w', Touch [] w w' → w'.cell? ⟨m, 9, none⟩ = some (.pointer (some ⟨o, 0, none⟩))) := hid (fun w' t => (hb.keep0 t).md.cs.c9)
  have HO : Hid (∀ w', Touch [] w w' → Oq w' o G c.e (keysL xs)) := hid (fun w' t => (hb.keep0 t).oq)
  have HLn : Hid (∀ w', Touch [] w w' → Calls Try.prog 19 #[PT m] w' fun e w'' => e = .returned (.int .i64 (xs.length : Int)) ∧ w'' = w') := hid (fun w' t => len19 w' m b o G c now xs (hb.keep0 t))
  have TB : Touch [] w (w.alloc (.cells #[PT m] 26)) := (Touch.refl _ _).alloc _
  have hB0 := heap_alloc_new w (.cells #[PT m] 26)
  clear hb
  refine callsIn_of_wp_marks Try.func20 rfl trivial (wpIn_wide.2 ?_) rfl
  simp only [Try.ntmps20, List.size_toArray, List.length_cons, List.length_nil, Nat.reduceAdd, Nat.reduceSub, Array.replicate_succ, Array.replicate_zero, List.push_toArray, List.append_toArray, List.nil_append, List.cons_append]
  have HA := fun w => all13 w o
  unfold PT at HA HLn
  unfold PT at TB hB0 ⊢
  have HT1 := hid TB
  have zl : (xs.length : Int) ≤ 65536 := by omega
  clear TB
  go_upto_region 4 with (first
    | (go_at_call 19; refine (HLn.out _ HT1.out).mono ?_; rintro e w1 ⟨rfl, e1⟩; rw [e1]; clear e1 w1)
    | (at_make; refine wpList_make_own _ rfl _ _ 50 rfl w.heap.size 56 i3 (.agg #[.int .u16 0, .string ⟨#[]⟩, .int .i64 0, .int .i64 0, .int .i64 0, .int .i64 0, .int .i64 0]) 7 Try.underlying50 hi hz0 hz1 .i64 .i64 _ xs.length rfl rfl rfl (by rw [hz2]; omega) (by unfold maxLen; omega) (by simp) ?_; intro w3 o3 g3; have O3 := hid o3; have G3 := hid g3; clear o3 g3))
  have O3 : Hid (w3.ownsRow w.heap.size 56 7 (.slice (some ⟨w.heap.size + 1, 0, none⟩) 0 xs.length) 0 []) := hid (by have := O3.out; rw [World.size_alloc] at this; exact this)
  have T3 : Touch [] w w3 := HT1.out.grown G3.out (fun k hk => by cases hk)
  have c9' := c9.out _ (T3.alloc (.cells #[.slice (some ⟨w.heap.size + 1, 0, none⟩) 0 xs.length] 50))
  have hp1 : w3.heap[w.heap.size]? = some (.cells #[.pointer (some ⟨m, 0, none⟩)] 26 (0, 0)) := (Touch.grown (Touch.refl [] _) G3.out (fun k hk => by cases hk)).keep hB0 (by simp)
  have hp1' : (w3.alloc (.cells #[.slice (some ⟨w.heap.size + 1, 0, none⟩) 0 xs.length] 50)).cell? ⟨w.heap.size, 0, none⟩ = some (.pointer (some ⟨m, 0, none⟩)) := by
    have := ((Touch.refl [] w3).alloc (.cells #[.slice (some ⟨w.heap.size + 1, 0, none⟩) 0 xs.length] 50)).keep hp1 (by simp)
    simp [World.cell?, this]
  go_wp2_with (go_at_call 48; refine (HA _).mono ?_; rintro e w5 ⟨rfl, rfl⟩)
  obtain ⟨W0, hW0⟩ : ∃ W0, (w3.alloc (.cells #[.slice (some ⟨w.heap.size + 1, 0, none⟩) 0 xs.length] 50)).alloc (.cells #[.pointer (some ⟨o, 0, none⟩)] 88) = W0 := ⟨_, rfl⟩
  rw [hW0]
  have T0 : Touch [] w3 W0 := by rw [← hW0]; exact ((Touch.refl _ _).alloc _).alloc _
  have z0 : W0.heap.size = w3.heap.size + 2 := by rw [← hW0]; simp
  have hz3 : w.heap.size < w3.heap.size := block_lt hp1
  have k3 : W0.heap[w3.heap.size]? = some (.cells #[.slice (some ⟨w.heap.size + 1, 0, none⟩) 0 xs.length] 50 (0, 0)) := by rw [← hW0]; exact (Below.heap_alloc _ _ _ (by simp)).trans (heap_alloc_new _ _)
  have k4 : W0.heap[w3.heap.size + 1]? = some (.cells #[.pointer (some ⟨o, 0, none⟩)] 88 (0, 0)) := by
    rw [← hW0]
    have := heap_alloc_new (w3.alloc (.cells #[.slice (some ⟨w.heap.size + 1, 0, none⟩) 0 xs.length] 50)) (.cells #[.pointer (some ⟨o, 0, none⟩)] 88)
    rwa [World.size_alloc] at this
  have k1 := T0.keep hp1 (by simp)
  have TW := hid (T3.trans' T0)
  have O0 : W0.ownsRow w.heap.size 56 7 (.slice (some ⟨w.heap.size + 1, 0, none⟩) 0 xs.length) 0 [] := own_touch O3.out T0 (fun _ _ e => by cases e)
  have hB0' : ∀ b, ((.slice (some ⟨w.heap.size + 1, 0, none⟩) 0 xs.length) : Value).ownBlock = some b → b < w3.heap.size := fun b hb => (O3.out.lt b hb).2
  clear hW0 HA c9' hp1' hB0 HT1 O3 G3
  refine (wpIn_wide (n := 0)).1 ?_
  refine range_at (s := 4) (p := 17) (w3.heap.size + 1) o G c.e (keysL xs) rfl rfl (by simp [World.cell?, k4, PT]) (block_lt k4) (HO.out _ TW.out) (by rw [keysL_len]; omega) (AlI w w.heap.size w3.heap.size m xs) (fun _ _ => False) ?_ (fun X pre W W' hi ht => hi.step ht) (fun _ _ _ h _ => h) ?_ ?_ ?_ ?_
  · intro X W t hX
    have hX' : ∀ k ∈ X, w3.heap.size + 2 ≤ k := fun k hk => by have := hX k hk; omega
    refine ⟨⟨_, t.keep k3 (by simp), ?_, fun b hb hh => ?_⟩, t.keep k1 (by simp), ⟨fun hh => by have := hX' _ hh; omega, fun hh => by have := hX' _ hh; omega, by omega⟩, fun k hk => by have := hX' k hk; omega, TW.out.trans' t⟩
    · exact own_touch O0 t (fun _ _ e => by cases e)
    · have := hB0' b hb
      have := hX' b hh
      omega
  · intro l x W K hK
    unfold ax kv at hK
    unfold kv
    gi_wp2
    exact hK
  · rintro l X pre x b W hi' hb hX ⟨post, hpost⟩
    have hbx : W.heap[b]? = some (.cells #[.int .u16 x.1, .string x.2] 39 (0, 0)) := hb
    have b0 : W.cell? ⟨b, 0, none⟩ = some (.int .u16 x.1) := by simp [World.cell?, hbx]
    have b1 : W.cell? ⟨b, 1, none⟩ = some (.string x.2) := by simp [World.cell?, hbx]
    have hbs := block_lt hb
    have hXW : ∀ k ∈ X, k < W.heap.size := fun k hk => by have := hX k hk; omega
    have hM := HM.out.keep0 hi'.2.2.2.2
    obtain ⟨v, hgv, hfv⟩ : ∃ v, xs[pre.length]? = some (x, v) ∧ fnd xs x = some v := by
      have h1 : (keysL xs)[pre.length]? = some x := by rw [hpost]; simp
      unfold keysL at h1
      rw [List.getElem?_map] at h1
      cases hy : xs[pre.length]? with
      | none => rw [hy] at h1; cases h1
      | some y =>
        rw [hy] at h1
        simp only [Option.map_some, Option.some.injEq] at h1
        obtain ⟨y1, y2⟩ := y
        simp only at h1
        subst h1
        exact ⟨y2, rfl, fnd_of_mem (x := (y1, y2)) hM.nd (List.mem_of_getElem? hy)⟩
    have hok : Ok x := hM.ok x (by rw [hpost]; simp)
    have HG := hid (getM W m _ c now xs hM x hok)
    unfold getS at HG
    rw [hfv] at HG
    simp only at HG
    have hpl : pre.length ≤ 65536 := by
      have := congrArg List.length hpost
      rw [keysL_len, List.length_append] at this
      omega
    obtain ⟨⟨u, u1, u2, u3⟩, u4, u5, u6, u7⟩ := hi'
    have HI := hid (show AlI w w.heap.size w3.heap.size m xs X pre W from ⟨⟨u, u1, u2, u3⟩, u4, u5, u6, u7⟩)
    have p0 : W.cell? ⟨w.heap.size, 0, none⟩ = some (.pointer (some ⟨m, 0, none⟩)) := by unfold PT at u4; simp [World.cell?, u4]
    have HU := hid u2
    have hu1 := hid u1
    have hsz := u7.size
    have HXW := hid hXW
    have HGV := hid hgv
    clear hb hbx hM hfv hpost u2 u3 u4 u5 u6 u7 hX hXW hgv hok
    unfold PT kv nv at HG
    simp only at HG
    unfold ax kv
    simp only [List.setIfInBounds_toArray, List.set_cons_zero, List.set_cons_succ]
    gi_wp2
    refine ⟨trivial, rfl, ?_⟩
    refine (CallsIn.inRound l (callsIn_wide.2 HG.out)).mono ?_
    rintro e W' ⟨rfl, t'⟩
    have T' := hid t'
    obtain ⟨W6, hW6⟩ : ∃ W6, W6 = W'.alloc (.cells #[.int .u16 x.1, .string x.2, .int .i64 v.1.1, .int .i64 v.1.2.1, .int .i64 v.1.2.2.1, .int .i64 v.1.2.2.2, .int .i64 v.2] 56) := ⟨_, rfl⟩
    have T6 : Hid (Touch [] W W6) := hid (by rw [hW6]; exact t'.alloc _)
    have u6 := T6.out.keep hu1.out (by simp)
    have q3 : W6.cell? ⟨w3.heap.size, 0, none⟩ = some u := by simp [World.cell?, u6]
    have O6 := hid (own_touch HU.out T6.out (fun _ _ e => by cases e))
    have hsz6 := T6.out.size
    have e6 : W6.heap.size = W'.heap.size + 1 := by rw [hW6]; simp
    clear t' u6 HG
    have q4 : (W'.alloc (.cells #[.int .u16 x.1, .string x.2, .int .i64 v.1.1, .int .i64 v.1.2.1, .int .i64 v.1.2.2.1, .int .i64 v.1.2.2.2, .int .i64 v.2] 56)).cell? ⟨w3.heap.size, 0, none⟩ = some u := by rw [← hW6]; exact q3
    have O7 : Hid ((W'.alloc (.cells #[.int .u16 x.1, .string x.2, .int .i64 v.1.1, .int .i64 v.1.2.1, .int .i64 v.1.2.2.1, .int .i64 v.1.2.2.2, .int .i64 v.2] 56)).ownsRow w.heap.size 56 7 u pre.length (cellsN (xs.take pre.length))) := hid (by rw [← hW6]; exact O6.out)
    have e7 : (W'.alloc (.cells #[.int .u16 x.1, .string x.2, .int .i64 v.1.1, .int .i64 v.1.2.1, .int .i64 v.1.2.2.1, .int .i64 v.1.2.2.2, .int .i64 v.2] 56)).heap.size = W'.heap.size + 1 := by simp
    gi_wp2_with (gi_at_builtin; refine Hid.out ?_)
    refine hid ?_
    refine wpListIn_append_lies _ rfl _ _ 50 rfl w.heap.size 56 i3 (.agg #[.int .u16 0, .string ⟨#[]⟩, .int .i64 0, .int .i64 0, .int .i64 0, .int .i64 0, .int .i64 0]) 7 64 Try.underlying50 hi hz0 hz1 hz2 rfl (by decide) u pre.length (cellsN (xs.take pre.length)) rfl (O7.out.alloc _) ⟨W'.heap.size + 1, 0, none⟩ 1 1 [.int .u16 x.1, .string x.2, .int .i64 v.1.1, .int .i64 v.1.2.1, .int .i64 v.1.2.2.1, .int .i64 v.1.2.2.2, .int .i64 v.2] rfl rfl (by have := cell_seven_new (W'.alloc (.cells #[.int .u16 x.1, .string x.2, .int .i64 v.1.1, .int .i64 v.1.2.1, .int .i64 v.1.2.2.1, .int .i64 v.1.2.2.2, .int .i64 v.2] 56)) (.int .u16 x.1) (.string x.2) (.int .i64 v.1.1) (.int .i64 v.1.2.1) (.int .i64 v.1.2.2.1) (.int .i64 v.1.2.2.2) (.int .i64 v.2) 56; rw [e7] at this; exact this) (by simp [Value.oneCell']) (by decide) (by unfold maxLen; omega) (by omega) (by simp; omega) ?_
    intro g1 c1 w7 hown7 hgrow hat hlt7
    have HO7 := hid hown7
    have HG7 := hid hgrow
    have HAT := hid hat
    clear hown7 hgrow hat
    obtain ⟨k7, m7, n7⟩ := HI.out.push (x := (x, v)) (v' := .slice (some ⟨g1, 0, none⟩) (pre.length + 1) c1) HXW.out (T'.out.alloc _ |>.alloc _) hu1.out HO7.out HG7.out (HAT.out.elim (fun e => Or.inl (by rw [e]; rfl)) (fun e => Or.inr (by rw [← e]; rfl))) HGV.out x
    have s0 : w7.cell? ⟨w3.heap.size, 0, none⟩ = some u := by simp [World.cell?, k7]
    have s1 : w7.frozen? ⟨w3.heap.size, 0, none⟩ = false := by simp [World.frozen?, k7]
    have M7 := hid m7
    have N7 := hid n7
    clear m7 n7 k7 q3 q4 b0 b1 p0
    gi_wp2
    exact ⟨M7.out, N7.out⟩
  · rintro X D W hD hDX hi' hK
    obtain ⟨⟨u, u1, u2, u3⟩, u4, u5, u6, u7⟩ := hi'
    have q0 : W.cell? ⟨w3.heap.size, 0, none⟩ = some u := by simp [World.cell?, u1]
    have HE : Hid (AlI w w.heap.size w3.heap.size m xs X (keysL xs) W) := hid ⟨⟨u, u1, u2, u3⟩, u4, u5, u6, u7⟩
    have HU1 := hid u1
    unfold dfr
    clear u1 u2 u3 u4 u5 u6 u7
    have HKD := hid hK
    clear hK
    go_wp2
    refine ⟨by simp, .inl ⟨_, _, rfl, run_takeDeferred HKD.out, ?_⟩⟩
    refine ⟨u, by simp [results, Try.results20, go_sem], u, rfl, ?_⟩
    obtain ⟨⟨u', u1, u2, u3⟩, u4, u5, u6, u7⟩ := HE.out.step (touch_putObj W (l := D) (.deferred none) hDX)
    have : u' = u := by
      have h1 := (touch_putObj W (l := D) (.deferred none) hDX).keep HU1.out HE.out.2.2.1.2.1
      rw [h1] at u1
      simpa using u1.symm
    subst this
    refine ⟨?_, u7⟩
    rw [keysL_len, List.take_length] at u2
    exact u2
  · intro X D W _ _ h
    exact h.elim
end Go.Proofs.Ytopepalpmkeffaa
