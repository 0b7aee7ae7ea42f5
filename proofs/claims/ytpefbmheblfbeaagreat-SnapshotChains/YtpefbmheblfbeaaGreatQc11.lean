/- The contracts of the program's placesOf, byKey, and of what a patch says of an old memo's entries (get, has); the keys may be, the lists have at most 70000. -/
import Derived.Test.YtpefbmheblfbeaaGreatQc10
import Derived.Test.YtpefbmheblfbeaaGreatQc09
import Derived.Test.YtpefbmheblfbeaaGreatQc06
namespace Go.Proofs.YtpefbmheblfbeaaGreat.Sn
open Go.RowKit Go.Sort Go.Shelf Go.Maps Go.ChangeMaps Me
set_option linter.unusedVariables false
set_option linter.unusedSimpArgs false
def Gm (w : World) (gb : Nat) (L : List K) : Prop := ∃ n f, Me.MapAt w gb n f ∧ n ≤ L.length ∧ ∀ k, Ok k → (f k).isSome = hs L k
def Om (w : World) (ob : Nat) (L : List En) : Prop := ∃ n f, Me.MapAt w ob n f ∧ n ≤ L.length ∧ ∀ k, Ok k → f k = (fnd L.reverse k).map (fun v => nv (k, v))
theorem Gm.kept {w w' : World} {gb : Nat} {L : List K} (h : Gm w gb L) (hk : w'.heap[gb]? = w.heap[gb]?) : Gm w' gb L := by
  obtain ⟨n, f, h1, h2, h3⟩ := h
  exact ⟨n, f, h1.kept hk, h2, h3⟩
theorem Om.kept {w w' : World} {gb : Nat} {L : List En} (h : Om w gb L) (hk : w'.heap[gb]? = w.heap[gb]?) : Om w' gb L := by
  obtain ⟨n, f, h1, h2, h3⟩ := h
  exact ⟨n, f, h1.kept hk, h2, h3⟩
theorem Gm.lt {w : World} {gb : Nat} {L : List K} (h : Gm w gb L) : gb < w.heap.size := by obtain ⟨n, f, h1, _⟩ := h; exact h1.lt
theorem Om.lt {w : World} {gb : Nat} {L : List En} (h : Om w gb L) : gb < w.heap.size := by obtain ⟨n, f, h1, _⟩ := h; exact h1.lt
theorem hs_snoc (L : List K) (k j : K) : hs (L ++ [k]) j = (hs L j || decide (k = j)) := by
  unfold hs
  rw [List.any_append]
  simp
theorem Gm.step {w : World} {gb : Nat} {L : List K} (h : Gm w gb L) (hl : L.length ≤ 70000) {k : K} (hk : Ok k) (v : Value) : ∃ ob, (Instr.mapUpdate 174 (.map (some gb)) (kv k) v).run Tryz.prog w = .ok () (setBlock w gb ob) ∧ Gm (setBlock w gb ob) gb (L ++ [k]) := by
  obtain ⟨n, f, h1, h2, h3⟩ := h
  obtain ⟨ob, h4, h5⟩ := h1.set (t := 174) Tryz.underlying174 (by unfold maxLen; omega) hk v
  refine ⟨ob, h4, _, _, h5, by rw [List.length_append]; simp; split <;> omega, fun j hj => ?_⟩
  rw [hs_snoc]
  unfold Me.upd
  by_cases e : j = k
  · rw [if_pos e, e]; simp
  · rw [if_neg e, h3 j hj]
    have : ¬ k = j := fun q => e q.symm
    simp [this]
theorem Om.step {w : World} {gb : Nat} {L : List En} (h : Om w gb L) (hl : L.length ≤ 70000) {x : En} (hk : Ok x.1) : ∃ ob, (Instr.mapUpdate 184 (.map (some gb)) (kv x.1) (nv x)).run Tryz.prog w = .ok () (setBlock w gb ob) ∧ Om (setBlock w gb ob) gb (L ++ [x]) := by
  obtain ⟨n, f, h1, h2, h3⟩ := h
  obtain ⟨ob, h4, h5⟩ := h1.set (t := 184) Tryz.underlying184 (by unfold maxLen; omega) hk (nv x)
  refine ⟨ob, h4, _, _, h5, by rw [List.length_append]; simp; split <;> omega, fun j hj => ?_⟩
  rw [List.reverse_append]
  simp only [List.reverse_cons, List.reverse_nil, List.nil_append, List.singleton_append, fnd]
  unfold Me.upd
  by_cases e : j = x.1
  · rw [if_pos e, if_pos e.symm, e]; rfl
  · rw [if_neg e, if_neg (fun q => e q.symm), h3 j hj]
set_option maxRecDepth 20000 in
set_option maxHeartbeats 2000000 in
theorem placesOf_ {w : World} {v : Value} {L : List K} (hv : Rs 54 2 w v L.length (kcs L)) (hok : ∀ k ∈ L, Ok k) (hl : L.length ≤ 70000) : Calls Tryz.prog 106 #[v] w fun e w' => ∃ gb, e = .returned (.map (some gb)) ∧ w.heap.size ≤ gb ∧ Touch [] w w' ∧ Gm w' gb L := by
  obtain ⟨a, c, ev, _⟩ := hv.form
  subst ev
  obtain ⟨V, hV⟩ : ∃ V, V = w.alloc (.map #[] 0) := ⟨_, rfl⟩
  obtain ⟨mb, hmb⟩ : ∃ mb, mb = w.heap.size := ⟨_, rfl⟩
  have T2 : Touch [] w V := by rw [hV]; exact (Touch.refl _ _).alloc _
  have HI0 : Hid (Touch [] w V ∧ Gm V mb (L.take 0)) := hid ⟨T2, 0, fun _ => none, by rw [hV, hmb]; exact Me.mapAt_made w, Nat.zero_le _, fun k _ => rfl⟩
  have HMB : Hid (w.heap.size ≤ mb) := hid (by omega)
  have HV := hid hv
  have HOK := hid hok
  have HL := hid hl
  obtain ⟨n, hn⟩ : ∃ n, n = L.length := ⟨_, rfl⟩
  rw [← hn]
  have HN := hid hn
  clear hn hv hok hl T2
  have hmm := @run_makeMap Tryz.prog
  go_enter Tryz.func106, Tryz.ntmps106
  go_upto_region 2 with fail
  rw [← hV]
  try rw [← hmb]
  clear hV hmb
  go_wp2_with fail
  go_loopw [9] (fun s9 wr => ∃ i : Nat, s9 = .int .i64 i ∧ i ≤ n ∧ Hid (Touch [] w wr ∧ Gm wr mb (L.take i))) (fun s9 _ => n - (intOf s9).toNat)
  case atStart => exact ⟨0, rfl, Nat.zero_le _, HI0⟩
  case round =>
    clear HI0
    obtain ⟨i, rfl, hi, HI⟩ := hrel
    have hnl : n ≤ 70000 := by have := HL.out; have := HN.out; omega
    by_cases hlt : i < n
    · have hz : (i : Int) < (n : Int) := by omega
      have hix : i < L.length := by rw [← HN.out]; exact hlt
      have hrs := HV.out.keep0 HI.out.1
      obtain ⟨g2, o2, rfl, k0⟩ := hrs.cell (kcs_at hix).1 (by omega)
      obtain ⟨g3, o3, e3, k1⟩ := hrs.cell (kcs_at hix).2 (by omega)
      cases e3
      rw [← Nat.add_assoc] at k1
      have hok := HOK.out L[i] (List.getElem_mem hix)
      have HTK : Hid (L.take (i + 1) = L.take i ++ [L[i]]) := hid (List.take_succ_eq_append_getElem hix)
      have HTL : Hid ((L.take i).length ≤ 70000) := hid (by rw [List.length_take]; omega)
      generalize L[i] = x at *
      obtain ⟨W1, hW1⟩ : ∃ W1, W1 = wr.alloc (.cells #[.int .u16 x.1, .string x.2] 54) := ⟨_, rfl⟩
      have tW : Touch [] wr W1 := by rw [hW1]; exact (Touch.refl _ _).alloc _
      have hbx : W1.heap[wr.heap.size]? = some (.cells #[.int .u16 x.1, .string x.2] 54 (0, 0)) := by rw [hW1]; exact heap_alloc_new wr _
      have x0 := cell_of (n := 0) hbx rfl
      have x1 := cell_of (n := 1) hbx rfl
      obtain ⟨ob, hup, hg⟩ := (HI.out.2.kept (tW.block mb HI.out.2.lt (by simp))).step HTL.out hok (.int .i64 i)
      have HZ : Hid (Touch [] w (setBlock W1 mb ob) ∧ Gm (setBlock W1 mb ob) mb (L.take (i + 1))) := hid ⟨touch_setBlock (HI.out.1.trans' tW) (Or.inr HMB.out) ob, by rw [HTK.out]; exact hg⟩
      have HLT := hid (And.intro hi hlt)
      unfold kv at hup
      clear hbx tW hix HI hg hrs hok
      go_upto_region 5 with fail
      rw [← hW1]
      clear hW1 k0 k1
      go_wp2_with fail
      go_roundw
      case rel => exact ⟨i + 1, by go_num, by have := HLT.out; omega, HZ⟩
      case measure => simp [intOf]; have := HLT.out; omega
    · have hz : ¬ (i : Int) < (n : Int) := by omega
      have HZ : Hid (Touch [] w wr ∧ Gm wr mb L) := hid ⟨HI.out.1, by have := HI.out.2; rwa [List.take_of_length_le (by have := HN.out; omega)] at this⟩
      clear HI
      go_wp2
      go_ret
      exact ⟨mb, rfl, HMB.out, HZ.out⟩
set_option maxRecDepth 20000 in
set_option maxHeartbeats 2000000 in
theorem byKey_ {w : World} {v : Value} {L : List En} {B : Nat} (hv : w.ownsRow B 60 7 v L.length (cellsN L)) (hok : ∀ x ∈ L, Ok x.1) (hl : L.length ≤ 70000) : Calls Tryz.prog 107 #[v] w fun e w' => ∃ gb, e = .returned (.map (some gb)) ∧ w.heap.size ≤ gb ∧ Touch [] w w' ∧ Om w' gb L := by
  obtain ⟨a, c, ev⟩ := own_form hv
  subst ev
  obtain ⟨V, hV⟩ : ∃ V, V = w.alloc (.map #[] 0) := ⟨_, rfl⟩
  obtain ⟨mb, hmb⟩ : ∃ mb, mb = w.heap.size := ⟨_, rfl⟩
  have T2 : Touch [] w V := by rw [hV]; exact (Touch.refl _ _).alloc _
  have HI0 : Hid (Touch [] w V ∧ Om V mb (L.take 0)) := hid ⟨T2, 0, fun _ => none, by rw [hV, hmb]; exact Me.mapAt_made w, Nat.zero_le _, fun k _ => rfl⟩
  have HMB : Hid (w.heap.size ≤ mb) := hid (by omega)
  have HV := hid hv
  have HOK := hid hok
  have HL := hid hl
  obtain ⟨n, hn⟩ : ∃ n, n = L.length := ⟨_, rfl⟩
  rw [← hn]
  have HN := hid hn
  clear hn hv hok hl T2
  have hmm := @run_makeMap Tryz.prog
  go_enter Tryz.func107, Tryz.ntmps107
  go_upto_region 2 with fail
  rw [← hV]
  try rw [← hmb]
  clear hV hmb
  go_wp2_with fail
  go_loopw [9] (fun s9 wr => ∃ i : Nat, s9 = .int .i64 i ∧ i ≤ n ∧ Hid (Touch [] w wr ∧ Om wr mb (L.take i))) (fun s9 _ => n - (intOf s9).toNat)
  case atStart => exact ⟨0, rfl, Nat.zero_le _, HI0⟩
  case round =>
    clear HI0
    obtain ⟨i, rfl, hi, HI⟩ := hrel
    have hnl : n ≤ 70000 := by have := HL.out; have := HN.out; omega
    by_cases hlt : i < n
    · have hz : (i : Int) < (n : Int) := by omega
      have hix : i < L.length := by rw [← HN.out]; exact hlt
      obtain ⟨g2, o2, rfl, k0, k1, k2, k3, k4, k5, k6⟩ := own7_cell (own_touch HV.out HI.out.1 (fun _ _ e => by cases e)) hix
      have hok := HOK.out L[i] (List.getElem_mem hix)
      have HTK : Hid (L.take (i + 1) = L.take i ++ [L[i]]) := hid (List.take_succ_eq_append_getElem hix)
      have HTL : Hid ((L.take i).length ≤ 70000) := hid (by rw [List.length_take]; omega)
      generalize L[i] = x at *
      obtain ⟨W1, hW1⟩ : ∃ W1, W1 = wr.alloc (.cells #[.int .u16 x.1.1, .string x.1.2, .int .i64 x.2.1.1, .int .i64 x.2.1.2.1, .int .i64 x.2.1.2.2.1, .int .i64 x.2.1.2.2.2, .int .i64 x.2.2] 60) := ⟨_, rfl⟩
      have tW : Touch [] wr W1 := by rw [hW1]; exact (Touch.refl _ _).alloc _
      have hbx : W1.heap[wr.heap.size]? = some (.cells #[.int .u16 x.1.1, .string x.1.2, .int .i64 x.2.1.1, .int .i64 x.2.1.2.1, .int .i64 x.2.1.2.2.1, .int .i64 x.2.1.2.2.2, .int .i64 x.2.2] 60 (0, 0)) := by rw [hW1]; exact heap_alloc_new wr _
      have x0 := cell_of (n := 0) hbx rfl
      have x1 := cell_of (n := 1) hbx rfl
      have x2 := cell_of (n := 2) hbx rfl
      have x3 := cell_of (n := 3) hbx rfl
      have x4 := cell_of (n := 4) hbx rfl
      have x5 := cell_of (n := 5) hbx rfl
      have x6 := cell_of (n := 6) hbx rfl
      obtain ⟨ob, hup, hg⟩ := (HI.out.2.kept (tW.block mb HI.out.2.lt (by simp))).step HTL.out hok
      have HZ : Hid (Touch [] w (setBlock W1 mb ob) ∧ Om (setBlock W1 mb ob) mb (L.take (i + 1))) := hid ⟨touch_setBlock (HI.out.1.trans' tW) (Or.inr HMB.out) ob, by rw [HTK.out]; exact hg⟩
      have HLT := hid (And.intro hi hlt)
      unfold kv nv at hup
      clear hbx tW hix HI hg hok
      go_upto_region 5 with fail
      rw [← hW1]
      clear hW1 k0 k1 k2 k3 k4 k5 k6
      go_wp2_with fail
      go_roundw
      case rel => exact ⟨i + 1, by go_num, by have := HLT.out; omega, HZ⟩
      case measure => simp [intOf]; have := HLT.out; omega
    · have hz : ¬ (i : Int) < (n : Int) := by omega
      have HZ : Hid (Touch [] w wr ∧ Om wr mb L) := hid ⟨HI.out.1, by have := HI.out.2; rwa [List.take_of_length_le (by have := HN.out; omega)] at this⟩
      clear HI
      go_wp2
      go_ret
      exact ⟨mb, rfl, HMB.out, HZ.out⟩
def getN (G : List K) (os ys : List En) (k : K) : Value × Bool := if hs G k = true then (nvz, false) else match fnd os.reverse k with
  | some v => (nv (k, v), true)
  | none => getS ys k
structure Nw (w : World) (m gb ob : Nat) (F : List Nat) (c : Cf) (now : Int) (ys : List En) (G : List K) (os : List En) : Prop where
  m : Mq w m F c now ys
  g : Gm w gb G
  o : Om w ob os
theorem Nw.keep0 {w w' : World} {m gb ob : Nat} {F : List Nat} {c : Cf} {now : Int} {ys : List En} {G : List K} {os : List En} (h : Nw w m gb ob F c now ys G os) (t : Touch [] w w') : Nw w' m gb ob F c now ys G os :=
  ⟨h.m.keep0 t, h.g.kept (t.block gb h.g.lt (by simp)), h.o.kept (t.block ob h.o.lt (by simp))⟩
theorem zeroK7 (w : World) : (zeroValue 60).run Tryz.prog w = .ok nvz w := Tryz.zeroValue60 w
theorem getN_form (G : List K) (os ys : List En) (k : K) : ∃ y0 y1 y2 y3 y4 y5 y6, (getN G os ys k).1 = .agg #[.int .u16 y0, .string y1, .int .i64 y2, .int .i64 y3, .int .i64 y4, .int .i64 y5, .int .i64 y6] := by
  unfold getN getS
  repeat' split
  all_goals exact ⟨_, _, _, _, _, _, _, rfl⟩
set_option maxRecDepth 20000 in
set_option maxHeartbeats 4000000 in
theorem nget_ {w : World} {m gb ob : Nat} {F : List Nat} {c : Cf} {now : Int} {ys : List En} {G : List K} {os : List En} (h : Nw w m gb ob F c now ys G os) (k : K) (hk : Ok k) : Calls Tryz.prog 109 #[newsV m gb ob, kv k] w fun e w' => e = .returned (.tuple #[(getN G os ys k).1, .bool (getN G os ys k).2]) ∧ Touch [] w w' := by
  obtain ⟨V, hV⟩ : ∃ V, V = ((w.alloc (.cells #[PT m, .map (some gb), .map (some ob)] 187)).alloc (.cells #[.int .u16 k.1, .string k.2] 54)).alloc (.cells #[.int .u16 0, .string ⟨#[]⟩, .int .i64 0, .int .i64 0, .int .i64 0, .int .i64 0, .int .i64 0] 60) := ⟨_, rfl⟩
  have TV : Touch [] w V := by rw [hV]; exact (((Touch.refl _ _).alloc _).alloc _).alloc _
  have hB0 : V.heap[w.heap.size]? = some (.cells #[PT m, .map (some gb), .map (some ob)] 187 (0, 0)) := by rw [hV]; exact ((Below.heap_alloc _ _ _ (by simp; omega)).trans (Below.heap_alloc _ _ _ (by simp))).trans (heap_alloc_new w _)
  have hB1 : V.heap[w.heap.size + 1]? = some (.cells #[.int .u16 k.1, .string k.2] 54 (0, 0)) := by
    rw [hV]
    have := heap_alloc_new (w.alloc (.cells #[PT m, .map (some gb), .map (some ob)] 187)) (.cells #[.int .u16 k.1, .string k.2] 54)
    rw [World.size_alloc] at this
    exact (Below.heap_alloc _ _ _ (by simp)).trans this
  have hB2 : V.heap[w.heap.size + 2]? = some (.cells #[.int .u16 0, .string ⟨#[]⟩, .int .i64 0, .int .i64 0, .int .i64 0, .int .i64 0, .int .i64 0] 60 (0, 0)) := by
    rw [hV]
    have := heap_alloc_new ((w.alloc (.cells #[PT m, .map (some gb), .map (some ob)] 187)).alloc (.cells #[.int .u16 k.1, .string k.2] 54)) (.cells #[.int .u16 0, .string ⟨#[]⟩, .int .i64 0, .int .i64 0, .int .i64 0, .int .i64 0, .int .i64 0] 60)
    rw [World.size_alloc, World.size_alloc] at this
    exact this
  have hN := h.keep0 TV
  obtain ⟨n1, f1, hf1, _, hs1⟩ := hN.g
  obtain ⟨n2, f2, hf2, _, hs2⟩ := hN.o
  have hl1 := hf1.lookOk (t := 174) Tryz.underlying174 (zero3 V) hk
  have hl2 := hf2.lookOk (t := 184) Tryz.underlying184 (zeroK7 V) hk
  rw [hs1 k hk] at hl1
  rw [hs2 k hk] at hl2
  have HTV := hid TV
  have HGt := hid (fun w' (t : Touch [] V w') => getM w' m F c now ys (hN.m.keep0 t) k hk)
  have a0 : V.cell? ⟨w.heap.size, 0, none⟩ = some (PT m) := cell_of hB0 rfl
  have a1 : V.cell? ⟨w.heap.size, 1, none⟩ = some (.map (some gb)) := cell_of hB0 rfl
  have a2 : V.cell? ⟨w.heap.size, 2, none⟩ = some (.map (some ob)) := cell_of hB0 rfl
  have b0 : V.cell? ⟨w.heap.size + 1, 0, none⟩ = some (.int .u16 k.1) := cell_of hB1 rfl
  have b1 : V.cell? ⟨w.heap.size + 1, 1, none⟩ = some (.string k.2) := cell_of hB1 rfl
  have z0 : V.cell? ⟨w.heap.size + 2, 0, none⟩ = some (.int .u16 0) := cell_of hB2 rfl
  have z1 : V.cell? ⟨w.heap.size + 2, 1, none⟩ = some (.string ⟨#[]⟩) := cell_of hB2 rfl
  have z2 : V.cell? ⟨w.heap.size + 2, 2, none⟩ = some (.int .i64 0) := cell_of hB2 rfl
  have z3 : V.cell? ⟨w.heap.size + 2, 3, none⟩ = some (.int .i64 0) := cell_of hB2 rfl
  have z4 : V.cell? ⟨w.heap.size + 2, 4, none⟩ = some (.int .i64 0) := cell_of hB2 rfl
  have z5 : V.cell? ⟨w.heap.size + 2, 5, none⟩ = some (.int .i64 0) := cell_of hB2 rfl
  have z6 : V.cell? ⟨w.heap.size + 2, 6, none⟩ = some (.int .i64 0) := cell_of hB2 rfl
  have zf : ∀ i, V.frozen? ⟨w.heap.size + 2, i, none⟩ = false := fun i => froz_at hB2 i
  have HB0 := hid hB0
  have HB1 := hid hB1
  have HB2 := hid hB2
  have HFin : Hid (∀ W' v0 v1 v2 v3 v4 v5 v6, Touch [] V W' → Touch [] w (((((((W'.setCell ⟨w.heap.size + 2, 0, none⟩ v0).setCell ⟨w.heap.size + 2, 1, none⟩ v1).setCell ⟨w.heap.size + 2, 2, none⟩ v2).setCell ⟨w.heap.size + 2, 3, none⟩ v3).setCell ⟨w.heap.size + 2, 4, none⟩ v4).setCell ⟨w.heap.size + 2, 5, none⟩ v5).setCell ⟨w.heap.size + 2, 6, none⟩ v6)) := hid (fun W' v0 v1 v2 v3 v4 v5 v6 t => (HTV.out.trans' t).trans (G := [w.heap.size + 2]) (tset7 _ _ _ _ _ _ _ _ _) (fun i hi => by simp only [List.mem_singleton] at hi; subst hi; exact Or.inr (by omega)))
  unfold newsV kv PT at *
  clear hB0 hB1 hB2 hN hf1 hf2 hs1 hs2 TV h
  cases hg : hs G k with
  | true =>
    have eN : getN G os ys k = (nvz, false) := by unfold getN; rw [if_pos hg]
    rw [eN]
    rw [hg] at hl1
    clear hl2 hg eN
    unfold nvz
    go_enter Tryz.func109, Tryz.ntmps109
    go_upto_region 1 with fail
    rw [← hV]
    clear hV
    go_wp2_with fail
    refine bodyPost_ret (v := .tuple #[.agg #[.int .u16 0, .string ⟨#[]⟩, .int .i64 0, .int .i64 0, .int .i64 0, .int .i64 0, .int .i64 0], .bool false]) (by simp [results, Tryz.results109, go_sem, z0, z1, z2, z3, z4, z5, z6]) rfl ⟨rfl, ?_⟩
    exact HFin.out V _ _ _ _ _ _ _ (Touch.refl _ _)
  | false =>
    rw [hg] at hl1
    cases ho : fnd os.reverse k with
    | some v =>
      have eN : getN G os ys k = (nv (k, v), true) := by unfold getN; rw [if_neg (by rw [hg]; simp), ho]
      rw [eN]
      rw [ho] at hl2
      simp only [Option.map_some, Option.getD_some, Option.isSome_some] at hl2
      clear hg eN ho
      unfold nv at *
      obtain ⟨W1, hW1⟩ : ∃ W1, W1 = V.alloc (.cells #[.int .u16 k.1, .string k.2, .int .i64 v.1.1, .int .i64 v.1.2.1, .int .i64 v.1.2.2.1, .int .i64 v.1.2.2.2, .int .i64 v.2] 60) := ⟨_, rfl⟩
      have tW : Touch [] V W1 := by rw [hW1]; exact (Touch.refl _ _).alloc _
      have hbx : W1.heap[V.heap.size]? = some (.cells #[.int .u16 k.1, .string k.2, .int .i64 v.1.1, .int .i64 v.1.2.1, .int .i64 v.1.2.2.1, .int .i64 v.1.2.2.2, .int .i64 v.2] 60 (0, 0)) := by rw [hW1]; exact heap_alloc_new V _
      have HTW := hid tW
      have x0 := cell_of (n := 0) hbx rfl
      have x1 := cell_of (n := 1) hbx rfl
      have x2 := cell_of (n := 2) hbx rfl
      have x3 := cell_of (n := 3) hbx rfl
      have x4 := cell_of (n := 4) hbx rfl
      have x5 := cell_of (n := 5) hbx rfl
      have x6 := cell_of (n := 6) hbx rfl
      have hz := tW.keep HB2.out (by simp)
      have y0 : W1.cell? ⟨w.heap.size + 2, 0, none⟩ = some (.int .u16 0) := cell_of hz rfl
      have y1 : W1.cell? ⟨w.heap.size + 2, 1, none⟩ = some (.string ⟨#[]⟩) := cell_of hz rfl
      have y2 : W1.cell? ⟨w.heap.size + 2, 2, none⟩ = some (.int .i64 0) := cell_of hz rfl
      have y3 : W1.cell? ⟨w.heap.size + 2, 3, none⟩ = some (.int .i64 0) := cell_of hz rfl
      have y4 : W1.cell? ⟨w.heap.size + 2, 4, none⟩ = some (.int .i64 0) := cell_of hz rfl
      have y5 : W1.cell? ⟨w.heap.size + 2, 5, none⟩ = some (.int .i64 0) := cell_of hz rfl
      have y6 : W1.cell? ⟨w.heap.size + 2, 6, none⟩ = some (.int .i64 0) := cell_of hz rfl
      have yf : ∀ i, W1.frozen? ⟨w.heap.size + 2, i, none⟩ = false := fun i => froz_at hz i
      clear tW hbx hz
      go_enter Tryz.func109, Tryz.ntmps109
      go_upto_region 1 with fail
      rw [← hV]
      clear hV
      go_upto_region 5 with fail
      rw [← hW1]
      clear hW1 a0 a1 a2 b0 b1 z0 z1 z2 z3 z4 z5 z6 zf hl1 hl2
      go_wp2_with fail
      refine bodyPost_ret (v := .tuple #[.agg #[.int .u16 k.1, .string k.2, .int .i64 v.1.1, .int .i64 v.1.2.1, .int .i64 v.1.2.2.1, .int .i64 v.1.2.2.2, .int .i64 v.2], .bool true]) (by simp [results, Tryz.results109, go_sem, y0, y1, y2, y3, y4, y5, y6]) rfl ⟨rfl, ?_⟩
      exact HFin.out W1 _ _ _ _ _ _ _ HTW.out
    | none =>
      have eN : getN G os ys k = getS ys k := by unfold getN; rw [if_neg (by rw [hg]; simp), ho]
      rw [eN]
      obtain ⟨W1, hW1⟩ : ∃ W1, W1 = V.alloc (.cells #[.int .u16 0, .string ⟨#[]⟩, .int .i64 0, .int .i64 0, .int .i64 0, .int .i64 0, .int .i64 0] 60) := ⟨_, rfl⟩
      have tW : Touch [] V W1 := by rw [hW1]; exact (Touch.refl _ _).alloc _
      have hbx : W1.heap[V.heap.size]? = some (.cells #[.int .u16 0, .string ⟨#[]⟩, .int .i64 0, .int .i64 0, .int .i64 0, .int .i64 0, .int .i64 0] 60 (0, 0)) := by rw [hW1]; exact heap_alloc_new V _
      have HTW := hid tW
      have HGt1 := hid (HGt.out W1 tW)
      have c0 := tW.keep HB0.out (by simp)
      have c1 := tW.keep HB1.out (by simp)
      have p0 : W1.cell? ⟨w.heap.size, 0, none⟩ = some (.pointer (some ⟨m, 0, none⟩)) := cell_of c0 rfl
      have p1 : W1.cell? ⟨w.heap.size + 1, 0, none⟩ = some (.int .u16 k.1) := cell_of c1 rfl
      have p2 : W1.cell? ⟨w.heap.size + 1, 1, none⟩ = some (.string k.2) := cell_of c1 rfl
      have hgf : ∃ q0 q1 q2 q3 q4 q5 q6, (getS ys k).1 = .agg #[.int .u16 q0, .string q1, .int .i64 q2, .int .i64 q3, .int .i64 q4, .int .i64 q5, .int .i64 q6] := by
        unfold getS
        split
        · exact ⟨_, _, _, _, _, _, _, rfl⟩
        · exact ⟨_, _, _, _, _, _, _, rfl⟩
      obtain ⟨q0, q1, q2, q3, q4, q5, q6, eg⟩ := hgf
      rw [eg] at HGt1 ⊢
      rw [ho] at hl2
      have hl2' : (Instr.lookup 184 (.map (some ob)) (.agg #[.int .u16 k.1, .string k.2]) true).run Tryz.prog V = .ok (.tuple #[.agg #[.int .u16 0, .string ⟨#[]⟩, .int .i64 0, .int .i64 0, .int .i64 0, .int .i64 0, .int .i64 0], .bool false]) V := hl2
      have HYS : Hid (∀ w', Touch [] V w' → w'.heap[w.heap.size + 2]? = some (.cells #[.int .u16 0, .string ⟨#[]⟩, .int .i64 0, .int .i64 0, .int .i64 0, .int .i64 0, .int .i64 0] 60 (0, 0))) := hid (fun w' t => t.keep HB2.out (by simp))
      clear tW hbx c0 c1 hl2 eg ho hg eN
      generalize (getS ys k).2 = bb at *
      go_enter Tryz.func109, Tryz.ntmps109
      go_upto_region 1 with fail
      rw [← hV]
      clear hV
      go_upto_region 5 with fail
      rw [← hW1]
      clear hW1 a0 a1 a2 b0 b1 z0 z1 z2 z3 z4 z5 z6 zf hl1 hl2'
      go_wp2_with (go_at_call 90; refine HGt1.out.mono ?_; rintro e w2 ⟨rfl, t2⟩; have T2 := hid (HTW.out.trans' t2); have hz := HYS.out w2 T2.out; have y0 : w2.cell? ⟨w.heap.size + 2, 0, none⟩ = some (.int .u16 0) := cell_of hz rfl; have y1 : w2.cell? ⟨w.heap.size + 2, 1, none⟩ = some (.string ⟨#[]⟩) := cell_of hz rfl; have y2 : w2.cell? ⟨w.heap.size + 2, 2, none⟩ = some (.int .i64 0) := cell_of hz rfl; have y3 : w2.cell? ⟨w.heap.size + 2, 3, none⟩ = some (.int .i64 0) := cell_of hz rfl; have y4 : w2.cell? ⟨w.heap.size + 2, 4, none⟩ = some (.int .i64 0) := cell_of hz rfl; have y5 : w2.cell? ⟨w.heap.size + 2, 5, none⟩ = some (.int .i64 0) := cell_of hz rfl; have y6 : w2.cell? ⟨w.heap.size + 2, 6, none⟩ = some (.int .i64 0) := cell_of hz rfl; have yf : ∀ i, w2.frozen? ⟨w.heap.size + 2, i, none⟩ = false := fun i => froz_at hz i; clear hz t2)
      refine bodyPost_ret (v := .tuple #[.agg #[.int .u16 q0, .string q1, .int .i64 q2, .int .i64 q3, .int .i64 q4, .int .i64 q5, .int .i64 q6], .bool bb]) (by simp [results, Tryz.results109, go_sem, y0, y1, y2, y3, y4, y5, y6]) rfl ⟨rfl, ?_⟩
      exact HFin.out w2 _ _ _ _ _ _ _ T2.out
theorem nhas_ {w : World} {m gb ob : Nat} {F : List Nat} {c : Cf} {now : Int} {ys : List En} {G : List K} {os : List En} (h : Nw w m gb ob F c now ys G os) (k : K) (hk : Ok k) : Calls Tryz.prog 108 #[newsV m gb ob, kv k] w fun e w' => e = .returned (.bool (getN G os ys k).2) ∧ Touch [] w w' := by
  obtain ⟨V, hV⟩ : ∃ V, V = (w.alloc (.cells #[PT m, .map (some gb), .map (some ob)] 187)).alloc (.cells #[.int .u16 k.1, .string k.2] 54) := ⟨_, rfl⟩
  have TV : Touch [] w V := by rw [hV]; exact ((Touch.refl _ _).alloc _).alloc _
  have hB0 : V.heap[w.heap.size]? = some (.cells #[PT m, .map (some gb), .map (some ob)] 187 (0, 0)) := by rw [hV]; exact (Below.heap_alloc _ _ _ (by simp)).trans (heap_alloc_new w _)
  have hB1 : V.heap[w.heap.size + 1]? = some (.cells #[.int .u16 k.1, .string k.2] 54 (0, 0)) := by
    rw [hV]
    have := heap_alloc_new (w.alloc (.cells #[PT m, .map (some gb), .map (some ob)] 187)) (.cells #[.int .u16 k.1, .string k.2] 54)
    rw [World.size_alloc] at this
    exact this
  have HN := hid (nget_ (h.keep0 TV) k hk)
  obtain ⟨q0, q1, q2, q3, q4, q5, q6, eg⟩ := getN_form G os ys k
  rw [eg] at HN
  have a0 : V.cell? ⟨w.heap.size, 0, none⟩ = some (PT m) := cell_of hB0 rfl
  have a1 : V.cell? ⟨w.heap.size, 1, none⟩ = some (.map (some gb)) := cell_of hB0 rfl
  have a2 : V.cell? ⟨w.heap.size, 2, none⟩ = some (.map (some ob)) := cell_of hB0 rfl
  have b0 : V.cell? ⟨w.heap.size + 1, 0, none⟩ = some (.int .u16 k.1) := cell_of hB1 rfl
  have b1 : V.cell? ⟨w.heap.size + 1, 1, none⟩ = some (.string k.2) := cell_of hB1 rfl
  have HTV := hid TV
  generalize (getN G os ys k).2 = bb at *
  unfold newsV kv PT at *
  clear h hk eg hB0 hB1 TV
  go_enter Tryz.func108, Tryz.ntmps108
  go_upto_region 1 with fail
  rw [← hV]
  clear hV
  go_wp2_with (go_at_call 109; refine HN.out.mono ?_; rintro e w2 ⟨rfl, t2⟩; have T2 := hid (HTV.out.trans' t2); clear t2)
  go_ret
  exact ⟨rfl, T2.out.alloc _⟩
end Go.Proofs.YtpefbmheblfbeaaGreat.Sn
/- What an outcome's reading comes to, case by case, as the document's takeEntry goes: behind an error, at the text's end, at a kind that may not be, at a value, at a failure. -/
namespace Go.Proofs.YtpefbmheblfbeaaGreat.Sn
open Go.RowKit Go.Sort Go.Shelf Me
set_option linter.unusedVariables false
set_option linter.unusedSimpArgs false
theorem outR_val {s : ByteArray} {x : Rd} (h : x.er = 0) (c : Cf) {b : UInt8} (hb : s.data.toList[x.at_.toNat]? = some b) (hk : keepB c b.toNat = true) (h0 : b.toNat = 0) : outR s x c = ((numR s ⟨x.at_ + 1, 0⟩ 0 18446744073709551615).1, (uns (numR s ⟨x.at_ + 1, 0⟩ 0 18446744073709551615).2, 0, 0, 0)) := by
  have e : kindR s x c = (⟨x.at_ + 1, 0⟩, 0) := by
    unfold kindR
    rw [hb]
    simp only [passS_ok h, passB_ok h, hk, if_true]
    rw [h0]
    rfl
  unfold outR sigR
  rw [e]
  simp
theorem outR_fail {s : ByteArray} {x : Rd} (h : x.er = 0) (c : Cf) {b : UInt8} (hb : s.data.toList[x.at_.toNat]? = some b) (hk : keepB c b.toNat = true) (h0 : ¬ b.toNat = 0) : outR s x c = ((numR s (numR s ⟨x.at_ + 1, 0⟩ 0 18446744073709551615).1 1 9223372036854775807).1, (0, (b.toNat : Int), uns (numR s ⟨x.at_ + 1, 0⟩ 0 18446744073709551615).2, (numR s (numR s ⟨x.at_ + 1, 0⟩ 0 18446744073709551615).1 1 9223372036854775807).2)) := by
  have e : kindR s x c = (⟨x.at_ + 1, 0⟩, (b.toNat : Int)) := by
    unfold kindR
    rw [hb]
    simp only [passS_ok h, passB_ok h, hk, if_true]
  unfold outR sigR
  rw [e]
  simp only
  rw [if_neg (by omega)]
end Go.Proofs.YtpefbmheblfbeaaGreat.Sn
/- Of what was read without an error a memo may be made: the configuration is one, the time is one, the keys are unlike, the outcomes are right and kept, their times are not behind. -/
namespace Go.Proofs.YtpefbmheblfbeaaGreat.Sn
open Go.RowKit Go.Sort Go.Shelf Me
set_option linter.unusedVariables false
set_option linter.unusedSimpArgs false
theorem ofL_zero (c : Cf) (now : Int) : ∀ (L D : List En) (i : Int), (∀ pre x post, L = pre ++ x :: post → nxE c now (D ++ pre) x = 0) → ofL c now D L i = (0, 0)
  | [], D, i, h => rfl
  | x :: L, D, i, h => by
    unfold ofL
    have h0 := h [] x L rfl
    rw [List.append_nil] at h0
    rw [if_neg (by simpa using h0)]
    exact ofL_zero c now L (D ++ [x]) (i + 1) (fun pre y post e => by
      rw [List.append_assoc]
      exact h (x :: pre) y post (by rw [e]; rfl))
end Go.Proofs.YtpefbmheblfbeaaGreat.Sn
/- The way back, plain: what a number's, a key's and an outcome's bytes are read as; no program. -/
namespace Go.Proofs.YtpefbmheblfbeaaGreat.Sn
open Go.RowKit Me
set_option linter.unusedVariables false
def At (s : ByteArray) (k : Nat) (l : List UInt8) : Prop := ∃ r, s.data.toList.drop k = l ++ r
theorem At.fst {s : ByteArray} {k : Nat} {l m : List UInt8} (h : At s k (l ++ m)) : At s k l := by
  obtain ⟨r, e⟩ := h
  exact ⟨m ++ r, by rw [e, List.append_assoc]⟩
theorem At.snd {s : ByteArray} {k : Nat} {l m : List UInt8} (h : At s k (l ++ m)) : At s (k + l.length) m := by
  obtain ⟨r, e⟩ := h
  refine ⟨r, ?_⟩
  rw [← List.drop_drop, e, List.append_assoc, List.drop_left]
theorem At.le {s : ByteArray} {k : Nat} {l : List UInt8} (h : At s k l) (hl : l ≠ []) : k + l.length ≤ s.size := by
  obtain ⟨r, e⟩ := h
  have h1 := congrArg List.length e
  rw [List.length_drop, List.length_append] at h1
  have h2 : s.data.toList.length = s.size := by simp
  have h3 : 0 < l.length := List.length_pos_iff.2 hl
  omega
theorem pow9 : (128 : Nat) ^ 9 = 9223372036854775808 := by decide
theorem takeG_num : ∀ (f x : Nat), x ≤ f → ∀ (i y : Nat) (r : List UInt8), x * 128 ^ i < 18446744073709551616 → (0 < x ∨ i = 0) → i ≤ 9 → takeG (numL x ++ r) i y = some (y + x * 128 ^ i, i + (numL x).length) := by
  intro f
  induction f with
  | zero =>
    intro x hx i y r h1 h2 h3
    have e : x = 0 := by omega
    subst e
    rw [numL_end (by omega)]
    have hi : i = 0 := by omega
    subst hi
    rw [List.singleton_append, takeG_last (by omega) (by decide)]
    simp [lastB]
  | succ f ih =>
    intro x hx i y r h1 h2 h3
    by_cases h : 128 ≤ x
    · rw [numL_go h]
      have hb : (UInt8.ofNat (x % 128 + 128)).toNat = x % 128 + 128 := by rw [UInt8.toNat_ofNat']; omega
      have h9 : i + 1 ≤ 9 := by
        refine Classical.byContradiction fun hn => ?_
        have e : i = 9 := by omega
        subst e
        have := Nat.mul_le_mul_right (128 ^ 9) h
        rw [pow9] at h1 this
        omega
      have hp : x / 128 * 128 ^ (i + 1) ≤ x * 128 ^ i := by
        rw [Nat.pow_succ, Nat.mul_comm (128 ^ i), ← Nat.mul_assoc]
        exact Nat.mul_le_mul_right _ (Nat.div_mul_le_self x 128)
      rw [List.cons_append, takeG_more (by omega) (by rw [hb]; omega), hb, ih (x / 128) (by omega) (i + 1) _ r (by omega) (Or.inl (by omega)) h9]
      have e1 : (x % 128 + 128) % 128 = x % 128 := by omega
      have e2 : x % 128 * 128 ^ i + x / 128 * 128 ^ (i + 1) = x * 128 ^ i := by
        rw [Nat.pow_succ, Nat.mul_comm (128 ^ i), ← Nat.mul_assoc, ← Nat.add_mul]
        congr 1
        omega
      rw [e1, Nat.add_assoc, e2, List.length_cons]
      congr 2
      omega
    · rw [numL_end h]
      have hb : (UInt8.ofNat x).toNat = x := by rw [UInt8.toNat_ofNat']; omega
      rw [List.singleton_append, takeG_last (by omega) (by rw [hb]; omega), hb]
      have hl : lastB x i = true := by
        unfold lastB
        by_cases e : i = 9
        · subst e
          rw [if_pos rfl]
          rw [pow9] at h1
          exact decide_eq_true (by omega)
        · rw [if_neg e]
          rcases h2 with h2 | h2
          · simp [h2]
          · simp [h2]
      rw [hl, if_pos rfl]
      rfl
theorem takeAt_num {s : ByteArray} {k x : Nat} (h : At s k (numL x)) (hx : x < 18446744073709551616) : takeAt s (k : Int) = some (x, (numL x).length) := by
  obtain ⟨r, e⟩ := h
  unfold takeAt takeN
  rw [if_neg (by omega), show ((k : Int)).toNat = k by omega, e, takeG_num x x (Nat.le_refl _) 0 0 r (by omega) (Or.inr rfl) (by omega)]
  simp
theorem numR_back {s : ByteArray} {k : Nat} {n a b : Int} (h : At s k (nB n)) (h0 : 0 ≤ n) (h1 : n < 18446744073709551616) (ha : a ≤ n) (hb : n ≤ b) : numR s ⟨k, 0⟩ a b = (⟨((k + (nB n).length : Nat) : Int), 0⟩, n) := by
  unfold numR
  rw [if_neg (by simp)]
  have e := takeAt_num h (by omega)
  simp only [e]
  have en : ((n.toNat : Nat) : Int) = n := by omega
  rw [en, if_pos ⟨ha, hb⟩]
  simp [nB]
theorem uns_sgn (n : Int) : uns (sgn n) = n := by
  unfold uns sgn
  split <;> split <;> omega
theorem sigR_back {s : ByteArray} {k : Nat} {n : Int} (h : At s k (sgB n)) (h0 : -9223372036854775808 ≤ n) (h1 : n ≤ 9223372036854775807) : sigR s ⟨k, 0⟩ = (⟨((k + (sgB n).length : Nat) : Int), 0⟩, n) := by
  obtain ⟨q0, q1⟩ := sgn_b h0 h1
  unfold sigR
  rw [numR_back (a := 0) (b := 18446744073709551615) h q0 q1 q0 (by omega), uns_sgn]
  rfl
theorem byt_nat {x : Int} (h0 : 0 ≤ x) (h1 : x < 256) : ((byt x).toNat : Int) = x := by
  unfold byt
  rw [UInt8.toNat_ofNat']
  omega
theorem takK_back {s : ByteArray} {k : Nat} {q : K} (h : At s k (keyB q)) (h0 : 0 ≤ q.1) (h1 : q.1 ≤ 65535) (h2 : q.2.size ≤ 64) : takK s (k : Int) = some (q, ((k + (keyB q).length : Nat) : Int)) := by
  obtain ⟨r, e⟩ := h
  unfold takK
  rw [if_neg (by omega), show ((k : Int)).toNat = k by omega, e]
  have ek : keyB q = byt (q.1 % 256) :: byt (q.1 / 256) :: byt ((q.2.size : Int) % 256) :: q.2.data.toList := by
    unfold keyB hd3
    rw [data_app]
    simp
  have hn : (byt ((q.2.size : Int) % 256)).toNat = q.2.size := by
    have := byt_nat (x := (q.2.size : Int) % 256) (by omega) (by omega)
    omega
  rw [ek]
  simp only [List.cons_append]
  have hl : q.2.data.toList.length = q.2.size := by simp
  rw [hn, if_neg (by rw [List.length_append, hl]; omega)]
  have et : (q.2.data.toList ++ r).take q.2.size = q.2.data.toList := by rw [← hl, List.take_left]
  rw [et]
  have e1 := byt_nat (x := q.1 % 256) (by omega) (by omega)
  have e2 := byt_nat (x := q.1 / 256) (by omega) (by omega)
  rw [e1, e2]
  congr 2
  · refine Prod.ext ?_ ?_
    · show q.1 % 256 + 256 * (q.1 / 256) = q.1
      omega
    · rfl
  · simp
    omega
end Go.Proofs.YtpefbmheblfbeaaGreat.Sn
/- The way back, plain: entries and a whole memo's bytes are read as what was told; no program. -/
namespace Go.Proofs.YtpefbmheblfbeaaGreat.Sn
open Go.RowKit Me
set_option linter.unusedVariables false
theorem At.head {s : ByteArray} {k : Nat} {b : UInt8} {l : List UInt8} (h : At s k (b :: l)) : s.data.toList[k]? = some b := by
  obtain ⟨r, e⟩ := h
  have h1 := congrArg (fun l => l[0]?) e
  simpa using h1
theorem At.tail {s : ByteArray} {k : Nat} {b : UInt8} {l : List UInt8} (h : At s k (b :: l)) : At s (k + 1) l := At.snd (l := [b]) h
theorem cast1 (k : Nat) : ((k : Nat) : Int) + 1 = ((k + 1 : Nat) : Int) := by push_cast; rfl
theorem outR_back {s : ByteArray} {k : Nat} {o : O} {c : Cf} (h : At s k (outB o)) (hr : right o = true) (hk : keepsC c o = true) (v : -9223372036854775808 ≤ o.1 ∧ o.1 ≤ 9223372036854775807) (cd : -9223372036854775808 ≤ o.2.2.1 ∧ o.2.2.1 ≤ 9223372036854775807) (rn : o.2.2.2 ≤ 9223372036854775807) :
    outR s ⟨k, 0⟩ c = (⟨((k + (outB o).length : Nat) : Int), 0⟩, o) := by
  obtain ⟨⟨kd0, kd2⟩, r0⟩ := right_k hr hk
  unfold outB at h ⊢
  by_cases h0 : o.2.1 = 0
  · rw [if_pos h0] at h ⊢
    rw [List.singleton_append] at h
    have hb := h.head
    have hs := h.tail
    have hkb : keepB c (0 : UInt8).toNat = true := by
      unfold keepB keepsC at *
      rw [if_pos h0] at hk
      split at hk
      · cases hk
      · simpa using hk
    have e := outR_val (s := s) (x := ⟨(k : Int), 0⟩) rfl c (b := 0) (by simpa using hb) hkb rfl
    rw [e]
    have e2 := sigR_back hs v.1 v.2
    unfold sigR at e2
    rw [Prod.mk.injEq] at e2
    simp only [cast1]
    rw [e2.1, e2.2]
    have e3 := (right_none hr).1 h0
    simp only [Prod.mk.injEq] at e3
    refine Prod.ext ?_ ?_
    · simp
      omega
    · refine Prod.ext rfl (Prod.ext ?_ (Prod.ext ?_ ?_))
      · exact e3.1.symm
      · exact e3.2.1.symm
      · exact e3.2.2.symm
  · rw [if_neg h0] at h ⊢
    rw [List.singleton_append] at h
    have hb := h.head
    have hs := h.tail
    have hn : (UInt8.ofNat o.2.1.toNat).toNat = o.2.1.toNat := by rw [UInt8.toNat_ofNat']; omega
    have hkb : keepB c (UInt8.ofNat o.2.1.toNat).toNat = true := by
      rw [hn]
      unfold keepB
      rw [if_neg (by omega), if_pos (by omega)]
      unfold keepsC at hk
      by_cases he : c.e = 0
      · rw [if_pos he] at hk; cases hk
      · rw [if_neg he, if_neg h0] at hk
        by_cases h1 : o.2.1 = 1
        · rw [if_pos h1] at hk; exact hk
        · rw [if_neg h1, if_pos (by omega)] at hk; exact hk
    have e := outR_fail (s := s) (x := ⟨(k : Int), 0⟩) rfl c (b := UInt8.ofNat o.2.1.toNat) (by simpa using hb) hkb (by rw [hn]; omega)
    rw [e]
    have e2 := sigR_back hs.fst cd.1 cd.2
    unfold sigR at e2
    rw [Prod.mk.injEq] at e2
    simp only [cast1]
    rw [e2.1, e2.2]
    have hr' := hr
    unfold right at hr'
    rw [Bool.and_eq_true] at hr'
    have r1 : 1 ≤ o.2.2.2 := by
      have h2 := hr'.1
      unfold mayF at h2
      rw [if_neg h0] at h2
      by_cases h1 : o.2.1 = 1
      · rw [if_pos h1] at h2; exact of_decide_eq_true h2
      · rw [if_neg h1, if_pos (by omega)] at h2; exact of_decide_eq_true h2
    have v0 : o.1 = 0 := by
      have h2 := hr'.2
      unfold nonF at h2
      simpa [h0] using h2
    have e4 := numR_back (a := 1) (b := 9223372036854775807) hs.snd (by omega) (by omega) r1 rn
    rw [e4]
    refine Prod.ext ?_ ?_
    · simp
      omega
    · refine Prod.ext ?_ (Prod.ext ?_ rfl)
      · exact v0.symm
      · show ((UInt8.ofNat o.2.1.toNat).toNat : Int) = o.2.1
        rw [hn]
        omega
theorem keyR_back {s : ByteArray} {k : Nat} {q : K} {A : List K} (h : At s k (keyB q)) (h0 : 0 ≤ q.1) (h1 : q.1 ≤ 65535) (h2 : q.2.size ≤ 64) (hn : hs A q = false) : keyR s ⟨k, 0⟩ A = (⟨((k + (keyB q).length : Nat) : Int), 0⟩, q) := by
  unfold keyR
  simp only [takK_back h h0 h1 h2, hn]
  rw [passS_ok rfl, passB_ok rfl]
  rfl
structure Bk (c : Cf) (now : Int) (xs : List En) : Prop where
  oc : okC c = true
  n0 : 0 ≤ now
  n1 : now ≤ 4611686018427387904
  mm : MmOk c now xs
  rt : ∀ x ∈ xs, right x.2.1 = true
  kp : ∀ x ∈ xs, keepsC c x.2.1 = true
  tm : ∀ x ∈ xs, x.2.2 ≤ now
  ln : (xs.length : Int) ≤ c.e
  nd : (keysL xs).Nodup
theorem entR_back {s : ByteArray} {k : Nat} {x : En} {c : Cf} {now : Int} {A : List K} (h : At s k (entB x)) (hx : EnOk x) (hr : right x.2.1 = true) (hk : keepsC c x.2.1 = true) (ht : x.2.2 ≤ now) (hn : hs A x.1 = false) : entR s ⟨k, 0⟩ c now A = (⟨((k + (entB x).length : Nat) : Int), 0⟩, x) := by
  unfold entB at h ⊢
  have e1 := keyR_back (A := A) h.fst hx.s0 hx.s1 hx.nm hn
  have e2 := numR_back (a := 0) (b := now) h.snd.fst hx.t0 (by have := hx.t1; omega) hx.t0 ht
  have e3 := outR_back h.snd.snd hr hk hx.v hx.c hx.r.2
  unfold entR
  rw [e1, e2, e3]
  refine Prod.ext ?_ rfl
  simp
  omega
theorem entsR_back {s : ByteArray} {c : Cf} {now : Int} : ∀ (xs : List En) (k : Nat) (L : List En), At s k (xs.flatMap entB) → (∀ x ∈ xs, EnOk x ∧ right x.2.1 = true ∧ keepsC c x.2.1 = true ∧ x.2.2 ≤ now) → (keysL (L ++ xs)).Nodup → entsR s c now xs.length ⟨k, 0⟩ L = (⟨((k + (xs.flatMap entB).length : Nat) : Int), 0⟩, L ++ xs)
  | [], k, L, _, _, _ => by simp [entsR]
  | x :: xs, k, L, h, hx, hn => by
    rw [List.flatMap_cons] at h
    obtain ⟨x1, x2, x3, x4⟩ := hx x (by simp)
    have hnm : hs (keysL L) x.1 = false := hs_no (fun hm => by
      unfold keysL at hn hm
      rw [List.map_append, List.map_cons, List.nodup_append] at hn
      exact hn.2.2 _ hm _ (by simp) rfl)
    rw [List.length_cons, entsR, if_pos rfl, entR_back h.fst x1 x2 x3 x4 hnm]
    have ih := entsR_back xs (k + (entB x).length) (L ++ [x]) h.snd (fun y hy => hx y (by simp [hy])) (by simpa [List.append_assoc] using hn)
    rw [ih, List.flatMap_cons, List.length_append, List.append_assoc, Nat.add_assoc]
    rfl
end Go.Proofs.YtpefbmheblfbeaaGreat.Sn
/- The way back, plain: a whole memo's bytes are read as what was told; no program. -/
namespace Go.Proofs.YtpefbmheblfbeaaGreat.Sn
open Go.RowKit Me
set_option linter.unusedVariables false
theorem Bk.of {c : Cf} {now : Int} {xs : List En} (h : (ofP c now xs).2 = 0) (wc : Wc c) (wn : W64 now) (hx : ∀ x ∈ xs, Ok x.1 ∧ Wo x.2.1 ∧ W64 x.2.2) (nd : (keysL xs).Nodup) : Bk c now xs := by
  obtain ⟨mm, rt⟩ := made_ok h wc wn hx
  have h' := h
  unfold ofP at h'
  cases ho : okC c with
  | false => rw [ho] at h'; simp at h'
  | true =>
    cases hi : isT now with
    | false => rw [ho, hi] at h'; simp at h'
    | true =>
      rw [ho, hi] at h'
      by_cases he : c.e < (xs.length : Int)
      · simp [he] at h'
      · simp [he] at h'
        have q := ofL_ok xs [] 0 h'
        unfold isT at hi
        rw [Bool.and_eq_true] at hi
        exact ⟨ho, of_decide_eq_true hi.1, of_decide_eq_true hi.2, mm, rt, fun x hx => (q x hx).2.2.2.2, fun x hx => (q x hx).2.2.2.1, by omega, nd⟩
end Go.Proofs.YtpefbmheblfbeaaGreat.Sn
/- The way back of a patch, plain: what is read of a patch's bytes, and what comes out of it; no program. -/
namespace Go.Proofs.YtpefbmheblfbeaaGreat.Sn
open Go.RowKit Me
set_option linter.unusedVariables false
def mk2 : List UInt8 := [99, 111, 110, 118, 111, 121, 112, 49]
def fndN (G : List K) (os ys : List En) (k : K) : Option V := if hs G k = true then none else match fnd os.reverse k with
  | some v => some v
  | none => fnd ys k
def entN (G : List K) (os ys : List En) (k : K) : En := match fndN G os ys k with
  | some v => (k, v)
  | none => (zk, ((0, 0, 0, 0), 0))
theorem getS_has (ys : List En) (k : K) : (getS ys k).2 = hs (keysL ys) k := by
  unfold getS
  by_cases h : k ∈ keysL ys
  · obtain ⟨v, e, _⟩ := fnd_some h
    rw [e, hs_yes h]
  · rw [fnd_none h, hs_no h]
def pt1 (s : ByteArray) : Rd := markR s ⟨0, 0⟩ mk2
def pt2 (s : ByteArray) : Rd × Nat := sumR s (pt1 s)
def pt3 (s : ByteArray) : Rd × Nat := sumR s (pt2 s).1
def pt4 (s : ByteArray) (n0 : Int) : Rd × Int := numR s (pt3 s).1 n0 4611686018427387904
def pt5 (s : ByteArray) (c : Cf) (n0 : Int) (ys : List En) : Rd × List K := lstR s (pt4 s n0).1 c.e (fun k => (getS ys k).2)
def pt6 (s : ByteArray) (c : Cf) (n0 : Int) (ys : List En) : Rd × List En := entsR s c (pt4 s n0).2 (numR s (pt5 s c n0 ys).1 0 c.e).2.toNat (numR s (pt5 s c n0 ys).1 0 c.e).1 []
def pt7 (s : ByteArray) (c : Cf) (n0 : Int) (ys : List En) : Rd × List K := lstR s (pt6 s c n0 ys).1 c.e (fun k => (fndN (pt5 s c n0 ys).2 (pt6 s c n0 ys).2 ys k).isSome)
def pt8 (s : ByteArray) (c : Cf) (n0 : Int) (ys : List En) : Rd := endR s (pt7 s c n0 ys).1
def pt9 (s : ByteArray) (c : Cf) (n0 : Int) (ys : List En) : List En := (pt7 s c n0 ys).2.map (entN (pt5 s c n0 ys).2 (pt6 s c n0 ys).2 ys)
def bodyQ (c : Cf) (n0 : Int) (ys : List En) (now : Int) (xs : List En) (gs : List K) : List UInt8 := mk2 ++ (by8 (smM c n0 ys) ++ (by8 (smM c now xs) ++ (nB now ++ (keysB gs ++ (entsB (othL ys xs) ++ keysB (keysL xs))))))
def patS (c : Cf) (n0 : Int) (ys : List En) (now : Int) (xs : List En) (gs : List K) : ByteArray := ⟨(sealB (bodyQ c n0 ys now xs gs)).toArray⟩
theorem sumR_back {s : ByteArray} {k x : Nat} (h : At s k (by8 x)) (hx : x < 18446744073709551616) : sumR s ⟨k, 0⟩ = (⟨((k + 8 : Nat) : Int), 0⟩, x) := by
  have hne : by8 x ≠ [] := fun e => by have := by8_len x; rw [e] at this; simp at this
  have hle := h.le hne
  rw [by8_len] at hle
  obtain ⟨r, e⟩ := h
  unfold sumR
  have hd : decide (8 ≤ (s.size : Int) - ((k : Nat) : Int)) = true := decide_eq_true (by omega)
  simp only [hd]
  rw [passS_ok rfl, passB_ok rfl]
  simp only [if_true]
  rw [show ((k : Nat) : Int).toNat = k by omega, e, val8_by8 x hx]
  refine Prod.ext ?_ rfl
  simp
theorem keyG_back {s : ByteArray} {k : Nat} {q : K} {A : List K} {may : K → Bool} (h : At s k (keyB q)) (h0 : 0 ≤ q.1) (h1 : q.1 ≤ 65535) (h2 : q.2.size ≤ 64) (hn : hs A q = false) (hm : may q = true) : keyG s ⟨k, 0⟩ A may = (⟨((k + (keyB q).length : Nat) : Int), 0⟩, q) := by
  unfold keyG
  simp only [takK_back h h0 h1 h2, hn, hm]
  rw [passS_ok rfl, passB_ok rfl]
  rfl
theorem keysG_back {s : ByteArray} {may : K → Bool} : ∀ (ks : List K) (k : Nat) (L : List K), At s k (ks.flatMap keyB) → (∀ q ∈ ks, (0 ≤ q.1 ∧ q.1 ≤ 65535 ∧ q.2.size ≤ 64) ∧ may q = true) → (L ++ ks).Nodup → keysG s may ks.length ⟨k, 0⟩ L = (⟨((k + (ks.flatMap keyB).length : Nat) : Int), 0⟩, L ++ ks)
  | [], k, L, _, _, _ => by simp [keysG]
  | q :: ks, k, L, h, hx, hn => by
    rw [List.flatMap_cons] at h
    obtain ⟨⟨x1, x2, x3⟩, x4⟩ := hx q (by simp)
    have hnm : hs L q = false := hs_no (fun hm => by
      rw [List.nodup_append] at hn
      exact hn.2.2 _ hm _ (by simp) rfl)
    rw [List.length_cons, keysG, if_pos rfl, keyG_back h.fst x1 x2 x3 hnm x4]
    have ih := keysG_back ks (k + (keyB q).length) (L ++ [q]) h.snd (fun y hy => hx y (by simp [hy])) (by simpa [List.append_assoc] using hn)
    rw [ih, List.flatMap_cons, List.length_append, List.append_assoc, Nat.add_assoc]
    rfl
theorem lstR_back {s : ByteArray} {may : K → Bool} {ks : List K} {k : Nat} {most : Int} (h : At s k (keysB ks)) (hx : ∀ q ∈ ks, (0 ≤ q.1 ∧ q.1 ≤ 65535 ∧ q.2.size ≤ 64) ∧ may q = true) (hn : ks.Nodup) (hl : (ks.length : Int) ≤ most) (hm : most ≤ 65536) : lstR s ⟨k, 0⟩ most may = (⟨((k + (keysB ks).length : Nat) : Int), 0⟩, ks) := by
  unfold keysB at h ⊢
  unfold lstR
  have e1 := numR_back (a := 0) (b := most) h.fst (by omega) (by omega) (by omega) hl
  rw [e1]
  simp only
  rw [show ((ks.length : Nat) : Int).toNat = ks.length by omega, keysG_back ks _ [] h.snd hx (by simpa using hn)]
  refine Prod.ext ?_ (by simp)
  simp only [List.length_append]
  congr 1
  omega
theorem patS_data (c : Cf) (n0 : Int) (ys : List En) (now : Int) (xs : List En) (gs : List K) : (patS c n0 ys now xs gs).data.toList = bodyQ c n0 ys now xs gs ++ by8 (sumL (bodyQ c n0 ys now xs gs)) := by
  unfold patS sealB
  simp
theorem patS_size (c : Cf) (n0 : Int) (ys : List En) (now : Int) (xs : List En) (gs : List K) : (patS c n0 ys now xs gs).size = (bodyQ c n0 ys now xs gs).length + 8 := by
  have h := congrArg List.length (patS_data c n0 ys now xs gs)
  rw [List.length_append, by8_len] at h
  have h2 : (patS c n0 ys now xs gs).data.toList.length = (patS c n0 ys now xs gs).size := by simp
  omega
theorem othL_nd {ys xs : List En} (hn : (keysL xs).Nodup) : (keysL (othL ys xs)).Nodup := by
  unfold keysL othL at *
  exact (List.Sublist.map Prod.fst List.filter_sublist).nodup hn
theorem same_key {L : List En} {x y : En} (hn : (keysL L).Nodup) (hx : x ∈ L) (hy : y ∈ L) (e : x.1 = y.1) : x = y := by
  have h1 := fnd_of_mem hn hx
  have h2 := fnd_of_mem hn hy
  rw [e, h2] at h1
  exact Prod.ext e (Option.some.inj h1).symm
theorem entN_back {ys xs : List En} {gs : List K} (hn : (keysL xs).Nodup) (hg : ∀ k ∈ gs, (getS xs k).2 = false) {x : En} (hx : x ∈ xs) : fndN gs (othL ys xs) ys x.1 = some x.2 := by
  have hk : x.1 ∈ keysL xs := List.mem_map_of_mem hx
  have h1 : hs gs x.1 = false := hs_no (fun hm => by
    have := hg _ hm
    rw [getS_has, hs_yes hk] at this
    cases this)
  unfold fndN
  rw [if_neg (by rw [h1]; simp)]
  cases hb : othB ys x with
  | true =>
    have hm : x ∈ (othL ys xs).reverse := by
      rw [List.mem_reverse]
      unfold othL
      exact List.mem_filter.2 ⟨hx, hb⟩
    have hnd : (keysL (othL ys xs).reverse).Nodup := by
      have := othL_nd (ys := ys) hn
      unfold keysL at *
      rw [List.map_reverse]
      exact (List.reverse_perm _).nodup_iff.2 this
    rw [fnd_of_mem hnd hm]
  | false =>
    have hno : ¬ x.1 ∈ keysL (othL ys xs).reverse := fun hm => by
      unfold keysL at hm
      obtain ⟨y, hy, e⟩ := List.mem_map.1 hm
      rw [List.mem_reverse] at hy
      unfold othL at hy
      obtain ⟨hy1, hy2⟩ := List.mem_filter.1 hy
      have := same_key hn hy1 hx e
      rw [this, hb] at hy2
      cases hy2
    rw [fnd_none hno]
    unfold othB at hb
    cases hf : fnd ys x.1 with
    | none => rw [hf] at hb; cases hb
    | some v =>
      rw [hf] at hb
      simp only [Bool.not_eq_false', sameB, decide_eq_true_eq] at hb
      rw [hb]
section
variable {c : Cf} {n0 : Int} {ys : List En} {now : Int} {xs : List En} {gs : List K}
theorem Bk.key {c : Cf} {now : Int} {xs : List En} (h : Bk c now xs) : ∀ q ∈ keysL xs, 0 ≤ q.1 ∧ q.1 ≤ 65535 ∧ q.2.size ≤ 64 := fun q hq => by
  unfold keysL at hq
  obtain ⟨x, hx, rfl⟩ := List.mem_map.1 hq
  have := h.mm.x x hx
  exact ⟨this.s0, this.s1, this.nm⟩
structure PtB (c : Cf) (n0 : Int) (ys : List En) (now : Int) (xs : List En) (s : ByteArray) : Prop where
  er : (pt8 s c n0 ys).er = 0
  s0 : (pt2 s).2 = smM c n0 ys
  s1 : (pt3 s).2 = smM c now xs
  n : (pt4 s n0).2 = now
  l : pt9 s c n0 ys = xs
theorem bk_e {c : Cf} {now : Int} {xs : List En} (h : Bk c now xs) : 0 ≤ c.e ∧ c.e ≤ 65536 := okC_e h.oc
theorem patch_back (h0 : Bk c n0 ys) (h1 : Bk c now xs) (hn : n0 ≤ now) (hg : gs.Perm (gonL ys xs)) : PtB c n0 ys now xs (patS c n0 ys now xs gs) := by
  have hat : At (patS c n0 ys now xs gs) 0 (bodyQ c n0 ys now xs gs) := ⟨by8 (sumL (bodyQ c n0 ys now xs gs)), by rw [List.drop_zero, patS_data]⟩
  have hlen := patS_size c n0 ys now xs gs
  have hdat := patS_data c n0 ys now xs gs
  have hL : (bodyQ c n0 ys now xs gs).length = 8 + 8 + 8 + (nB now).length + (keysB gs).length + (entsB (othL ys xs)).length + (keysB (keysL xs)).length := by
    unfold bodyQ
    simp only [List.length_append, by8_len]
    show 8 + _ = _
    omega
  have hgm : ∀ k ∈ gs, k ∈ keysL ys ∧ (getS xs k).2 = false := fun k hk => by
    have := hg.mem_iff.1 hk
    unfold gonL at this
    obtain ⟨a, b⟩ := List.mem_filter.1 this
    exact ⟨a, by simpa using b⟩
  have hgn : gs.Nodup := hg.nodup_iff.2 (by unfold gonL; exact List.Sublist.nodup List.filter_sublist h0.nd)
  have hgl : (gs.length : Int) ≤ c.e := by
    have e := hg.length_eq
    have e2 : (gonL ys xs).length ≤ (keysL ys).length := by unfold gonL; exact List.length_filter_le _ _
    have e3 : (keysL ys).length = ys.length := by simp [keysL]
    have := h0.ln
    omega
  have hce := bk_e h0
  generalize hps : patS c n0 ys now xs gs = s at *
  unfold bodyQ at hat
  -- the mark
  have e1 : pt1 s = ⟨((8 : Nat) : Int), 0⟩ := by
    unfold pt1 markR
    have hp : prefB (s.data.toList.drop (0 : Int).toNat) mk2 = true := by
      unfold prefB
      refine decide_eq_true ?_
      rw [show (0 : Int).toNat = 0 from rfl, List.drop_zero, hdat]
      unfold bodyQ
      rw [List.append_assoc, List.take_left]
    simp only [hp]
    rw [passS_ok rfl, if_pos rfl]
    rfl
  have a1 := hat.snd
  rw [Nat.zero_add, show mk2.length = 8 from rfl] at a1
  have e2 : pt2 s = (⟨((16 : Nat) : Int), 0⟩, smM c n0 ys) := by
    unfold pt2
    rw [e1, sumR_back a1.fst (smM_lt _ _ _)]
  have a2 := a1.snd
  rw [by8_len] at a2
  have e3 : pt3 s = (⟨((24 : Nat) : Int), 0⟩, smM c now xs) := by
    unfold pt3
    rw [e2, sumR_back a2.fst (smM_lt _ _ _)]
  have a3 := a2.snd
  rw [by8_len] at a3
  have n1 := h1.n0
  have n2 := h1.n1
  have e4 : pt4 s n0 = (⟨((24 + (nB now).length : Nat) : Int), 0⟩, now) := by
    unfold pt4
    rw [e3]
    exact numR_back a3.fst n1 (by omega) hn n2
  have a4 := a3.snd
  have e5 : pt5 s c n0 ys = (⟨((24 + (nB now).length + (keysB gs).length : Nat) : Int), 0⟩, gs) := by
    unfold pt5
    rw [e4]
    refine lstR_back a4.fst (fun q hq => ⟨h0.key q (hgm q hq).1, ?_⟩) hgn hgl hce.2
    rw [getS_has, hs_yes (hgm q hq).1]
  have a5 := a4.snd
  have ho : ∀ x ∈ othL ys xs, x ∈ xs := fun x hx => (List.mem_filter.1 hx).1
  have hol := othL_len ys xs
  have hl1 := h1.ln
  have e6 : pt6 s c n0 ys = (⟨((24 + (nB now).length + (keysB gs).length + (entsB (othL ys xs)).length : Nat) : Int), 0⟩, othL ys xs) := by
    have b5 := a5.fst
    unfold entsB at b5
    have q1 := numR_back (a := 0) (b := c.e) b5.fst (by omega) (by omega) (by omega) (by omega)
    have q2 := entsR_back (c := c) (now := now) (othL ys xs) _ [] b5.snd (fun x hx => ⟨h1.mm.x x (ho x hx), h1.rt x (ho x hx), h1.kp x (ho x hx), h1.tm x (ho x hx)⟩) (by simpa using othL_nd h1.nd)
    unfold pt6
    rw [e5, e4]
    simp only
    rw [q1]
    simp only
    rw [show (((othL ys xs).length : Nat) : Int).toNat = (othL ys xs).length by omega, q2]
    refine Prod.ext ?_ (by simp)
    unfold entsB
    simp only [List.length_append]
    congr 1
    omega
  have a6 := a5.snd
  have e7 : pt7 s c n0 ys = (⟨((bodyQ c n0 ys now xs gs).length : Nat), 0⟩, keysL xs) := by
    unfold pt7
    rw [e6, e5]
    rw [lstR_back a6 (fun q hq => ⟨h1.key q hq, ?_⟩) h1.nd (by simpa [keysL] using hl1) hce.2, hL]
    obtain ⟨x, hx, rfl⟩ := List.mem_map.1 hq
    rw [entN_back h1.nd (fun k hk => (hgm k hk).2) hx]
    rfl
  refine ⟨?_, by rw [e2], by rw [e3], by rw [e4], ?_⟩
  · unfold pt8
    rw [(end_fin _ _).1, e7]
    unfold finR
    rw [if_neg (by simp), if_neg (by simp only; omega)]
    have e : ((((bodyQ c n0 ys now xs gs).length : Nat) : Int)).toNat = (bodyQ c n0 ys now xs gs).length := by omega
    simp only [e]
    rw [hdat, List.drop_left, List.take_left]
    have hv := val8_by8 (sumL (bodyQ c n0 ys now xs gs)) (sumL_lt _) []
    rw [List.append_nil] at hv
    rw [hv, if_neg (by simp), if_neg (by omega)]
  · unfold pt9
    rw [e7, e6, e5]
    simp only
    unfold keysL
    rw [List.map_map]
    refine (List.map_congr_left (fun x hx => ?_)).trans (List.map_id xs)
    simp only [Function.comp, id]
    unfold entN
    rw [entN_back h1.nd (fun k hk => (hgm k hk).2) hx]
end
end Go.Proofs.YtpefbmheblfbeaaGreat.Sn
/- The contract of the program's patched: the three lists of a patch are taken, and the entries that come out of them answered; the text's length is a number of the language's, the reader stands within the text. -/
namespace Go.Proofs.YtpefbmheblfbeaaGreat.Sn
open Go.RowKit Go.Sort Go.Shelf Go.Maps Go.ChangeMaps Me
set_option linter.unusedVariables false
set_option linter.unusedSimpArgs false
def q5 (s : ByteArray) (x : Rd) (c : Cf) (ys : List En) : Rd × List K := lstR s x c.e (fun k => (getS ys k).2)
def q6 (s : ByteArray) (x : Rd) (c : Cf) (now : Int) (ys : List En) : Rd × List En := entsR s c now (numR s (q5 s x c ys).1 0 c.e).2.toNat (numR s (q5 s x c ys).1 0 c.e).1 []
def q7 (s : ByteArray) (x : Rd) (c : Cf) (now : Int) (ys : List En) : Rd × List K := lstR s (q6 s x c now ys).1 c.e (fun k => (fndN (q5 s x c ys).2 (q6 s x c now ys).2 ys k).isSome)
def q9 (s : ByteArray) (x : Rd) (c : Cf) (now : Int) (ys : List En) : List En := (q7 s x c now ys).2.map (entN (q5 s x c ys).2 (q6 s x c now ys).2 ys)
theorem getN_ent (G : List K) (os ys : List En) (k : K) : getN G os ys k = (nv (entN G os ys k), (fndN G os ys k).isSome) := by
  unfold getN entN fndN getS
  by_cases hg : hs G k = true
  · rw [if_pos hg, if_pos hg]; rfl
  · rw [if_neg hg, if_neg hg]
    cases fnd os.reverse k with
    | some v => rfl
    | none => cases fnd ys k <;> rfl
theorem pfn_ {w : World} {m b : Nat} {F : List Nat} {c : Cf} {now : Int} {ys : List En} (hb : w.heap[b]? = some (.cells #[PT m] 28 (0, 0))) (h : Mq w m F c now ys) (k : K) (hk : Ok k) : Calls Tryz.prog 105 #[kv k, PT b] w fun e w' => e = .returned (.bool (getS ys k).2) ∧ Touch [] w w' := by
  obtain ⟨V, hV⟩ : ∃ V, V = w.alloc (.cells #[.int .u16 k.1, .string k.2] 54) := ⟨_, rfl⟩
  have TV : Touch [] w V := by rw [hV]; exact (Touch.refl _ _).alloc _
  have hx : V.heap[w.heap.size]? = some (.cells #[.int .u16 k.1, .string k.2] 54 (0, 0)) := by rw [hV]; exact heap_alloc_new w _
  have h4 := TV.keep hb (by simp)
  have HH := hid (phas_ (h.keep0 TV) k hk)
  have x0 := cell_of (n := 0) hx rfl
  have x1 := cell_of (n := 1) hx rfl
  have x4 := cell_of (n := 0) h4 rfl
  have HTV := hid TV
  generalize (getS ys k).2 = bb at *
  unfold kv PT at *
  clear h hk hb hx h4 TV
  go_enter Tryz.func105, Tryz.ntmps105
  go_upto_region 1 with fail
  rw [← hV]
  clear hV
  go_wp2_with (go_at_call 101; refine HH.out.mono ?_; rintro e w2 ⟨rfl, t2⟩; have T2 := hid (HTV.out.trans' t2); clear t2)
  go_ret
  exact ⟨rfl, T2.out⟩
theorem q9_take {G : List K} {os ys : List En} {ks : List K} {i : Nat} (h : i < ks.length) : ((ks.map (entN G os ys)).take (i + 1)) = ((ks.map (entN G os ys)).take i) ++ [entN G os ys ks[i]] := by
  rw [List.take_succ_eq_append_getElem (by simpa using h)]; simp
set_option maxRecDepth 100000 in
set_option maxHeartbeats 8000000 in
theorem patched_ {w : World} {r m : Nat} {s : ByteArray} {x : Rd} {F : List Nat} {c : Cf} {n0 now : Int} {ys : List En} (hm : Mq w m F c n0 ys) (h : Rq w r s x) (hi : Rin s x) (hs : s.size ≤ 140737488351232) (hn : 0 ≤ now ∧ now ≤ 9223372036854775807) : Calls Tryz.prog 66 #[PT r, PT m, .int .i64 now] w fun e w' => ∃ v, e = .returned v ∧ w'.ownsRow w.heap.size 60 7 v (q9 s x c now ys).length (cellsN (q9 s x c now ys)) ∧ Rq w' r s (q7 s x c now ys).1 ∧ Touch [r] w w' := by
  have hc := okC_e hm.gd.oc
  have hrF : ¬ r ∈ F := hm.away h (by decide) (by decide) (by decide)
  have HM := hid (fun w' (t : Touch [r] w w') => hm.keep t (fun k hk e => hrF (by simp at e; rw [← e]; exact hk)))
  have hr := h.lt
  -- the box of the old memo, and that of its configuration
  obtain ⟨W0, hW0⟩ : ∃ W0, W0 = w.alloc (.cells #[PT m] 28) := ⟨_, rfl⟩
  obtain ⟨b4, hb4⟩ : ∃ b4, b4 = w.heap.size := ⟨_, rfl⟩
  have tW0 : Touch [] w W0 := by rw [hW0]; exact (Touch.refl _ _).alloc _
  have hB4 : W0.heap[b4]? = some (.cells #[PT m] 28 (0, 0)) := by rw [hW0, hb4]; exact heap_alloc_new w _
  have HCF := hid (show Calls Tryz.prog 35 #[PT m] W0 fun e w'' => e = .returned (cv c) ∧ Touch [] W0 w'' from by obtain ⟨b, o, G, _, hb⟩ := HM.out W0 (tW0.mono (by simp)); exact config27 W0 m c n0 b o hb.md)
  have x4 := cell_of (n := 0) hB4 rfl
  have HB4 := hid hB4
  have HR2 : Hid (r < w.heap.size ∧ b4 = w.heap.size) := hid ⟨hr, hb4⟩
  have HT0 := hid tW0
  have HQ := hid h
  have HI := hid hi
  have HS0 := hid hs
  have HNW := hid hn
  have HC := hid hc
  clear h hm hi hs hn hc tW0 hB4 hrF hr
  unfold cv at HCF
  unfold PT at *
  go_enter Tryz.func66, Tryz.ntmps66
  go_upto_region 1 with fail
  rw [← hW0]
  try rw [← hb4]
  clear hW0 hb4
  go_upto_region 2 with (go_at_call 35; refine HCF.out.mono ?_; rintro e v1 ⟨rfl, t1⟩; have T1 := hid (HT0.out.trans' t1); have Y4 := hid (t1.keep HB4.out (by simp)); clear t1)
  obtain ⟨W1, hW1⟩ : ∃ W1, W1 = v1.alloc (.cells #[.int .i64 c.t, .int .i64 c.n, .int .i64 c.s, .int .i64 c.e, .int .i64 c.f, .int .i64 c.b, .int .i64 c.d] 23) := ⟨_, rfl⟩
  obtain ⟨b7, hb7⟩ : ∃ b7, b7 = v1.heap.size := ⟨_, rfl⟩
  have tW1 : Touch [] v1 W1 := by rw [hW1]; exact (Touch.refl _ _).alloc _
  have hB7 : W1.heap[b7]? = some (.cells #[.int .i64 c.t, .int .i64 c.n, .int .i64 c.s, .int .i64 c.e, .int .i64 c.f, .int .i64 c.b, .int .i64 c.d] 23 (0, 0)) := by rw [hW1, hb7]; exact heap_alloc_new v1 _
  have hB4' := tW1.keep Y4.out (by simp)
  have HN47 : Hid (b4 ≠ r ∧ b7 ≠ r) := hid (by have := HR2.out; have := T1.out.size; omega)
  have HS1 : Hid (∀ w', Touch [r] W1 w' → (w'.heap[b4]? = some (.cells #[.pointer (some ⟨m, 0, none⟩)] 28 (0, 0)) ∧ w'.heap[b7]? = some (.cells #[.int .i64 c.t, .int .i64 c.n, .int .i64 c.s, .int .i64 c.e, .int .i64 c.f, .int .i64 c.b, .int .i64 c.d] 23 (0, 0)))) := hid (fun w' t => ⟨t.keep hB4' (by simpa using HN47.out.1), t.keep hB7 (by simpa using HN47.out.2)⟩)
  have TW1 := hid (T1.out.trans' tW1)
  have y3 := cell_of (n := 3) hB7 rfl
  rw [← hW1]
  try rw [← hb7]
  clear hW1 hb7 tW1 hB7 hB4' x4
  have Q1 := hid (HQ.out.keep0 TW1.out)
  have KA : Hid (KeyC (.func (.func 105) #[] #[PT b4]) r s (fun k => (getS ys k).2) W1) := hid (keyC_a HS0.out (fun w' t k hk => pfn_ (HS1.out w' t).1 (HM.out w' ((TW1.out.mono (by simp)).trans' t)) k hk))
  have H5 := hid (keys_r KA Q1.out HI.out HS0.out c.e HC.out)
  obtain ⟨y5, hy5⟩ : ∃ y5, y5 = (q5 s x c ys).1 := ⟨_, rfl⟩
  obtain ⟨G, hG⟩ : ∃ G, G = (q5 s x c ys).2 := ⟨_, rfl⟩
  have I5 : Hid (Rin s y5) := hid (by rw [hy5]; exact Rin.keysG _ _ (HI.out.num _ _))
  have OG : Hid (∀ k ∈ G, Ok k) := hid (by rw [hG]; exact keysG_ok _ _ [] (fun e he => by cases he))
  have LG : Hid (G.length ≤ 70000) := hid (by
    rw [hG]
    have q1 := keysG_len (s := s) (may := fun k => (getS ys k).2) (numR s x 0 c.e).2.toNat (numR s x 0 c.e).1 []
    have q2 := numR_v (s := s) (x := x) (a := 0) (b := c.e) (by omega) HC.out.1
    have q3 := HC.out
    simp at q1
    show (keysG s _ _ _ _).2.length ≤ _
    omega)
  have e5 : lstR s x c.e (fun k => (getS ys k).2) = (y5, G) := by rw [hy5, hG]; rfl
  rw [e5] at H5
  have Hy5 := hid hy5
  have HGq := hid hG
  clear e5 hy5 hG KA
  unfold PT at H5
  go_upto_region 3 with (go_at_call 104; refine H5.out.mono ?_; rintro e w2 ⟨v2, rfl, o2, qq2, tt2⟩; obtain ⟨a2, c2, e2⟩ := own_form o2; subst e2)
  have T2 := hid tt2
  have Q2 := hid qq2
  have O2 := hid o2
  clear o2 qq2 tt2 H5 y3
  -- the drawn region: the maps, the entries between
  obtain ⟨y6, hy6⟩ : ∃ y6, y6 = (q6 s x c now ys).1 := ⟨_, rfl⟩
  obtain ⟨os, hos⟩ : ∃ os, os = (q6 s x c now ys).2 := ⟨_, rfl⟩
  have HO6 : Hid ((∀ z ∈ os, Ok z.1) ∧ os.length ≤ 70000 ∧ Rin s y6) := hid (by
    rw [hos, hy6]
    refine ⟨entsR_ok _ _ [] (fun e he => by cases he), ?_, ?_⟩
    · have q1 := entsR_len (s := s) (c := c) (now := now) (numR s (q5 s x c ys).1 0 c.e).2.toNat (numR s (q5 s x c ys).1 0 c.e).1 []
      have q2 := numR_v (s := s) (x := (q5 s x c ys).1) (a := 0) (b := c.e) (by omega) HC.out.1
      have q3 := HC.out
      simp at q1
      unfold q6
      omega
    · exact Rin.ents _ _ ((by rw [← Hy5.out]; exact I5.out : Rin s (q5 s x c ys).1).num _ _))
  have HS : Hid (∀ w', Touch [r] w2 w' → (w'.heap[b4]? = some (.cells #[.pointer (some ⟨m, 0, none⟩)] 28 (0, 0)) ∧ w'.heap[b7]? = some (.cells #[.int .i64 c.t, .int .i64 c.n, .int .i64 c.s, .int .i64 c.e, .int .i64 c.f, .int .i64 c.b, .int .i64 c.d] 23 (0, 0)))) := hid (fun w' t => HS1.out w' (T2.out.trans' t))
  have HPl : Hid (∀ w', Touch [r] w2 w' → Calls Tryz.prog 106 #[.slice a2 G.length c2] w' fun e w'' => ∃ gb, e = .returned (.map (some gb)) ∧ w'.heap.size ≤ gb ∧ Touch [] w' w'' ∧ Gm w'' gb G) := hid (fun w' t => placesOf_ (Rs.of_own (own_touch O2.out t (fun b hb e => by
    have h1 := (O2.out.lt b hb).1
    simp at e
    have := HR2.out
    have := TW1.out.size
    omega))) OG.out LG.out)
  have HEn : Hid (∀ w', Rq w' r s y5 → Touch [r] w2 w' → Calls Tryz.prog 47 #[.pointer (some ⟨r, 0, none⟩), .agg #[.int .i64 c.t, .int .i64 c.n, .int .i64 c.s, .int .i64 c.e, .int .i64 c.f, .int .i64 c.b, .int .i64 c.d], .int .i64 now] w' fun e w'' => ∃ v, e = .returned v ∧ w''.ownsRow w'.heap.size 60 7 v os.length (cellsN os) ∧ Rq w'' r s y6 ∧ Touch [r] w' w'') := hid (fun w' q t => by
    have := entries_r q I5.out HS0.out c HC.out now HNW.out
    rw [hos, hy6]
    unfold q6
    rw [← Hy5.out]
    exact this)
  have HBy : Hid (∀ w' v B, w'.ownsRow B 60 7 v os.length (cellsN os) → Calls Tryz.prog 107 #[v] w' fun e w'' => ∃ gb, e = .returned (.map (some gb)) ∧ w'.heap.size ≤ gb ∧ Touch [] w' w'' ∧ Om w'' gb os) := hid (fun w' v B o => byKey_ o HO6.out.1 HO6.out.2.1)
  have HR2 : Hid (r < w2.heap.size) := hid (by have := HR2.out; have := TW1.out.size; have := T2.out.size; omega)
  have Hy6 := hid hy6
  have Hos := hid hos
  obtain ⟨n2, hn2⟩ : ∃ n2, n2 = G.length := ⟨_, rfl⟩
  obtain ⟨n6, hn6⟩ : ∃ n6, n6 = os.length := ⟨_, rfl⟩
  rw [← hn2] at HPl
  rw [← hn6] at HEn HBy
  rw [← hn2]
  have Hn2 := hid hn2
  have Hn6 := hid hn6
  clear hy6 hos hn2 hn6
  have C0 : ∀ w' : World, (w'.heap[b4]? = some (.cells #[.pointer (some ⟨m, 0, none⟩)] 28 (0, 0)) ∧ w'.heap[b7]? = some (.cells #[.int .i64 c.t, .int .i64 c.n, .int .i64 c.s, .int .i64 c.e, .int .i64 c.f, .int .i64 c.b, .int .i64 c.d] 23 (0, 0))) → w'.cell? ⟨b4, 0, none⟩ = some (.pointer (some ⟨m, 0, none⟩)) := fun w' h => cell_at h.1 rfl
  have Y0 : ∀ w' : World, (w'.heap[b4]? = some (.cells #[.pointer (some ⟨m, 0, none⟩)] 28 (0, 0)) ∧ w'.heap[b7]? = some (.cells #[.int .i64 c.t, .int .i64 c.n, .int .i64 c.s, .int .i64 c.e, .int .i64 c.f, .int .i64 c.b, .int .i64 c.d] 23 (0, 0))) → w'.cell? ⟨b7, 0, none⟩ = some (.int .i64 c.t) := fun w' h => cell_at h.2 rfl
  have Y1 : ∀ w' : World, (w'.heap[b4]? = some (.cells #[.pointer (some ⟨m, 0, none⟩)] 28 (0, 0)) ∧ w'.heap[b7]? = some (.cells #[.int .i64 c.t, .int .i64 c.n, .int .i64 c.s, .int .i64 c.e, .int .i64 c.f, .int .i64 c.b, .int .i64 c.d] 23 (0, 0))) → w'.cell? ⟨b7, 1, none⟩ = some (.int .i64 c.n) := fun w' h => cell_at h.2 rfl
  have Y2 : ∀ w' : World, (w'.heap[b4]? = some (.cells #[.pointer (some ⟨m, 0, none⟩)] 28 (0, 0)) ∧ w'.heap[b7]? = some (.cells #[.int .i64 c.t, .int .i64 c.n, .int .i64 c.s, .int .i64 c.e, .int .i64 c.f, .int .i64 c.b, .int .i64 c.d] 23 (0, 0))) → w'.cell? ⟨b7, 2, none⟩ = some (.int .i64 c.s) := fun w' h => cell_at h.2 rfl
  have Y3 : ∀ w' : World, (w'.heap[b4]? = some (.cells #[.pointer (some ⟨m, 0, none⟩)] 28 (0, 0)) ∧ w'.heap[b7]? = some (.cells #[.int .i64 c.t, .int .i64 c.n, .int .i64 c.s, .int .i64 c.e, .int .i64 c.f, .int .i64 c.b, .int .i64 c.d] 23 (0, 0))) → w'.cell? ⟨b7, 3, none⟩ = some (.int .i64 c.e) := fun w' h => cell_at h.2 rfl
  have Y4 : ∀ w' : World, (w'.heap[b4]? = some (.cells #[.pointer (some ⟨m, 0, none⟩)] 28 (0, 0)) ∧ w'.heap[b7]? = some (.cells #[.int .i64 c.t, .int .i64 c.n, .int .i64 c.s, .int .i64 c.e, .int .i64 c.f, .int .i64 c.b, .int .i64 c.d] 23 (0, 0))) → w'.cell? ⟨b7, 4, none⟩ = some (.int .i64 c.f) := fun w' h => cell_at h.2 rfl
  have Y5 : ∀ w' : World, (w'.heap[b4]? = some (.cells #[.pointer (some ⟨m, 0, none⟩)] 28 (0, 0)) ∧ w'.heap[b7]? = some (.cells #[.int .i64 c.t, .int .i64 c.n, .int .i64 c.s, .int .i64 c.e, .int .i64 c.f, .int .i64 c.b, .int .i64 c.d] 23 (0, 0))) → w'.cell? ⟨b7, 5, none⟩ = some (.int .i64 c.b) := fun w' h => cell_at h.2 rfl
  have Y6 : ∀ w' : World, (w'.heap[b4]? = some (.cells #[.pointer (some ⟨m, 0, none⟩)] 28 (0, 0)) ∧ w'.heap[b7]? = some (.cells #[.int .i64 c.t, .int .i64 c.n, .int .i64 c.s, .int .i64 c.e, .int .i64 c.f, .int .i64 c.b, .int .i64 c.d] 23 (0, 0))) → w'.cell? ⟨b7, 6, none⟩ = some (.int .i64 c.d) := fun w' h => cell_at h.2 rfl
  go_cut [9] from 22 to 30 (fun a wx => ∃ nb gb ob, a = .pointer (some ⟨nb, 0, none⟩) ∧ Hid (wx.heap[nb]? = some (.cells #[.pointer (some ⟨m, 0, none⟩), .map (some gb), .map (some ob)] 187 (0, 0)) ∧ Touch [r] w2 wx ∧ Rq wx r s y6 ∧ Gm wx gb G ∧ Om wx ob os ∧ gb ≠ r ∧ ob ≠ r))
  case first =>
    have T0 : Hid (Touch [r] w2 w2.drew) := hid (Touch.refl _ _).drew
    have Q0 : Hid (Rq w2.drew r s y5) := hid Q2.out
    have s0 := HS.out _ T0.out
    refine wp_region_H (S := fun w' => (w'.heap[b4]? = some (.cells #[.pointer (some ⟨m, 0, none⟩)] 28 (0, 0)) ∧ w'.heap[b7]? = some (.cells #[.int .i64 c.t, .int .i64 c.n, .int .i64 c.s, .int .i64 c.e, .int .i64 c.f, .int .i64 c.b, .int .i64 c.d] 23 (0, 0)))) (by kernel_rfl) ?_
    generalize w2.drew = Wd at *
    refine wpH_take (i := 0) (v := (.pointer (some ⟨m, 0, none⟩))) (some 22) rfl rfl (by kernel_rfl) (by kernel_rfl) (by kernel_rfl) (fun _ _ _ h => h) (Or.inl ⟨by rfl, fun w' hS => (by have z0 := C0 _ hS; go_simp)⟩) s0 ?_
    try simp only [Go.Act.put, List.setIfInBounds_toArray, List.set_cons_zero, List.set_cons_succ]
    refine wpH_take (i := 1) (v := (Value.slice a2 n2 c2)) (some 23) rfl rfl (by kernel_rfl) (by kernel_rfl) (by kernel_rfl) (fun _ _ _ h => h) (Or.inl ⟨by rfl, fun w' hS => (by go_simp)⟩) s0 ?_
    try simp only [Go.Act.put, List.setIfInBounds_toArray, List.set_cons_zero, List.set_cons_succ]
    refine wpH_take (i := 3) (v := (.pointer (some ⟨r, 0, none⟩))) (some 25) rfl rfl (by kernel_rfl) (by kernel_rfl) (by kernel_rfl) (fun _ _ _ h => h) (Or.inl ⟨by rfl, fun w' hS => (by go_simp)⟩) s0 ?_
    try simp only [Go.Act.put, List.setIfInBounds_toArray, List.set_cons_zero, List.set_cons_succ]
    refine wpH_take (i := 4) (v := (.agg #[.int .i64 c.t, .int .i64 c.n, .int .i64 c.s, .int .i64 c.e, .int .i64 c.f, .int .i64 c.b, .int .i64 c.d])) (some 26) rfl rfl (by kernel_rfl) (by kernel_rfl) (by kernel_rfl) (fun _ _ _ h => h) (Or.inl ⟨by rfl, fun w' hS => (by have z0 := Y0 _ hS; have z1 := Y1 _ hS; have z2 := Y2 _ hS; have z3 := Y3 _ hS; have z4 := Y4 _ hS; have z5 := Y5 _ hS; have z6 := Y6 _ hS; go_simp)⟩) s0 ?_
    try simp only [Go.Act.put, List.setIfInBounds_toArray, List.set_cons_zero, List.set_cons_succ]
    refine wpH_take (i := 5) (v := (.int .i64 now)) (some 27) rfl rfl (by kernel_rfl) (by kernel_rfl) (by kernel_rfl) (fun _ _ _ h => h) (Or.inl ⟨by rfl, fun w' hS => (by go_simp)⟩) s0 ?_
    try simp only [Go.Act.put, List.setIfInBounds_toArray, List.set_cons_zero, List.set_cons_succ]
    refine wpH_ready (rs := [2, 9]) (by kernel_rfl) (by simp) ?_
    refine AllH.cons (o := { dst := some 24, op := Op.call { callee := Callee.value (Operand.func 106), args := #[Operand.tmp 23], argTypes := #[61] }, type := 174, pos := _, after := #[{ on := 1, ground := Ground.data }], guard := none }) rfl (fun K' hK => ?_) ?_
    · rw [if_pos (by rfl)]
      go_simp
      refine (HPl.out _ T0.out).mono ?_
      rintro e v1 ⟨gb, rfl, hgb, t1, hg1⟩
      have T1 := hid (T0.out.trans' (t1.mono (by simp)))
      have G1 := hid hg1
      have NG : Hid (gb ≠ r) := hid (by have := T0.out.size; have := HR2.out; omega)
      have Q1 := hid (Q0.out.keep0 t1)
      have s1 := HS.out _ T1.out
      refine hK.out _ _ s1 ?_
      clear hK
      try simp only [Go.Act.put, List.setIfInBounds_toArray, List.set_cons_zero, List.set_cons_succ]
      refine wpH_ready (rs := [6, 9]) (by kernel_rfl) (by simp) ?_
      refine AllH.cons (o := { dst := some 28, op := Op.call { callee := Callee.value (Operand.func 47), args := #[Operand.tmp 25, Operand.tmp 26, Operand.tmp 27], argTypes := #[106, 23, 2] }, type := 24, pos := _, after := #[{ on := 3, ground := Ground.data }, { on := 4, ground := Ground.data }, { on := 5, ground := Ground.data }, { on := 2, ground := Ground.chain }], guard := none }) rfl (fun K' hK => ?_) ?_
      · rw [if_pos (by rfl)]
        go_simp
        refine (HEn.out _ Q1.out T1.out).mono ?_
        rintro e v2 ⟨u6, rfl, o6, q6, t2⟩
        obtain ⟨a6, c6, e6⟩ := own_form o6
        subst e6
        have T2 := hid (T1.out.trans' t2)
        have O6 := hid o6
        have Q2 := hid q6
        have G2 := hid (G1.out.kept (t2.block gb G1.out.lt (by simpa using NG.out)))
        clear o6 q6
        have s2 := HS.out _ T2.out
        refine hK.out _ _ s2 ?_
        clear hK
        try simp only [Go.Act.put, List.setIfInBounds_toArray, List.set_cons_zero, List.set_cons_succ]
        refine wpH_ready (rs := [7, 9]) (by kernel_rfl) (by simp) ?_
        refine AllH.cons (o := { dst := some 29, op := Op.call { callee := Callee.value (Operand.func 107), args := #[Operand.tmp 28], argTypes := #[24] }, type := 184, pos := _, after := #[{ on := 6, ground := Ground.data }, { on := 6, ground := Ground.chain }], guard := none }) rfl (fun K' hK => ?_) ?_
        · rw [if_pos (by rfl)]
          go_simp
          refine (HBy.out _ _ _ O6.out).mono ?_
          rintro e v3 ⟨ob, rfl, hob, t3, ho3⟩
          have T3 := hid (T2.out.trans' (t3.mono (by simp)))
          have OM3 := hid ho3
          have NO : Hid (ob ≠ r) := hid (by have := T2.out.size; have := HR2.out; omega)
          have Q3 := hid (Q2.out.keep0 t3)
          have G3 := hid (G2.out.kept (t3.block gb G2.out.lt (by simp)))
          have s3 := HS.out _ T3.out
          refine hK.out _ _ s3 ?_
          clear hK
          try simp only [Go.Act.put, List.setIfInBounds_toArray, List.set_cons_zero, List.set_cons_succ]
          refine wpH_take (i := 8) (v := (.agg #[.pointer (some ⟨m, 0, none⟩), .map (some gb), .map (some ob)])) (some 30) rfl rfl (by kernel_rfl) (by kernel_rfl) (by kernel_rfl) (fun _ _ _ h => h) (Or.inl ⟨by rfl, fun w' hS => (by go_simp)⟩) s3 ?_
          try simp only [Go.Act.put, List.setIfInBounds_toArray, List.set_cons_zero, List.set_cons_succ]
          refine wpH_call (i := 9) (o := { dst := some 9, op := Op.alloc 187, type := 0, pos := _, after := #[], guard := none }) (by kernel_rfl) rfl (fun K' hK => ?_)
          rw [if_pos (by rfl)]
          go_simp
          have B4 := hid (heap_alloc_new v3 (.cells #[.pointer none, .map none, .map none] 187))
          have t4 := (Touch.refl [] v3).alloc (.cells #[.pointer none, .map none, .map none] 187)
          have T4 := hid (T3.out.alloc (.cells #[.pointer none, .map none, .map none] 187))
          have Q4 := hid (Q3.out.keep0 t4)
          have NB4 : Hid (v3.heap.size ≠ r) := hid (by have := T3.out.size; have := HR2.out; omega)
          have G4 := hid (G3.out.kept (t4.block gb G3.out.lt (by simp)))
          have OM4 := hid (OM3.out.kept (t4.block ob OM3.out.lt (by simp)))
          have s4 := HS.out _ T4.out
          have NGB : Hid (gb ≠ v3.heap.size) := hid (by have := G3.out.lt; omega)
          have NOB : Hid (ob ≠ v3.heap.size) := hid (by have := OM3.out.lt; omega)
          refine hK.out _ _ s4 ?_
          clear hK
          try simp only [Go.Act.put, List.setIfInBounds_toArray, List.set_cons_zero, List.set_cons_succ]
          refine wpH_call (i := 10) (o := { dst := none, op := Op.store 187 (Operand.tmp 9) (Operand.tmp 30), type := 0, pos := _, after := #[{ on := 9, ground := Ground.data }, { on := 8, ground := Ground.data }, { on := 7, ground := Ground.chain }, { on := 0, ground := Ground.phase }, { on := 1, ground := Ground.phase }, { on := 2, ground := Ground.phase }, { on := 3, ground := Ground.phase }, { on := 4, ground := Ground.phase }, { on := 5, ground := Ground.phase }, { on := 6, ground := Ground.phase }, { on := 7, ground := Ground.phase }, { on := 8, ground := Ground.phase }, { on := 9, ground := Ground.phase }], guard := none }) (by kernel_rfl) rfl (fun K' hK => ?_)
          rw [if_pos (by rfl)]
          have m0 := cell_of (n := 0) B4.out rfl
          have m1 := cell_of (n := 1) B4.out rfl
          have m2 := cell_of (n := 2) B4.out rfl
          have m3 := froz_at B4.out 0
          have m4 := froz_at B4.out 1
          have m5 := froz_at B4.out 2
          go_simp
          clear m0 m1 m2 m3 m4 m5
          have B9 := hid (heap_alloc_new v3 (.cells #[.pointer (some ⟨m, 0, none⟩), .map (some gb), .map (some ob)] 187))
          have t9 := (Touch.refl [] v3).alloc (.cells #[.pointer (some ⟨m, 0, none⟩), .map (some gb), .map (some ob)] 187)
          have T9 := hid (T3.out.alloc (.cells #[.pointer (some ⟨m, 0, none⟩), .map (some gb), .map (some ob)] 187))
          have Q9 := hid (Q3.out.keep0 t9)
          have G9 := hid (G3.out.kept (t9.block gb G3.out.lt (by simp)))
          have OM9 := hid (OM3.out.kept (t9.block ob OM3.out.lt (by simp)))
          have s9 := HS.out _ T9.out
          refine hK.out _ _ s9 ?_
          clear hK
          try simp only [Go.Act.put, List.setIfInBounds_toArray, List.set_cons_zero, List.set_cons_succ]
          refine wpAnyH_done (by kernel_rfl) ?_ _
          go_wp2_with fail
          go_meet
          exact ⟨v3.heap.size, gb, ob, rfl, hid ⟨B9.out, T9.out, Q9.out, G9.out, OM9.out, NG.out, NO.out⟩⟩
        refine AllH.cons (o := { dst := some 9, op := Op.alloc 187, type := 0, pos := _, after := #[], guard := none }) rfl (fun K' hK => ?_) ?_
        · rw [if_pos (by rfl)]
          go_simp
          have B6 := hid (heap_alloc_new v2 (.cells #[.pointer none, .map none, .map none] 187))
          have t6 := (Touch.refl [] v2).alloc (.cells #[.pointer none, .map none, .map none] 187)
          have T6 := hid (T2.out.alloc (.cells #[.pointer none, .map none, .map none] 187))
          have Q6 := hid (Q2.out.keep0 t6)
          have NB6 : Hid (v2.heap.size ≠ r) := hid (by have := T2.out.size; have := HR2.out; omega)
          have G6 := hid (G2.out.kept (t6.block gb G2.out.lt (by simp)))
          have O66 := hid (own_touch (F := []) O6.out t6 (fun _ _ e => by cases e))
          have s6 := HS.out _ T6.out
          have NGB : Hid (gb ≠ v2.heap.size) := hid (by have := G2.out.lt; omega)
          refine hK.out _ _ s6 ?_
          clear hK
          try simp only [Go.Act.put, List.setIfInBounds_toArray, List.set_cons_zero, List.set_cons_succ]
          refine wpH_call (i := 7) (o := { dst := some 29, op := Op.call { callee := Callee.value (Operand.func 107), args := #[Operand.tmp 28], argTypes := #[24] }, type := 184, pos := _, after := #[{ on := 6, ground := Ground.data }, { on := 6, ground := Ground.chain }], guard := none }) (by kernel_rfl) rfl (fun K' hK => ?_)
          rw [if_pos (by rfl)]
          go_simp
          refine (HBy.out _ _ _ O66.out).mono ?_
          rintro e v7 ⟨ob, rfl, hob, t7, ho7⟩
          have T7 := hid (T6.out.trans' (t7.mono (by simp)))
          have OM7 := hid ho7
          have NO : Hid (ob ≠ r) := hid (by have := T6.out.size; have := HR2.out; omega)
          have Q7 := hid (Q6.out.keep0 t7)
          have G7 := hid (G6.out.kept (t7.block gb G6.out.lt (by simp)))
          have B7 := hid (t7.keep B6.out (by simp))
          have s7 := HS.out _ T7.out
          have NOB : Hid (ob ≠ v2.heap.size) := hid (by have := block_lt B6.out; omega)
          refine hK.out _ _ s7 ?_
          clear hK
          try simp only [Go.Act.put, List.setIfInBounds_toArray, List.set_cons_zero, List.set_cons_succ]
          refine wpH_take (i := 8) (v := (.agg #[.pointer (some ⟨m, 0, none⟩), .map (some gb), .map (some ob)])) (some 30) rfl rfl (by kernel_rfl) (by kernel_rfl) (by kernel_rfl) (fun _ _ _ h => h) (Or.inl ⟨by rfl, fun w' hS => (by go_simp)⟩) s7 ?_
          try simp only [Go.Act.put, List.setIfInBounds_toArray, List.set_cons_zero, List.set_cons_succ]
          refine wpH_call (i := 10) (o := { dst := none, op := Op.store 187 (Operand.tmp 9) (Operand.tmp 30), type := 0, pos := _, after := #[{ on := 9, ground := Ground.data }, { on := 8, ground := Ground.data }, { on := 7, ground := Ground.chain }, { on := 0, ground := Ground.phase }, { on := 1, ground := Ground.phase }, { on := 2, ground := Ground.phase }, { on := 3, ground := Ground.phase }, { on := 4, ground := Ground.phase }, { on := 5, ground := Ground.phase }, { on := 6, ground := Ground.phase }, { on := 7, ground := Ground.phase }, { on := 8, ground := Ground.phase }, { on := 9, ground := Ground.phase }], guard := none }) (by kernel_rfl) rfl (fun K' hK => ?_)
          rw [if_pos (by rfl)]
          have m0 := cell_of (n := 0) B7.out rfl
          have m1 := cell_of (n := 1) B7.out rfl
          have m2 := cell_of (n := 2) B7.out rfl
          have m3 := froz_at B7.out 0
          have m4 := froz_at B7.out 1
          have m5 := froz_at B7.out 2
          go_simp
          clear m0 m1 m2 m3 m4 m5
          have B9 := hid (bset (i := 2) (bset (i := 1) (bset (i := 0) B7.out (.pointer (some ⟨m, 0, none⟩))) (.map (some gb))) (.map (some ob)))
          have t9 := ((((Touch.refl [v2.heap.size] v7).setCell (p := ⟨v2.heap.size, 0, none⟩) (Or.inl (by simp)) (.pointer (some ⟨m, 0, none⟩))).setCell (p := ⟨v2.heap.size, 1, none⟩) (Or.inl (by simp)) (.map (some gb))).setCell (p := ⟨v2.heap.size, 2, none⟩) (Or.inl (by simp)) (.map (some ob)))
          have T9 := hid (T7.out.trans t9 (fun k hk => Or.inr (by simp at hk; rw [hk]; exact T2.out.size)))
          have Q9 := hid (t9.keep Q7.out (by simpa using NB6.out.symm))
          have G9 := hid (G7.out.kept (t9.block gb G7.out.lt (by simpa using NGB.out)))
          have OM9 := hid (OM7.out.kept (t9.block ob OM7.out.lt (by simpa using NOB.out)))
          have s9 := HS.out _ T9.out
          refine hK.out _ _ s9 ?_
          clear hK
          try simp only [Go.Act.put, List.setIfInBounds_toArray, List.set_cons_zero, List.set_cons_succ]
          refine wpAnyH_done (by kernel_rfl) ?_ _
          go_wp2_with fail
          go_meet
          exact ⟨v2.heap.size, gb, ob, rfl, hid ⟨B9.out, T9.out, Q9.out, G9.out, OM9.out, NG.out, NO.out⟩⟩
        exact AllH.nil
      refine AllH.cons (o := { dst := some 9, op := Op.alloc 187, type := 0, pos := _, after := #[], guard := none }) rfl (fun K' hK => ?_) ?_
      · rw [if_pos (by rfl)]
        go_simp
        have B9 := hid (heap_alloc_new v1 (.cells #[.pointer none, .map none, .map none] 187))
        have t9 := (Touch.refl [] v1).alloc (.cells #[.pointer none, .map none, .map none] 187)
        have T9 := hid (T1.out.alloc (.cells #[.pointer none, .map none, .map none] 187))
        have Q9 := hid (Q1.out.keep0 t9)
        have NB9 : Hid (v1.heap.size ≠ r) := hid (by have := T1.out.size; have := HR2.out; omega)
        have G9 := hid (G1.out.kept (t9.block gb G1.out.lt (by simp)))
        have s9 := HS.out _ T9.out
        have NGB : Hid (gb ≠ v1.heap.size) := hid (by have := G1.out.lt; omega)
        refine hK.out _ _ s9 ?_
        clear hK
        try simp only [Go.Act.put, List.setIfInBounds_toArray, List.set_cons_zero, List.set_cons_succ]
        refine wpH_call (i := 6) (o := { dst := some 28, op := Op.call { callee := Callee.value (Operand.func 47), args := #[Operand.tmp 25, Operand.tmp 26, Operand.tmp 27], argTypes := #[106, 23, 2] }, type := 24, pos := _, after := #[{ on := 3, ground := Ground.data }, { on := 4, ground := Ground.data }, { on := 5, ground := Ground.data }, { on := 2, ground := Ground.chain }], guard := none }) (by kernel_rfl) rfl (fun K' hK => ?_)
        rw [if_pos (by rfl)]
        go_simp
        refine (HEn.out _ Q9.out T9.out).mono ?_
        rintro e v10 ⟨u6, rfl, o6, q6, t10⟩
        obtain ⟨a6, c6, e6⟩ := own_form o6
        subst e6
        have T10 := hid (T9.out.trans' t10)
        have O6 := hid o6
        have Q10 := hid q6
        have G10 := hid (G9.out.kept (t10.block gb G9.out.lt (by simpa using NG.out)))
        have B10 := hid (t10.keep B9.out (by simpa using NB9.out))
        clear o6 q6
        have s10 := HS.out _ T10.out
        refine hK.out _ _ s10 ?_
        clear hK
        try simp only [Go.Act.put, List.setIfInBounds_toArray, List.set_cons_zero, List.set_cons_succ]
        refine wpH_call (i := 7) (o := { dst := some 29, op := Op.call { callee := Callee.value (Operand.func 107), args := #[Operand.tmp 28], argTypes := #[24] }, type := 184, pos := _, after := #[{ on := 6, ground := Ground.data }, { on := 6, ground := Ground.chain }], guard := none }) (by kernel_rfl) rfl (fun K' hK => ?_)
        rw [if_pos (by rfl)]
        go_simp
        refine (HBy.out _ _ _ O6.out).mono ?_
        rintro e v11 ⟨ob, rfl, hob, t11, ho11⟩
        have T11 := hid (T10.out.trans' (t11.mono (by simp)))
        have OM11 := hid ho11
        have NO : Hid (ob ≠ r) := hid (by have := T10.out.size; have := HR2.out; omega)
        have Q11 := hid (Q10.out.keep0 t11)
        have G11 := hid (G10.out.kept (t11.block gb G10.out.lt (by simp)))
        have B11 := hid (t11.keep B10.out (by simp))
        have s11 := HS.out _ T11.out
        have NOB : Hid (ob ≠ v1.heap.size) := hid (by have := block_lt B10.out; omega)
        refine hK.out _ _ s11 ?_
        clear hK
        try simp only [Go.Act.put, List.setIfInBounds_toArray, List.set_cons_zero, List.set_cons_succ]
        refine wpH_take (i := 8) (v := (.agg #[.pointer (some ⟨m, 0, none⟩), .map (some gb), .map (some ob)])) (some 30) rfl rfl (by kernel_rfl) (by kernel_rfl) (by kernel_rfl) (fun _ _ _ h => h) (Or.inl ⟨by rfl, fun w' hS => (by go_simp)⟩) s11 ?_
        try simp only [Go.Act.put, List.setIfInBounds_toArray, List.set_cons_zero, List.set_cons_succ]
        refine wpH_call (i := 10) (o := { dst := none, op := Op.store 187 (Operand.tmp 9) (Operand.tmp 30), type := 0, pos := _, after := #[{ on := 9, ground := Ground.data }, { on := 8, ground := Ground.data }, { on := 7, ground := Ground.chain }, { on := 0, ground := Ground.phase }, { on := 1, ground := Ground.phase }, { on := 2, ground := Ground.phase }, { on := 3, ground := Ground.phase }, { on := 4, ground := Ground.phase }, { on := 5, ground := Ground.phase }, { on := 6, ground := Ground.phase }, { on := 7, ground := Ground.phase }, { on := 8, ground := Ground.phase }, { on := 9, ground := Ground.phase }], guard := none }) (by kernel_rfl) rfl (fun K' hK => ?_)
        rw [if_pos (by rfl)]
        have m0 := cell_of (n := 0) B11.out rfl
        have m1 := cell_of (n := 1) B11.out rfl
        have m2 := cell_of (n := 2) B11.out rfl
        have m3 := froz_at B11.out 0
        have m4 := froz_at B11.out 1
        have m5 := froz_at B11.out 2
        go_simp
        clear m0 m1 m2 m3 m4 m5
        have B9 := hid (bset (i := 2) (bset (i := 1) (bset (i := 0) B11.out (.pointer (some ⟨m, 0, none⟩))) (.map (some gb))) (.map (some ob)))
        have t9 := ((((Touch.refl [v1.heap.size] v11).setCell (p := ⟨v1.heap.size, 0, none⟩) (Or.inl (by simp)) (.pointer (some ⟨m, 0, none⟩))).setCell (p := ⟨v1.heap.size, 1, none⟩) (Or.inl (by simp)) (.map (some gb))).setCell (p := ⟨v1.heap.size, 2, none⟩) (Or.inl (by simp)) (.map (some ob)))
        have T9 := hid (T11.out.trans t9 (fun k hk => Or.inr (by simp at hk; rw [hk]; exact T1.out.size)))
        have Q9 := hid (t9.keep Q11.out (by simpa using NB9.out.symm))
        have G9 := hid (G11.out.kept (t9.block gb G11.out.lt (by simpa using NGB.out)))
        have OM9 := hid (OM11.out.kept (t9.block ob OM11.out.lt (by simpa using NOB.out)))
        have s9 := HS.out _ T9.out
        refine hK.out _ _ s9 ?_
        clear hK
        try simp only [Go.Act.put, List.setIfInBounds_toArray, List.set_cons_zero, List.set_cons_succ]
        refine wpAnyH_done (by kernel_rfl) ?_ _
        go_wp2_with fail
        go_meet
        exact ⟨v1.heap.size, gb, ob, rfl, hid ⟨B9.out, T9.out, Q9.out, G9.out, OM9.out, NG.out, NO.out⟩⟩
      exact AllH.nil
    refine AllH.cons (o := { dst := some 9, op := Op.alloc 187, type := 0, pos := _, after := #[], guard := none }) rfl (fun K' hK => ?_) ?_
    · rw [if_pos (by rfl)]
      go_simp
      have B13 := hid (heap_alloc_new Wd (.cells #[.pointer none, .map none, .map none] 187))
      have t13 := (Touch.refl [] Wd).alloc (.cells #[.pointer none, .map none, .map none] 187)
      have T13 := hid (T0.out.alloc (.cells #[.pointer none, .map none, .map none] 187))
      have Q13 := hid (Q0.out.keep0 t13)
      have NB13 : Hid (Wd.heap.size ≠ r) := hid (by have := T0.out.size; have := HR2.out; omega)
      have s13 := HS.out _ T13.out
      refine hK.out _ _ s13 ?_
      clear hK
      try simp only [Go.Act.put, List.setIfInBounds_toArray, List.set_cons_zero, List.set_cons_succ]
      refine wpH_call (i := 2) (o := { dst := some 24, op := Op.call { callee := Callee.value (Operand.func 106), args := #[Operand.tmp 23], argTypes := #[61] }, type := 174, pos := _, after := #[{ on := 1, ground := Ground.data }], guard := none }) (by kernel_rfl) rfl (fun K' hK => ?_)
      rw [if_pos (by rfl)]
      go_simp
      refine (HPl.out _ T13.out).mono ?_
      rintro e v14 ⟨gb, rfl, hgb, t14, hg14⟩
      have T14 := hid (T13.out.trans' (t14.mono (by simp)))
      have G14 := hid hg14
      have NG : Hid (gb ≠ r) := hid (by have := T13.out.size; have := HR2.out; omega)
      have Q14 := hid (Q13.out.keep0 t14)
      have B14 := hid (t14.keep B13.out (by simp))
      have s14 := HS.out _ T14.out
      have NGB : Hid (gb ≠ Wd.heap.size) := hid (by have := block_lt B13.out; omega)
      refine hK.out _ _ s14 ?_
      clear hK
      try simp only [Go.Act.put, List.setIfInBounds_toArray, List.set_cons_zero, List.set_cons_succ]
      refine wpH_call (i := 6) (o := { dst := some 28, op := Op.call { callee := Callee.value (Operand.func 47), args := #[Operand.tmp 25, Operand.tmp 26, Operand.tmp 27], argTypes := #[106, 23, 2] }, type := 24, pos := _, after := #[{ on := 3, ground := Ground.data }, { on := 4, ground := Ground.data }, { on := 5, ground := Ground.data }, { on := 2, ground := Ground.chain }], guard := none }) (by kernel_rfl) rfl (fun K' hK => ?_)
      rw [if_pos (by rfl)]
      go_simp
      refine (HEn.out _ Q14.out T14.out).mono ?_
      rintro e v15 ⟨u6, rfl, o6, q6, t15⟩
      obtain ⟨a6, c6, e6⟩ := own_form o6
      subst e6
      have T15 := hid (T14.out.trans' t15)
      have O6 := hid o6
      have Q15 := hid q6
      have G15 := hid (G14.out.kept (t15.block gb G14.out.lt (by simpa using NG.out)))
      have B15 := hid (t15.keep B14.out (by simpa using NB13.out))
      clear o6 q6
      have s15 := HS.out _ T15.out
      refine hK.out _ _ s15 ?_
      clear hK
      try simp only [Go.Act.put, List.setIfInBounds_toArray, List.set_cons_zero, List.set_cons_succ]
      refine wpH_call (i := 7) (o := { dst := some 29, op := Op.call { callee := Callee.value (Operand.func 107), args := #[Operand.tmp 28], argTypes := #[24] }, type := 184, pos := _, after := #[{ on := 6, ground := Ground.data }, { on := 6, ground := Ground.chain }], guard := none }) (by kernel_rfl) rfl (fun K' hK => ?_)
      rw [if_pos (by rfl)]
      go_simp
      refine (HBy.out _ _ _ O6.out).mono ?_
      rintro e v16 ⟨ob, rfl, hob, t16, ho16⟩
      have T16 := hid (T15.out.trans' (t16.mono (by simp)))
      have OM16 := hid ho16
      have NO : Hid (ob ≠ r) := hid (by have := T15.out.size; have := HR2.out; omega)
      have Q16 := hid (Q15.out.keep0 t16)
      have G16 := hid (G15.out.kept (t16.block gb G15.out.lt (by simp)))
      have B16 := hid (t16.keep B15.out (by simp))
      have s16 := HS.out _ T16.out
      have NOB : Hid (ob ≠ Wd.heap.size) := hid (by have := block_lt B15.out; omega)
      refine hK.out _ _ s16 ?_
      clear hK
      try simp only [Go.Act.put, List.setIfInBounds_toArray, List.set_cons_zero, List.set_cons_succ]
      refine wpH_take (i := 8) (v := (.agg #[.pointer (some ⟨m, 0, none⟩), .map (some gb), .map (some ob)])) (some 30) rfl rfl (by kernel_rfl) (by kernel_rfl) (by kernel_rfl) (fun _ _ _ h => h) (Or.inl ⟨by rfl, fun w' hS => (by go_simp)⟩) s16 ?_
      try simp only [Go.Act.put, List.setIfInBounds_toArray, List.set_cons_zero, List.set_cons_succ]
      refine wpH_call (i := 10) (o := { dst := none, op := Op.store 187 (Operand.tmp 9) (Operand.tmp 30), type := 0, pos := _, after := #[{ on := 9, ground := Ground.data }, { on := 8, ground := Ground.data }, { on := 7, ground := Ground.chain }, { on := 0, ground := Ground.phase }, { on := 1, ground := Ground.phase }, { on := 2, ground := Ground.phase }, { on := 3, ground := Ground.phase }, { on := 4, ground := Ground.phase }, { on := 5, ground := Ground.phase }, { on := 6, ground := Ground.phase }, { on := 7, ground := Ground.phase }, { on := 8, ground := Ground.phase }, { on := 9, ground := Ground.phase }], guard := none }) (by kernel_rfl) rfl (fun K' hK => ?_)
      rw [if_pos (by rfl)]
      have m0 := cell_of (n := 0) B16.out rfl
      have m1 := cell_of (n := 1) B16.out rfl
      have m2 := cell_of (n := 2) B16.out rfl
      have m3 := froz_at B16.out 0
      have m4 := froz_at B16.out 1
      have m5 := froz_at B16.out 2
      go_simp
      clear m0 m1 m2 m3 m4 m5
      have B9 := hid (bset (i := 2) (bset (i := 1) (bset (i := 0) B16.out (.pointer (some ⟨m, 0, none⟩))) (.map (some gb))) (.map (some ob)))
      have t9 := ((((Touch.refl [Wd.heap.size] v16).setCell (p := ⟨Wd.heap.size, 0, none⟩) (Or.inl (by simp)) (.pointer (some ⟨m, 0, none⟩))).setCell (p := ⟨Wd.heap.size, 1, none⟩) (Or.inl (by simp)) (.map (some gb))).setCell (p := ⟨Wd.heap.size, 2, none⟩) (Or.inl (by simp)) (.map (some ob)))
      have T9 := hid (T16.out.trans t9 (fun k hk => Or.inr (by simp at hk; rw [hk]; exact T0.out.size)))
      have Q9 := hid (t9.keep Q16.out (by simpa using NB13.out.symm))
      have G9 := hid (G16.out.kept (t9.block gb G16.out.lt (by simpa using NGB.out)))
      have OM9 := hid (OM16.out.kept (t9.block ob OM16.out.lt (by simpa using NOB.out)))
      have s9 := HS.out _ T9.out
      refine hK.out _ _ s9 ?_
      clear hK
      try simp only [Go.Act.put, List.setIfInBounds_toArray, List.set_cons_zero, List.set_cons_succ]
      refine wpAnyH_done (by kernel_rfl) ?_ _
      go_wp2_with fail
      go_meet
      exact ⟨Wd.heap.size, gb, ob, rfl, hid ⟨B9.out, T9.out, Q9.out, G9.out, OM9.out, NG.out, NO.out⟩⟩
    exact AllH.nil
  case rest =>
    clear C0 Y0 Y1 Y2 Y3 Y4 Y5 Y6 HPl HEn HBy
    obtain ⟨nb, gb, ob, rfl, HC9⟩ := hcut
    obtain ⟨z1, z2, z3, z4, z5, z6, z7⟩ := HC9.out
    have BX := hid z1
    have TX := hid z2
    have QX := hid z3
    have NWX : Hid (∀ w', Touch [r] wc w' → Nw w' m gb ob F c n0 ys G os) := hid (fun w' t => ⟨HM.out w' ((TW1.out.mono (by simp)).trans' ((T2.out.trans' TX.out).trans' t)), z4.kept (t.block gb z4.lt (by simpa using z6)), z5.kept (t.block ob z5.lt (by simpa using z7))⟩)
    have hS := HS.out _ TX.out
    have y3 := cell_of (n := 3) hS.2 rfl
    have nbr : Hid (nb ≠ r) := hid (fun e => by
      rw [e] at z1
      unfold Rq at z3
      rw [z1] at z3
      injection z3 with z3
      injection z3 with _ z3 _
      exact absurd z3 (by decide))
    have BXk : Hid (∀ w', Touch [r] wc w' → w'.heap[nb]? = some (.cells #[.pointer (some ⟨m, 0, none⟩), .map (some gb), .map (some ob)] 187 (0, 0))) := hid (fun w' t => t.keep BX.out (by simpa using nbr.out))
    have u0 := cell_of (n := 0) z1 rfl
    have u1 := cell_of (n := 1) z1 rfl
    have u2 := cell_of (n := 2) z1 rfl
    have KB : Hid (KeyC (.func (.func 108) #[newsV m gb ob] #[]) r s (fun k => (fndN G os ys k).isSome) wc) := hid (keyC_b HS0.out (fun w' t k hk => by
      have := nhas_ (NWX.out w' t) k hk
      rw [getN_ent] at this
      exact this))
    have H7 := hid (keys_r KB QX.out HO6.out.2.2 HS0.out c.e HC.out)
    obtain ⟨y7, hy7⟩ : ∃ y7, y7 = (q7 s x c now ys).1 := ⟨_, rfl⟩
    obtain ⟨ks, hks⟩ : ∃ ks, ks = (q7 s x c now ys).2 := ⟨_, rfl⟩
    have e7 : lstR s y6 c.e (fun k => (fndN G os ys k).isSome) = (y7, ks) := by rw [hy7, hks, Hy6.out, HGq.out, Hos.out]; rfl
    have OK7 : Hid ((∀ k ∈ ks, Ok k) ∧ ks.length ≤ 70000) := hid (by
      have e8 := congrArg Prod.snd e7
      simp only at e8
      rw [← e8]
      refine ⟨keysG_ok _ _ [] (fun e he => by cases he), ?_⟩
      have q1 := keysG_len (s := s) (may := fun k => (fndN G os ys k).isSome) (numR s y6 0 c.e).2.toNat (numR s y6 0 c.e).1 []
      have q2 := numR_v (s := s) (x := y6) (a := 0) (b := c.e) (by omega) HC.out.1
      have q3 := HC.out
      simp at q1
      show (keysG s _ _ _ _).2.length ≤ _
      omega)
    rw [e7] at H7
    have HFin : Hid (q9 s x c now ys = ks.map (entN G os ys) ∧ (q7 s x c now ys).1 = y7) := hid (by
      refine ⟨?_, hy7.symm⟩
      unfold q9
      rw [← hks, ← HGq.out, ← Hos.out])
    clear hy7 hks e7 KB z1 z2 z3 z4 z5 z6 z7 hS HC9
    obtain ⟨n, hnn⟩ : ∃ n, n = ks.length := ⟨_, rfl⟩
    rw [← hnn] at H7
    have HNN := hid hnn
    clear hnn
    unfold newsV PT at H7
    go_wp2_with (go_at_call 104; refine H7.out.mono ?_; rintro e w5 ⟨v5, rfl, o5, qq5, tt5⟩; obtain ⟨a5, c5, e5⟩ := own_form o5; subst e5; have O5 := hid o5; have Q5 := hid qq5; have T5 := hid tt5; clear o5 qq5 tt5)
    clear H7 u0 u1 u2 y3
    go_loopw [10, 38] (fun s10 si wr => ∃ (i : Nat) (b : Option Addr) (cp : Nat), si = .int .i64 i ∧ i ≤ n ∧ s10 = .slice b i cp ∧ Hid (Touch [] w5 wr ∧ wr.ownsRow w5.heap.size 60 7 (.slice b i cp) i (cellsN ((ks.map (entN G os ys)).take i)))) (fun _ si _ => n - (intOf si).toNat)
    case atStart => exact ⟨0, none, 0, rfl, Nat.zero_le _, rfl, hid ⟨Touch.refl _ _, by simp [cellsN], Or.inl ⟨rfl, rfl⟩⟩⟩
    case round =>
      obtain ⟨i, b, cp, rfl, hi, rfl, HI9⟩ := hrel
      obtain ⟨wo, hwo⟩ : ∃ wo, wo = wr := ⟨_, rfl⟩
      rw [← hwo] at HI9 ⊢
      clear hwo wr
      have hnl : n ≤ 70000 := by have := OK7.out.2; have := HNN.out; omega
      by_cases hlt : i < n
      · have hz : (i : Int) < (n : Int) := by omega
        have hix : i < ks.length := by rw [← HNN.out]; exact hlt
        have hrs := Rs.of_own (own_touch O5.out HI9.out.1 (fun _ _ e => by cases e))
        obtain ⟨g2, o2, rfl, k0⟩ := hrs.cell (kcs_at hix).1 (by omega)
        obtain ⟨g3, o3, e3, k1⟩ := hrs.cell (kcs_at hix).2 (by omega)
        cases e3
        rw [← Nat.add_assoc] at k1
        have hok := OK7.out.1 ks[i] (List.getElem_mem hix)
        have HTK := hid (q9_take (G := G) (os := os) (ys := ys) hix)
        generalize ks[i] = kk at *
        obtain ⟨W6, hW6⟩ : ∃ W6, W6 = wo.alloc (.cells #[.int .u16 kk.1, .string kk.2] 54) := ⟨_, rfl⟩
        have tW6 : Touch [] wo W6 := by rw [hW6]; exact (Touch.refl _ _).alloc _
        have hbx : W6.heap[wo.heap.size]? = some (.cells #[.int .u16 kk.1, .string kk.2] 54 (0, 0)) := by rw [hW6]; exact heap_alloc_new wo _
        have t6r : Touch [r] wc W6 := T5.out.trans' ((HI9.out.1.trans' tW6).mono (by simp))
        have hnw := BXk.out W6 t6r
        have HGT := hid (nget_ (NWX.out W6 t6r) kk hok)
        rw [getN_ent] at HGT
        have x0 := cell_of (n := 0) hbx rfl
        have x1 := cell_of (n := 1) hbx rfl
        have u0 := cell_of (n := 0) hnw rfl
        have u1 := cell_of (n := 1) hnw rfl
        have u2 := cell_of (n := 2) hnw rfl
        have HLT := hid (And.intro hi hlt)
        have HNL : Hid (n ≤ 70000) := hid hnl
        have HA : Hid (∀ w7, Touch [] W6 w7 → w7.ownsRow w5.heap.size 60 7 (.slice b i cp) i (cellsN ((ks.map (entN G os ys)).take i)) ∧ w5.heap.size ≤ w7.heap.size ∧ Touch [] w5 w7) := hid (fun w7 t7 => ⟨own_touch HI9.out.2 (tW6.trans' t7) (fun _ _ e => by cases e), (HI9.out.1.trans' (tW6.trans' t7)).size, HI9.out.1.trans' (tW6.trans' t7)⟩)
        have HT2 : Hid (cellsN ((ks.map (entN G os ys)).take (i + 1)) = cellsN ((ks.map (entN G os ys)).take i) ++ nl (entN G os ys kk)) := hid (by rw [HTK.out, cellsN_app, cellsN_one])
        clear hrs hbx tW6 t6r hnw hok HTK hix HI9
        generalize (fndN G os ys kk).isSome = bb at *
        generalize entN G os ys kk = ee at *
        generalize cellsN ((ks.map (entN G os ys)).take i) = vs at *
        unfold newsV kv nv PT at HGT
        go_upto_region 8 with fail
        rw [← hW6]
        clear hW6 k0 k1
        go_upto_region 9 with (go_at_call 109; refine HGT.out.mono ?_; rintro e w7 ⟨rfl, t7⟩; have T7 := hid t7; clear t7 x0 x1 u0 u1 u2)
        obtain ⟨W8, hW8⟩ : ∃ W8, W8 = w7.alloc (.cells #[.int .u16 ee.1.1, .string ee.1.2, .int .i64 ee.2.1.1, .int .i64 ee.2.1.2.1, .int .i64 ee.2.1.2.2.1, .int .i64 ee.2.1.2.2.2, .int .i64 ee.2.2] 60) := ⟨_, rfl⟩
        have T8 : Hid (Touch [] W6 W8) := hid (T7.out.trans' (by rw [hW8]; exact (Touch.refl _ _).alloc _))
        have h9 : W8.heap[w7.heap.size]? = some (.cells #[.int .u16 ee.1.1, .string ee.1.2, .int .i64 ee.2.1.1, .int .i64 ee.2.1.2.1, .int .i64 ee.2.1.2.2.1, .int .i64 ee.2.1.2.2.2, .int .i64 ee.2.2] 60 (0, 0)) := by rw [hW8]; exact heap_alloc_new w7 _
        rw [← hW8]
        clear hW8
        have z0 := cell_of (n := 0) h9 rfl
        have z1 := cell_of (n := 1) h9 rfl
        have z2 := cell_of (n := 2) h9 rfl
        have z3 := cell_of (n := 3) h9 rfl
        have z4 := cell_of (n := 4) h9 rfl
        have z5 := cell_of (n := 5) h9 rfl
        have z6 := cell_of (n := 6) h9 rfl
        clear h9
        go_wp2_with (at_builtin; refine wpList_append_rs rfl _ _ 24 60 rfl _ 7 64 infoAK Tryz.underlying24 rfl (by decide) w5.heap.size (.slice b i cp) i vs rfl (HA.out _ (T8.out.alloc _)).1 (.slice (some ⟨W8.heap.size, 0, none⟩) 1 1) 1 _ rfl (Rs.new W8 #[.int .u16 ee.1.1, .string ee.1.2, .int .i64 ee.2.1.1, .int .i64 ee.2.1.2.1, .int .i64 ee.2.1.2.2.1, .int .i64 ee.2.1.2.2.2, .int .i64 ee.2.2] 60 7 rfl) (by simp [Value.oneCell']) (by unfold maxLen; have := HNL.out; have := HLT.out; omega) (by have := HNL.out; have := HLT.out; omega) (HA.out _ (T8.out.alloc _)).2.1 ?_; intro v6 w6 o6 g6 _; obtain ⟨a6, c6, e6, _⟩ := (Rs.of_own o6).form; subst e6; have O6 := hid o6; have T6 := hid (touch_grown (HA.out _ (T8.out.alloc _)).2.2 g6 (HA.out _ (T8.out.alloc _)).1 (Nat.le_refl _)); clear o6 g6)
        go_roundw
        case rel => exact ⟨i + 1, a6, c6, by go_num, by have := HLT.out; omega, rfl, hid ⟨T6.out, by rw [HT2.out]; exact O6.out⟩⟩
        case measure => simp [intOf]; have := HLT.out; omega
      · have hz : ¬ (i : Int) < (n : Int) := by omega
        have HZ : Hid (wo.ownsRow w.heap.size 60 7 (.slice b i cp) (q9 s x c now ys).length (cellsN (q9 s x c now ys)) ∧ Rq wo r s (q7 s x c now ys).1 ∧ Touch [r] w wo) := hid (by
          have e : i = n := by omega
          have z := HI9.out.2
          rw [List.take_of_length_le (by rw [List.length_map]; have := HNN.out; omega)] at z
          rw [HFin.out.1, HFin.out.2, List.length_map, ← HNN.out, ← e]
          have tt : Touch [r] w wc := (TW1.out.mono (by simp)).trans' (T2.out.trans' TX.out)
          exact ⟨own_base z (Nat.le_trans tt.size T5.out.size), Q5.out.keep0 HI9.out.1, (tt.trans' T5.out).trans' (HI9.out.1.mono (by simp))⟩)
        clear HI9
        go_wp2
        go_ret
        exact ⟨_, rfl, HZ.out⟩
end Go.Proofs.YtpefbmheblfbeaaGreat.Sn
/- The contract of Patch of two memos of one configuration, the old one's time not behind the other's: the patch's bytes; the memos' numbers are of 64 bits. -/
namespace Go.Proofs.YtpefbmheblfbeaaGreat.Sn
open Go.RowKit Go.Sort Go.Shelf Me
set_option linter.unusedVariables false
set_option linter.unusedSimpArgs false
def PaQ (w : World) (c : Cf) (n0 : Int) (ys : List En) (now : Int) (xs : List En) (e : Ending) (w' : World) : Prop := ∃ gs, gs.Perm (gonL ys xs) ∧ gs.Pairwise So.leK ∧ e = .returned (.tuple #[.string (patS c n0 ys now xs gs), .int .i64 0]) ∧ Touch [] w w'
theorem gon_key {c : Cf} {n0 : Int} {ys xs : List En} {gs : List K} (hk : MmOk c n0 ys) (hp : gs.Perm (gonL ys xs)) : (∀ k ∈ gs, 0 ≤ k.1 ∧ k.1 ≤ 65535 ∧ k.2.size ≤ 64) ∧ gs.length ≤ 65536 := by
  constructor
  · intro k hm
    have h1 := hp.mem_iff.1 hm
    unfold gonL at h1
    have h2 := (List.mem_filter.1 h1).1
    obtain ⟨x, hx, rfl⟩ := List.mem_map.1 h2
    have := hk.x x hx
    exact ⟨this.s0, this.s1, this.nm⟩
  · have e := hp.length_eq
    have e2 : (gonL ys xs).length ≤ (keysL ys).length := by unfold gonL; exact List.length_filter_le _ _
    have e3 : (keysL ys).length = ys.length := by simp [keysL]
    have := hk.l
    omega
theorem keysB_len {ks : List K} (h : ∀ k ∈ ks, 0 ≤ k.1 ∧ k.1 ≤ 65535 ∧ k.2.size ≤ 64) (hl : ks.length ≤ 65536) : (keysB ks).length ≤ 5000000 := by
  have q1 := nB_len (n := (ks.length : Int)) (by omega)
  have q2 := keys_le ks (fun k hk => (h k hk).2.2)
  unfold keysB
  rw [List.length_append]
  omega
theorem entsB_len {xs : List En} (h : ∀ x ∈ xs, EnOk x) (hl : xs.length ≤ 65536) : (entsB xs).length ≤ 7000000 := by
  have q1 := nB_len (n := (xs.length : Int)) (by omega)
  have q2 := flat_le h
  unfold entsB
  rw [List.length_append]
  omega
set_option maxHeartbeats 4000000 in
theorem patch_ {w : World} {m0 m : Nat} {F0 F : List Nat} {c : Cf} {n0 now : Int} {ys xs : List En} (h0 : Mq w m0 F0 c n0 ys) (h : Mq w m F c now xs) (k0 : MmOk c n0 ys) (hk : MmOk c now xs) (hn : n0 ≤ now) : Calls Tryz.prog 15 #[PT m0, PT m] w fun e w' => PaQ w c n0 ys now xs e w' := by
  have HM0 := hid (fun w' (t : Touch [] w w') => h0.keep0 t)
  have HM1 := hid (fun w' (t : Touch [] w w') => h.keep0 t)
  have HC0 := hid (fun w' (t : Touch [] w w') => (by obtain ⟨b, o, G, _, hb⟩ := HM0.out w' t; exact config27 w' m0 c n0 b o hb.md : Calls Tryz.prog 35 #[PT m0] w' fun e w'' => e = .returned (cv c) ∧ Touch [] w' w''))
  have HC1 := hid (fun w' (t : Touch [] w w') => (by obtain ⟨b, o, G, _, hb⟩ := HM1.out w' t; exact config27 w' m c now b o hb.md : Calls Tryz.prog 35 #[PT m] w' fun e w'' => e = .returned (cv c) ∧ Touch [] w' w''))
  have HN0 := hid (fun w' (t : Touch [] w w') => (by obtain ⟨b, o, G, _, hb⟩ := HM0.out w' t; exact now26 w' m0 c n0 b o hb.md : Calls Tryz.prog 22 #[PT m0] w' fun e w'' => e = .returned (.int .i64 n0) ∧ w'' = w'))
  have HN1 := hid (fun w' (t : Touch [] w w') => (by obtain ⟨b, o, G, _, hb⟩ := HM1.out w' t; exact now26 w' m c now b o hb.md : Calls Tryz.prog 22 #[PT m] w' fun e w'' => e = .returned (.int .i64 now) ∧ w'' = w'))
  have hz : ¬ now < n0 := by omega
  have HK0 := hid k0
  have HK1 := hid hk
  have HT0 := hid (Touch.refl [] w)
  have HXO : Hid ((∀ x ∈ othL ys xs, EnOk x) ∧ (othL ys xs).length ≤ 65536) := hid ⟨fun x hx => hk.x x (List.mem_filter.1 hx).1, Nat.le_trans (othL_len ys xs) hk.l⟩
  have HXK : Hid ((∀ k ∈ keysL xs, 0 ≤ k.1 ∧ k.1 ≤ 65535 ∧ k.2.size ≤ 64) ∧ (keysL xs).length ≤ 65536) := hid ⟨fun k hm => by
    obtain ⟨x, hx, rfl⟩ := List.mem_map.1 hm
    have := hk.x x hx
    exact ⟨this.s0, this.s1, this.nm⟩, by rw [keysL_len]; exact hk.l⟩
  clear h h0 k0 hk hn
  unfold cv at HC0 HC1
  unfold PT at *
  go_enter Tryz.func15, Tryz.ntmps15
  go_upto_region 3 with fail
  go_upto_region 5 with (first
    | (go_at_call_of 35 (#[.pointer (some ⟨m0, 0, none⟩)] : Array Value); refine (HC0.out _ HT0.out).mono ?_; rintro e w1 ⟨rfl, t1⟩; have T1 := hid (HT0.out.trans' t1); clear t1)
    | (go_at_call_of 35 (#[.pointer (some ⟨m, 0, none⟩)] : Array Value); refine (HC1.out _ T1.out).mono ?_; rintro e w2 ⟨rfl, t2⟩; have T2 := hid (T1.out.trans' t2); clear t2)
    | (go_at_call_of 22 (#[.pointer (some ⟨m, 0, none⟩)] : Array Value); refine (HN1.out _ T2.out).mono ?_; rintro e w3 ⟨rfl, e3⟩; rw [e3]; clear e3 w3)
    | (go_at_call_of 22 (#[.pointer (some ⟨m0, 0, none⟩)] : Array Value); refine (HN0.out _ T2.out).mono ?_; rintro e w4 ⟨rfl, e4⟩; rw [e4]; clear e4 w4))
  obtain ⟨V, hV⟩ : ∃ V, V = w2.alloc (.cells #[.pointer none, .slice none 0 0] 93) := ⟨_, rfl⟩
  have tV : Touch [] w2 V := by rw [hV]; exact (Touch.refl _ _).alloc _
  have b0 : Bd w2.heap.size w2.heap.size [] V := by rw [hV]; exact Bd.new w2
  have HT := hid (fun w' (hw : Wr w2.heap.size w2.heap.size V w') => T2.out.trans' (hw.tou tV))
  have HB := hid tV.size
  have H1 := hid (write_ b0 ⟨#[99, 111, 110, 118, 111, 121, 112, 49]⟩ (by decide))
  generalize hsz : w2.heap.size = n at *
  have HW : Hid (∀ w' l z, Bd n n l w' → l.length ≤ 100 → Calls Tryz.prog 33 #[.pointer (some ⟨n, 0, none⟩), .string ⟨(by8 z).toArray⟩] w' fun e w'' => e = .returned (.tuple #[.int .i64 ((⟨(by8 z).toArray⟩ : ByteArray).size : Nat), .nilIface]) ∧ Bd n n (l ++ by8 z) w'' ∧ Wr n n w' w'') := hid (fun w' l z h' hl => write_ h' ⟨(by8 z).toArray⟩ (by have := by8_len z; show l.length + (by8 z).toArray.size ≤ _; rw [List.size_toArray]; omega))
  have HS0 := hid (fun w' (hw : Wr n n V w') => (sumOfMemo_ (HM0.out _ (HT.out _ hw)) HK0.out : Calls Tryz.prog 56 #[.pointer (some ⟨m0, 0, none⟩)] w' _))
  have HS1 := hid (fun w' (hw : Wr n n V w') => (sumOfMemo_ (HM1.out _ (HT.out _ hw)) HK1.out : Calls Tryz.prog 56 #[.pointer (some ⟨m, 0, none⟩)] w' _))
  have HSB := hid (fun w' => sumBytes_ w' (smM c n0 ys) (smM_lt _ _ _))
  have HSB1 := hid (fun w' => sumBytes_ w' (smM c now xs) (smM_lt _ _ _))
  obtain ⟨z0, hz0⟩ : ∃ z0, z0 = smM c n0 ys := ⟨_, rfl⟩
  obtain ⟨z1, hz1⟩ : ∃ z1, z1 = smM c now xs := ⟨_, rfl⟩
  rw [← hz0] at HS0 HSB
  rw [← hz1] at HS1 HSB1
  have HZ := hid (And.intro hz0 hz1)
  clear hz0 hz1
  have l2 := nB_len (n := now) (by have := HK1.out.n.2; omega)
  have HL2 := hid l2
  have HN2 := hid (fun w' (hw : Wr n n V w') => HN1.out w' (HT.out _ hw))
  have H5 := hid (fun w' (h' : Bd n n (mk2 ++ by8 z0 ++ by8 z1) w') => (tellNumber_ h' now HK1.out.n.1 HK1.out.n.2 (by rw [List.length_append, List.length_append, by8_len, by8_len]; show 8 + 8 + 8 ≤ _; omega) : Calls Tryz.prog 36 #[.pointer (some ⟨n, 0, none⟩), .int .i64 now] w' _))
  have HGO := hid (fun w' (hw : Wr n n V w') => (gone_ (HM0.out _ (HT.out _ hw)) (HM1.out _ (HT.out _ hw)) : Calls Tryz.prog 58 #[.pointer (some ⟨m0, 0, none⟩), .pointer (some ⟨m, 0, none⟩)] w' _))
  have H6 := hid (fun w' (gs : List K) a cp (hg : gs.Perm (gonL ys xs)) (h' : Bd n n (mk2 ++ by8 z0 ++ by8 z1 ++ nB now) w') (hv : RK2 w' a gs) => (tellKeys_ h' gs a cp hv (gon_key HK0.out hg).1 (by simp only [List.length_append, by8_len]; show 8 + _ + _ + _ ≤ _; have := HL2.out; omega) (by have := (gon_key HK0.out hg).2; omega) : Calls Tryz.prog 57 #[.pointer (some ⟨n, 0, none⟩), .slice a gs.length cp] w' _))
  have HOT := hid (fun w' (hw : Wr n n V w') => (others_ (HM0.out _ (HT.out _ hw)) (HM1.out _ (HT.out _ hw)) : Calls Tryz.prog 59 #[.pointer (some ⟨m0, 0, none⟩), .pointer (some ⟨m, 0, none⟩)] w' _))
  have H7 := hid (fun w' (gs : List K) v (hg : gs.Perm (gonL ys xs)) (h' : Bd n n (mk2 ++ by8 z0 ++ by8 z1 ++ nB now ++ keysB gs) w') (hv : RN 60 w' v (othL ys xs)) => (tellEntries_ h' (othL ys xs) v hv HXO.out.1 (by have q := keysB_len (gon_key HK0.out hg).1 (gon_key HK0.out hg).2; simp only [List.length_append, by8_len]; show 8 + _ + _ + _ + _ ≤ _; have := HL2.out; omega) (by have := HXO.out.2; omega) : Calls Tryz.prog 37 #[.pointer (some ⟨n, 0, none⟩), v] w' _))
  have HKO := hid (fun w' (hw : Wr n n V w') => (pkeysOf_ (HM1.out _ (HT.out _ hw)) : Calls Tryz.prog 60 #[.pointer (some ⟨m, 0, none⟩)] w' _))
  have H8 := hid (fun w' (gs : List K) a cp (hg : gs.Perm (gonL ys xs)) (h' : Bd n n (mk2 ++ by8 z0 ++ by8 z1 ++ nB now ++ keysB gs ++ entsB (othL ys xs)) w') (hv : RK2 w' a (keysL xs)) => (tellKeys_ h' (keysL xs) a cp hv HXK.out.1 (by have q := keysB_len (gon_key HK0.out hg).1 (gon_key HK0.out hg).2; have q2 := entsB_len HXO.out.1 HXO.out.2; simp only [List.length_append, by8_len]; show 8 + _ + _ + _ + _ + _ ≤ _; have := HL2.out; omega) (by have := HXK.out.2; omega) : Calls Tryz.prog 57 #[.pointer (some ⟨n, 0, none⟩), .slice a (keysL xs).length cp] w' _))
  have HE : Hid (∀ gs, mk2 ++ by8 z0 ++ by8 z1 ++ nB now ++ keysB gs ++ entsB (othL ys xs) ++ keysB (keysL xs) = bodyQ c n0 ys now xs gs) := hid (fun gs => by unfold bodyQ; rw [← HZ.out.1, ← HZ.out.2]; simp only [List.append_assoc])
  have H9 := hid (fun w' gs (h' : Bd n n (bodyQ c n0 ys now xs gs) w') => (string_ h' (by unfold bodyQ mk2; simp) : Calls Tryz.prog 40 #[.pointer (some ⟨n, 0, none⟩)] w' _))
  have H10 := hid (fun w' gs (hg : gs.Perm (gonL ys xs)) => sealed_ w' ⟨(bodyQ c n0 ys now xs gs).toArray⟩ (by
    have q := keysB_len (gon_key HK0.out hg).1 (gon_key HK0.out hg).2
    have q2 := entsB_len HXO.out.1 HXO.out.2
    have q3 := keysB_len HXK.out.1 HXK.out.2
    show (bodyQ c n0 ys now xs gs).toArray.size ≤ _
    rw [List.size_toArray]
    unfold bodyQ
    simp only [List.length_append, by8_len]
    have := HL2.out
    show 8 + _ ≤ _
    omega))
  have s0 := Wr.refl n n V
  unfold PT at *
  clear l2 tV HC0 HC1 HN0 HN1
  go_upto_region 6 with fail
  rw [← hV]
  clear hV hsz
  go_upto_region 7 with (go_at_call 33; refine H1.out.mono ?_; rintro e w3 ⟨rfl, b1, s1⟩; clear s0 H1 b0)
  have b1' : Bd n n mk2 w3 := b1
  clear b1
  go_upto_region 8 with (first
    | (go_at_call 56; refine (HS0.out _ s1).mono ?_; rintro e w4 ⟨rfl, t4⟩; have s4 := s1.touch t4 HB.out; have b4 := b1'.touch t4; clear t4)
    | (go_at_call 55; refine (HSB.out _).mono ?_; rintro e w5 ⟨rfl, t5⟩; have s5 := s4.touch t5 HB.out; have b5 := b4.touch t5; clear t5)
    | (go_at_call 33; refine (HW.out _ _ _ b5 (by decide)).mono ?_; rintro e w6 ⟨rfl, b6, q6⟩; have s6 := s5.trans q6; clear q6 s1 s4 s5 b1' b4 b5))
  go_upto_region 9 with (first
    | (go_at_call 56; refine (HS1.out _ s6).mono ?_; rintro e w7 ⟨rfl, t7⟩; have s7 := s6.touch t7 HB.out; have b7 := b6.touch t7; clear t7)
    | (go_at_call 55; refine (HSB1.out _).mono ?_; rintro e w8 ⟨rfl, t8⟩; have s8 := s7.touch t8 HB.out; have b8 := b7.touch t8; clear t8)
    | (go_at_call 33; refine (HW.out _ _ _ b8 (by rw [List.length_append, by8_len]; decide)).mono ?_; rintro e w9 ⟨rfl, b9, q9⟩; have s9 := s8.trans q9; clear q9 s6 s7 s8 b6 b7 b8))
  go_upto_region 10 with (first
    | (go_at_call 22; refine (HN2.out _ s9).mono ?_; rintro e w10 ⟨rfl, e10⟩; rw [e10]; clear e10 w10)
    | (go_at_call 36; refine (H5.out _ b9).mono ?_; rintro e w11 ⟨rfl, b11, q11⟩; have s11 := s9.trans q11; clear q11 s9 b9))
  go_upto_region 11 with (first
    | (go_at_call 58; refine (HGO.out _ s11).mono ?_; rintro e w12 ⟨v12, gs, rfl, hg, hgs, o12, t12⟩; have HG := hid hg; have HGS := hid hgs; have o12' : w12.ownsRow w11.heap.size 54 2 v12 gs.length (kcs gs) := o12; obtain ⟨a12, c12, e12⟩ := own_form o12'; subst e12; have R12 := hid (rk2_own o12'); have s12 := s11.touch t12 HB.out; have b12 := b11.touch t12; clear o12 o12' t12 s11 b11 hg hgs)
    | (go_at_call 57; refine (H6.out _ gs _ _ HG.out b12 R12.out).mono ?_; rintro e w13 ⟨rfl, b13, q13⟩; have s13 := s12.trans q13; clear q13 s12 b12 R12))
  go_upto_region 12 with (first
    | (go_at_call 59; refine (HOT.out _ s13).mono ?_; rintro e w14 ⟨v14, rfl, o14, t14⟩; have R14 := hid (RN.own o14); have s14 := s13.touch t14 HB.out; have b14 := b13.touch t14; obtain ⟨a14, c14, e14⟩ := own_form o14; subst e14; clear o14 t14 s13 b13)
    | (go_at_call 37; refine (H7.out _ gs _ HG.out b14 R14.out).mono ?_; rintro e w15 ⟨rfl, b15, q15⟩; have s15 := s14.trans q15; clear q15 s14 b14 R14))
  go_upto_region 13 with (first
    | (go_at_call 60; refine (HKO.out _ s15).mono ?_; rintro e w16 ⟨v16, rfl, o16, t16⟩; have s16 := s15.touch t16 HB.out; have b16 := b15.touch t16; obtain ⟨a16, c16, e16⟩ := own_form o16; subst e16; have R16 := hid (rk2_own o16); clear o16 t16 s15 b15)
    | (go_at_call 57; refine (H8.out _ gs _ _ HG.out b16 R16.out).mono ?_; rintro e w17 ⟨rfl, b17, q17⟩; have s17 := s16.trans q17; rw [HE.out] at b17; clear q17 s16 b16 R16))
  go_wp2_with (first
    | (go_at_call 40; refine (H9.out _ gs b17).mono ?_; rintro e w18 ⟨rfl, q18⟩; have s18 := s17.trans q18; clear q18 s17 b17)
    | (go_at_call 39; refine (H10.out _ gs HG.out).mono ?_; rintro e w19 ⟨rfl, t19⟩; have T19 := hid t19; clear t19))
  go_ret2
  exact ⟨gs, HG.out, HGS.out, rfl, (HT.out _ s18).trans' T19.out⟩
end Go.Proofs.YtpefbmheblfbeaaGreat.Sn
