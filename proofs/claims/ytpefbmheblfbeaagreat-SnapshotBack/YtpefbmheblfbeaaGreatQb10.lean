/- The contracts of the program's placesOf, byKey, and of what a patch says of an old memo's entries (get, has); the keys may be, the lists have at most 70000. -/
import Derived.Test.YtpefbmheblfbeaaGreatQb09
import Derived.Test.YtpefbmheblfbeaaGreatQb08
import Derived.Test.YtpefbmheblfbeaaGreatQb05
namespace Go.Proofs.YtpefbmheblfbeaaGreat.Sn
open Go.RowKit Go.Sort Go.Shelf Go.Maps Go.ChangeMaps Me
set_option linter.unusedVariables false
set_option linter.unusedSimpArgs false
def Gm (w : World) (gb : Nat) (L : List K) : Prop := ∃ n f, Me.MapAt w gb n f ∧ n ≤ L.length ∧ ∀ k, Ok k → (f k).isSome = hs L k
def Om (w : World) (ob : Nat) (L : List En) : Prop := ∃ n f, Me.MapAt w ob n f ∧ n ≤ L.length ∧ ∀ k, Ok k → f k = (fnd L.reverse k).map (fun v => nv (k, v))
theorem Gm.kept {w w' : World} {gb : Nat} {L : List K} (h : Gm w gb L) (hk : w'.heap[gb]? = w.heap[gb]?) : Gm w' gb L := by
  obtain ⟨n, f, h1, h2, h3⟩ := h
  exact ⟨n, f, h1.kept hk, h2, h3⟩
theorem Om.kept {w w' : World} {gb : Nat} {L : List En} (h : Om w gb L) (hk : w'.heap[gb]? = w.heap[gb]?) : Om w' gb L := by
  obtain ⟨n, f, h1, h2, h3⟩ := h
  exact ⟨n, f, h1.kept hk, h2, h3⟩
theorem Gm.lt {w : World} {gb : Nat} {L : List K} (h : Gm w gb L) : gb < w.heap.size := by obtain ⟨n, f, h1, _⟩ := h; exact h1.lt
theorem Om.lt {w : World} {gb : Nat} {L : List En} (h : Om w gb L) : gb < w.heap.size := by obtain ⟨n, f, h1, _⟩ := h; exact h1.lt
theorem hs_snoc (L : List K) (k j : K) : hs (L ++ [k]) j = (hs L j || decide (k = j)) := by
  unfold hs
  rw [List.any_append]
  simp
theorem Gm.step {w : World} {gb : Nat} {L : List K} (h : Gm w gb L) (hl : L.length ≤ 70000) {k : K} (hk : Ok k) (v : Value) : ∃ ob, (Instr.mapUpdate 174 (.map (some gb)) (kv k) v).run Tryz.prog w = .ok () (setBlock w gb ob) ∧ Gm (setBlock w gb ob) gb (L ++ [k]) := by
  obtain ⟨n, f, h1, h2, h3⟩ := h
  obtain ⟨ob, h4, h5⟩ := h1.set (t := 174) Tryz.underlying174 (by unfold maxLen; omega) hk v
  refine ⟨ob, h4, _, _, h5, by rw [List.length_append]; simp; split <;> omega, fun j hj => ?_⟩
  rw [hs_snoc]
  unfold Me.upd
  by_cases e : j = k
  · rw [if_pos e, e]; simp
  · rw [if_neg e, h3 j hj]
    have : ¬ k = j := fun q => e q.symm
    simp [this]
theorem Om.step {w : World} {gb : Nat} {L : List En} (h : Om w gb L) (hl : L.length ≤ 70000) {x : En} (hk : Ok x.1) : ∃ ob, (Instr.mapUpdate 184 (.map (some gb)) (kv x.1) (nv x)).run Tryz.prog w = .ok () (setBlock w gb ob) ∧ Om (setBlock w gb ob) gb (L ++ [x]) := by
  obtain ⟨n, f, h1, h2, h3⟩ := h
  obtain ⟨ob, h4, h5⟩ := h1.set (t := 184) Tryz.underlying184 (by unfold maxLen; omega) hk (nv x)
  refine ⟨ob, h4, _, _, h5, by rw [List.length_append]; simp; split <;> omega, fun j hj => ?_⟩
  rw [List.reverse_append]
  simp only [List.reverse_cons, List.reverse_nil, List.nil_append, List.singleton_append, fnd]
  unfold Me.upd
  by_cases e : j = x.1
  · rw [if_pos e, if_pos e.symm, e]; rfl
  · rw [if_neg e, if_neg (fun q => e q.symm), h3 j hj]
set_option maxRecDepth 20000 in
set_option maxHeartbeats 2000000 in
theorem placesOf_ {w : World} {v : Value} {L : List K} (hv : Rs 54 2 w v L.length (kcs L)) (hok : ∀ k ∈ L, Ok k) (hl : L.length ≤ 70000) : Calls Tryz.prog 106 #[v] w fun e w' => ∃ gb, e = .returned (.map (some gb)) ∧ w.heap.size ≤ gb ∧ Touch [] w w' ∧ Gm w' gb L := by
  obtain ⟨a, c, ev, _⟩ := hv.form
  subst ev
  obtain ⟨V, hV⟩ : ∃ V, V = w.alloc (.map #[] 0) := ⟨_, rfl⟩
  obtain ⟨mb, hmb⟩ : ∃ mb, mb = w.heap.size := ⟨_, rfl⟩
  have T2 : Touch [] w V := by rw [hV]; exact (Touch.refl _ _).alloc _
  have HI0 : Hid (Touch [] w V ∧ Gm V mb (L.take 0)) := hid ⟨T2, 0, fun _ => none, by rw [hV, hmb]; exact Me.mapAt_made w, Nat.zero_le _, fun k _ => rfl⟩
  have HMB : Hid (w.heap.size ≤ mb) := hid (by omega)
  have HV := hid hv
  have HOK := hid hok
  have HL := hid hl
  obtain ⟨n, hn⟩ : ∃ n, n = L.length := ⟨_, rfl⟩
  rw [← hn]
  have HN := hid hn
  clear hn hv hok hl T2
  have hmm := @run_makeMap Tryz.prog
  go_enter Tryz.func106, Tryz.ntmps106
  go_upto_region 2 with fail
  rw [← hV]
  try rw [← hmb]
  clear hV hmb
  go_wp2_with fail
  go_loopw [9] (fun s9 wr => ∃ i : Nat, s9 = .int .i64 i ∧ i ≤ n ∧ Hid (Touch [] w wr ∧ Gm wr mb (L.take i))) (fun s9 _ => n - (intOf s9).toNat)
  case atStart => exact ⟨0, rfl, Nat.zero_le _, HI0⟩
  case round =>
    clear HI0
    obtain ⟨i, rfl, hi, HI⟩ := hrel
    have hnl : n ≤ 70000 := by have := HL.out; have := HN.out; omega
    by_cases hlt : i < n
    · have hz : (i : Int) < (n : Int) := by omega
      have hix : i < L.length := by rw [← HN.out]; exact hlt
      have hrs := HV.out.keep0 HI.out.1
      obtain ⟨g2, o2, rfl, k0⟩ := hrs.cell (kcs_at hix).1 (by omega)
      obtain ⟨g3, o3, e3, k1⟩ := hrs.cell (kcs_at hix).2 (by omega)
      cases e3
      rw [← Nat.add_assoc] at k1
      have hok := HOK.out L[i] (List.getElem_mem hix)
      have HTK : Hid (L.take (i + 1) = L.take i ++ [L[i]]) := hid (List.take_succ_eq_append_getElem hix)
      have HTL : Hid ((L.take i).length ≤ 70000) := hid (by rw [List.length_take]; omega)
      generalize L[i] = x at *
      obtain ⟨W1, hW1⟩ : ∃ W1, W1 = wr.alloc (.cells #[.int .u16 x.1, .string x.2] 54) := ⟨_, rfl⟩
      have tW : Touch [] wr W1 := by rw [hW1]; exact (Touch.refl _ _).alloc _
      have hbx : W1.heap[wr.heap.size]? = some (.cells #[.int .u16 x.1, .string x.2] 54 (0, 0)) := by rw [hW1]; exact heap_alloc_new wr _
      have x0 := cell_of (n := 0) hbx rfl
      have x1 := cell_of (n := 1) hbx rfl
      obtain ⟨ob, hup, hg⟩ := (HI.out.2.kept (tW.block mb HI.out.2.lt (by simp))).step HTL.out hok (.int .i64 i)
      have HZ : Hid (Touch [] w (setBlock W1 mb ob) ∧ Gm (setBlock W1 mb ob) mb (L.take (i + 1))) := hid ⟨touch_setBlock (HI.out.1.trans' tW) (Or.inr HMB.out) ob, by rw [HTK.out]; exact hg⟩
      have HLT := hid (And.intro hi hlt)
      unfold kv at hup
      clear hbx tW hix HI hg hrs hok
      go_upto_region 5 with fail
      rw [← hW1]
      clear hW1 k0 k1
      go_wp2_with fail
      go_roundw
      case rel => exact ⟨i + 1, by go_num, by have := HLT.out; omega, HZ⟩
      case measure => simp [intOf]; have := HLT.out; omega
    · have hz : ¬ (i : Int) < (n : Int) := by omega
      have HZ : Hid (Touch [] w wr ∧ Gm wr mb L) := hid ⟨HI.out.1, by have := HI.out.2; rwa [List.take_of_length_le (by have := HN.out; omega)] at this⟩
      clear HI
      go_wp2
      go_ret
      exact ⟨mb, rfl, HMB.out, HZ.out⟩
set_option maxRecDepth 20000 in
set_option maxHeartbeats 2000000 in
theorem byKey_ {w : World} {v : Value} {L : List En} {B : Nat} (hv : w.ownsRow B 60 7 v L.length (cellsN L)) (hok : ∀ x ∈ L, Ok x.1) (hl : L.length ≤ 70000) : Calls Tryz.prog 107 #[v] w fun e w' => ∃ gb, e = .returned (.map (some gb)) ∧ w.heap.size ≤ gb ∧ Touch [] w w' ∧ Om w' gb L := by
  obtain ⟨a, c, ev⟩ := own_form hv
  subst ev
  obtain ⟨V, hV⟩ : ∃ V, V = w.alloc (.map #[] 0) := ⟨_, rfl⟩
  obtain ⟨mb, hmb⟩ : ∃ mb, mb = w.heap.size := ⟨_, rfl⟩
  have T2 : Touch [] w V := by rw [hV]; exact (Touch.refl _ _).alloc _
  have HI0 : Hid (Touch [] w V ∧ Om V mb (L.take 0)) := hid ⟨T2, 0, fun _ => none, by rw [hV, hmb]; exact Me.mapAt_made w, Nat.zero_le _, fun k _ => rfl⟩
  have HMB : Hid (w.heap.size ≤ mb) := hid (by omega)
  have HV := hid hv
  have HOK := hid hok
  have HL := hid hl
  obtain ⟨n, hn⟩ : ∃ n, n = L.length := ⟨_, rfl⟩
  rw [← hn]
  have HN := hid hn
  clear hn hv hok hl T2
  have hmm := @run_makeMap Tryz.prog
  go_enter Tryz.func107, Tryz.ntmps107
  go_upto_region 2 with fail
  rw [← hV]
  try rw [← hmb]
  clear hV hmb
  go_wp2_with fail
  go_loopw [9] (fun s9 wr => ∃ i : Nat, s9 = .int .i64 i ∧ i ≤ n ∧ Hid (Touch [] w wr ∧ Om wr mb (L.take i))) (fun s9 _ => n - (intOf s9).toNat)
  case atStart => exact ⟨0, rfl, Nat.zero_le _, HI0⟩
  case round =>
    clear HI0
    obtain ⟨i, rfl, hi, HI⟩ := hrel
    have hnl : n ≤ 70000 := by have := HL.out; have := HN.out; omega
    by_cases hlt : i < n
    · have hz : (i : Int) < (n : Int) := by omega
      have hix : i < L.length := by rw [← HN.out]; exact hlt
      obtain ⟨g2, o2, rfl, k0, k1, k2, k3, k4, k5, k6⟩ := own7_cell (own_touch HV.out HI.out.1 (fun _ _ e => by cases e)) hix
      have hok := HOK.out L[i] (List.getElem_mem hix)
      have HTK : Hid (L.take (i + 1) = L.take i ++ [L[i]]) := hid (List.take_succ_eq_append_getElem hix)
      have HTL : Hid ((L.take i).length ≤ 70000) := hid (by rw [List.length_take]; omega)
      generalize L[i] = x at *
      obtain ⟨W1, hW1⟩ : ∃ W1, W1 = wr.alloc (.cells #[.int .u16 x.1.1, .string x.1.2, .int .i64 x.2.1.1, .int .i64 x.2.1.2.1, .int .i64 x.2.1.2.2.1, .int .i64 x.2.1.2.2.2, .int .i64 x.2.2] 60) := ⟨_, rfl⟩
      have tW : Touch [] wr W1 := by rw [hW1]; exact (Touch.refl _ _).alloc _
      have hbx : W1.heap[wr.heap.size]? = some (.cells #[.int .u16 x.1.1, .string x.1.2, .int .i64 x.2.1.1, .int .i64 x.2.1.2.1, .int .i64 x.2.1.2.2.1, .int .i64 x.2.1.2.2.2, .int .i64 x.2.2] 60 (0, 0)) := by rw [hW1]; exact heap_alloc_new wr _
      have x0 := cell_of (n := 0) hbx rfl
      have x1 := cell_of (n := 1) hbx rfl
      have x2 := cell_of (n := 2) hbx rfl
      have x3 := cell_of (n := 3) hbx rfl
      have x4 := cell_of (n := 4) hbx rfl
      have x5 := cell_of (n := 5) hbx rfl
      have x6 := cell_of (n := 6) hbx rfl
      obtain ⟨ob, hup, hg⟩ := (HI.out.2.kept (tW.block mb HI.out.2.lt (by simp))).step HTL.out hok
      have HZ : Hid (Touch [] w (setBlock W1 mb ob) ∧ Om (setBlock W1 mb ob) mb (L.take (i + 1))) := hid ⟨touch_setBlock (HI.out.1.trans' tW) (Or.inr HMB.out) ob, by rw [HTK.out]; exact hg⟩
      have HLT := hid (And.intro hi hlt)
      unfold kv nv at hup
      clear hbx tW hix HI hg hok
      go_upto_region 5 with fail
      rw [← hW1]
      clear hW1 k0 k1 k2 k3 k4 k5 k6
      go_wp2_with fail
      go_roundw
      case rel => exact ⟨i + 1, by go_num, by have := HLT.out; omega, HZ⟩
      case measure => simp [intOf]; have := HLT.out; omega
    · have hz : ¬ (i : Int) < (n : Int) := by omega
      have HZ : Hid (Touch [] w wr ∧ Om wr mb L) := hid ⟨HI.out.1, by have := HI.out.2; rwa [List.take_of_length_le (by have := HN.out; omega)] at this⟩
      clear HI
      go_wp2
      go_ret
      exact ⟨mb, rfl, HMB.out, HZ.out⟩
def getN (G : List K) (os ys : List En) (k : K) : Value × Bool := if hs G k = true then (nvz, false) else match fnd os.reverse k with
  | some v => (nv (k, v), true)
  | none => getS ys k
structure Nw (w : World) (m gb ob : Nat) (F : List Nat) (c : Cf) (now : Int) (ys : List En) (G : List K) (os : List En) : Prop where
  m : Mq w m F c now ys
  g : Gm w gb G
  o : Om w ob os
theorem Nw.keep0 {w w' : World} {m gb ob : Nat} {F : List Nat} {c : Cf} {now : Int} {ys : List En} {G : List K} {os : List En} (h : Nw w m gb ob F c now ys G os) (t : Touch [] w w') : Nw w' m gb ob F c now ys G os :=
  ⟨h.m.keep0 t, h.g.kept (t.block gb h.g.lt (by simp)), h.o.kept (t.block ob h.o.lt (by simp))⟩
theorem zeroK7 (w : World) : (zeroValue 60).run Tryz.prog w = .ok nvz w := Tryz.zeroValue60 w
theorem getN_form (G : List K) (os ys : List En) (k : K) : ∃ y0 y1 y2 y3 y4 y5 y6, (getN G os ys k).1 = .agg #[.int .u16 y0, .string y1, .int .i64 y2, .int .i64 y3, .int .i64 y4, .int .i64 y5, .int .i64 y6] := by
  unfold getN getS
  repeat' split
  all_goals exact ⟨_, _, _, _, _, _, _, rfl⟩
set_option maxRecDepth 20000 in
set_option maxHeartbeats 4000000 in
theorem nget_ {w : World} {m gb ob : Nat} {F : List Nat} {c : Cf} {now : Int} {ys : List En} {G : List K} {os : List En} (h : Nw w m gb ob F c now ys G os) (k : K) (hk : Ok k) : Calls Tryz.prog 109 #[newsV m gb ob, kv k] w fun e w' => e = .returned (.tuple #[(getN G os ys k).1, .bool (getN G os ys k).2]) ∧ Touch [] w w' := by
  obtain ⟨V, hV⟩ : ∃ V, V = ((w.alloc (.cells #[PT m, .map (some gb), .map (some ob)] 187)).alloc (.cells #[.int .u16 k.1, .string k.2] 54)).alloc (.cells #[.int .u16 0, .string ⟨#[]⟩, .int .i64 0, .int .i64 0, .int .i64 0, .int .i64 0, .int .i64 0] 60) := ⟨_, rfl⟩
  have TV : Touch [] w V := by rw [hV]; exact (((Touch.refl _ _).alloc _).alloc _).alloc _
  have hB0 : V.heap[w.heap.size]? = some (.cells #[PT m, .map (some gb), .map (some ob)] 187 (0, 0)) := by rw [hV]; exact ((Below.heap_alloc _ _ _ (by simp; omega)).trans (Below.heap_alloc _ _ _ (by simp))).trans (heap_alloc_new w _)
  have hB1 : V.heap[w.heap.size + 1]? = some (.cells #[.int .u16 k.1, .string k.2] 54 (0, 0)) := by
    rw [hV]
    have := heap_alloc_new (w.alloc (.cells #[PT m, .map (some gb), .map (some ob)] 187)) (.cells #[.int .u16 k.1, .string k.2] 54)
    rw [World.size_alloc] at this
    exact (Below.heap_alloc _ _ _ (by simp)).trans this
  have hB2 : V.heap[w.heap.size + 2]? = some (.cells #[.int .u16 0, .string ⟨#[]⟩, .int .i64 0, .int .i64 0, .int .i64 0, .int .i64 0, .int .i64 0] 60 (0, 0)) := by
    rw [hV]
    have := heap_alloc_new ((w.alloc (.cells #[PT m, .map (some gb), .map (some ob)] 187)).alloc (.cells #[.int .u16 k.1, .string k.2] 54)) (.cells #[.int .u16 0, .string ⟨#[]⟩, .int .i64 0, .int .i64 0, .int .i64 0, .int .i64 0, .int .i64 0] 60)
    rw [World.size_alloc, World.size_alloc] at this
    exact this
  have hN := h.keep0 TV
  obtain ⟨n1, f1, hf1, _, hs1⟩ := hN.g
  obtain ⟨n2, f2, hf2, _, hs2⟩ := hN.o
  have hl1 := hf1.lookOk (t := 174) Tryz.underlying174 (zero3 V) hk
  have hl2 := hf2.lookOk (t := 184) Tryz.underlying184 (zeroK7 V) hk
  rw [hs1 k hk] at hl1
  rw [hs2 k hk] at hl2
  have HTV := hid TV
  have HGt := hid (fun w' (t : Touch [] V w') => getM w' m F c now ys (hN.m.keep0 t) k hk)
  have a0 : V.cell? ⟨w.heap.size, 0, none⟩ = some (PT m) := cell_of hB0 rfl
  have a1 : V.cell? ⟨w.heap.size, 1, none⟩ = some (.map (some gb)) := cell_of hB0 rfl
  have a2 : V.cell? ⟨w.heap.size, 2, none⟩ = some (.map (some ob)) := cell_of hB0 rfl
  have b0 : V.cell? ⟨w.heap.size + 1, 0, none⟩ = some (.int .u16 k.1) := cell_of hB1 rfl
  have b1 : V.cell? ⟨w.heap.size + 1, 1, none⟩ = some (.string k.2) := cell_of hB1 rfl
  have z0 : V.cell? ⟨w.heap.size + 2, 0, none⟩ = some (.int .u16 0) := cell_of hB2 rfl
  have z1 : V.cell? ⟨w.heap.size + 2, 1, none⟩ = some (.string ⟨#[]⟩) := cell_of hB2 rfl
  have z2 : V.cell? ⟨w.heap.size + 2, 2, none⟩ = some (.int .i64 0) := cell_of hB2 rfl
  have z3 : V.cell? ⟨w.heap.size + 2, 3, none⟩ = some (.int .i64 0) := cell_of hB2 rfl
  have z4 : V.cell? ⟨w.heap.size + 2, 4, none⟩ = some (.int .i64 0) := cell_of hB2 rfl
  have z5 : V.cell? ⟨w.heap.size + 2, 5, none⟩ = some (.int .i64 0) := cell_of hB2 rfl
  have z6 : V.cell? ⟨w.heap.size + 2, 6, none⟩ = some (.int .i64 0) := cell_of hB2 rfl
  have zf : ∀ i, V.frozen? ⟨w.heap.size + 2, i, none⟩ = false := fun i => froz_at hB2 i
  have HB0 := hid hB0
  have HB1 := hid hB1
  have HB2 := hid hB2
  have HFin : Hid (∀ W' v0 v1 v2 v3 v4 v5 v6, Touch [] V W' → Touch [] w (((((((W'.setCell ⟨w.heap.size + 2, 0, none⟩ v0).setCell ⟨w.heap.size + 2, 1, none⟩ v1).setCell ⟨w.heap.size + 2, 2, none⟩ v2).setCell ⟨w.heap.size + 2, 3, none⟩ v3).setCell ⟨w.heap.size + 2, 4, none⟩ v4).setCell ⟨w.heap.size + 2, 5, none⟩ v5).setCell ⟨w.heap.size + 2, 6, none⟩ v6)) := hid (fun W' v0 v1 v2 v3 v4 v5 v6 t => (HTV.out.trans' t).trans (G := [w.heap.size + 2]) (tset7 _ _ _ _ _ _ _ _ _) (fun i hi => by simp only [List.mem_singleton] at hi; subst hi; exact Or.inr (by omega)))
  unfold newsV kv PT at *
  clear hB0 hB1 hB2 hN hf1 hf2 hs1 hs2 TV h
  cases hg : hs G k with
  | true =>
    have eN : getN G os ys k = (nvz, false) := by unfold getN; rw [if_pos hg]
    rw [eN]
    rw [hg] at hl1
    clear hl2 hg eN
    unfold nvz
    go_enter Tryz.func109, Tryz.ntmps109
    go_upto_region 1 with fail
    rw [← hV]
    clear hV
    go_wp2_with fail
    refine bodyPost_ret (v := .tuple #[.agg #[.int .u16 0, .string ⟨#[]⟩, .int .i64 0, .int .i64 0, .int .i64 0, .int .i64 0, .int .i64 0], .bool false]) (by simp [results, Tryz.results109, go_sem, z0, z1, z2, z3, z4, z5, z6]) rfl ⟨rfl, ?_⟩
    exact HFin.out V _ _ _ _ _ _ _ (Touch.refl _ _)
  | false =>
    rw [hg] at hl1
    cases ho : fnd os.reverse k with
    | some v =>
      have eN : getN G os ys k = (nv (k, v), true) := by unfold getN; rw [if_neg (by rw [hg]; simp), ho]
      rw [eN]
      rw [ho] at hl2
      simp only [Option.map_some, Option.getD_some, Option.isSome_some] at hl2
      clear hg eN ho
      unfold nv at *
      obtain ⟨W1, hW1⟩ : ∃ W1, W1 = V.alloc (.cells #[.int .u16 k.1, .string k.2, .int .i64 v.1.1, .int .i64 v.1.2.1, .int .i64 v.1.2.2.1, .int .i64 v.1.2.2.2, .int .i64 v.2] 60) := ⟨_, rfl⟩
      have tW : Touch [] V W1 := by rw [hW1]; exact (Touch.refl _ _).alloc _
      have hbx : W1.heap[V.heap.size]? = some (.cells #[.int .u16 k.1, .string k.2, .int .i64 v.1.1, .int .i64 v.1.2.1, .int .i64 v.1.2.2.1, .int .i64 v.1.2.2.2, .int .i64 v.2] 60 (0, 0)) := by rw [hW1]; exact heap_alloc_new V _
      have HTW := hid tW
      have x0 := cell_of (n := 0) hbx rfl
      have x1 := cell_of (n := 1) hbx rfl
      have x2 := cell_of (n := 2) hbx rfl
      have x3 := cell_of (n := 3) hbx rfl
      have x4 := cell_of (n := 4) hbx rfl
      have x5 := cell_of (n := 5) hbx rfl
      have x6 := cell_of (n := 6) hbx rfl
      have hz := tW.keep HB2.out (by simp)
      have y0 : W1.cell? ⟨w.heap.size + 2, 0, none⟩ = some (.int .u16 0) := cell_of hz rfl
      have y1 : W1.cell? ⟨w.heap.size + 2, 1, none⟩ = some (.string ⟨#[]⟩) := cell_of hz rfl
      have y2 : W1.cell? ⟨w.heap.size + 2, 2, none⟩ = some (.int .i64 0) := cell_of hz rfl
      have y3 : W1.cell? ⟨w.heap.size + 2, 3, none⟩ = some (.int .i64 0) := cell_of hz rfl
      have y4 : W1.cell? ⟨w.heap.size + 2, 4, none⟩ = some (.int .i64 0) := cell_of hz rfl
      have y5 : W1.cell? ⟨w.heap.size + 2, 5, none⟩ = some (.int .i64 0) := cell_of hz rfl
      have y6 : W1.cell? ⟨w.heap.size + 2, 6, none⟩ = some (.int .i64 0) := cell_of hz rfl
      have yf : ∀ i, W1.frozen? ⟨w.heap.size + 2, i, none⟩ = false := fun i => froz_at hz i
      clear tW hbx hz
      go_enter Tryz.func109, Tryz.ntmps109
      go_upto_region 1 with fail
      rw [← hV]
      clear hV
      go_upto_region 5 with fail
      rw [← hW1]
      clear hW1 a0 a1 a2 b0 b1 z0 z1 z2 z3 z4 z5 z6 zf hl1 hl2
      go_wp2_with fail
      refine bodyPost_ret (v := .tuple #[.agg #[.int .u16 k.1, .string k.2, .int .i64 v.1.1, .int .i64 v.1.2.1, .int .i64 v.1.2.2.1, .int .i64 v.1.2.2.2, .int .i64 v.2], .bool true]) (by simp [results, Tryz.results109, go_sem, y0, y1, y2, y3, y4, y5, y6]) rfl ⟨rfl, ?_⟩
      exact HFin.out W1 _ _ _ _ _ _ _ HTW.out
    | none =>
      have eN : getN G os ys k = getS ys k := by unfold getN; rw [if_neg (by rw [hg]; simp), ho]
      rw [eN]
      obtain ⟨W1, hW1⟩ : ∃ W1, W1 = V.alloc (.cells #[.int .u16 0, .string ⟨#[]⟩, .int .i64 0, .int .i64 0, .int .i64 0, .int .i64 0, .int .i64 0] 60) := ⟨_, rfl⟩
      have tW : Touch [] V W1 := by rw [hW1]; exact (Touch.refl _ _).alloc _
      have hbx : W1.heap[V.heap.size]? = some (.cells #[.int .u16 0, .string ⟨#[]⟩, .int .i64 0, .int .i64 0, .int .i64 0, .int .i64 0, .int .i64 0] 60 (0, 0)) := by rw [hW1]; exact heap_alloc_new V _
      have HTW := hid tW
      have HGt1 := hid (HGt.out W1 tW)
      have c0 := tW.keep HB0.out (by simp)
      have c1 := tW.keep HB1.out (by simp)
      have p0 : W1.cell? ⟨w.heap.size, 0, none⟩ = some (.pointer (some ⟨m, 0, none⟩)) := cell_of c0 rfl
      have p1 : W1.cell? ⟨w.heap.size + 1, 0, none⟩ = some (.int .u16 k.1) := cell_of c1 rfl
      have p2 : W1.cell? ⟨w.heap.size + 1, 1, none⟩ = some (.string k.2) := cell_of c1 rfl
      have hgf : ∃ q0 q1 q2 q3 q4 q5 q6, (getS ys k).1 = .agg #[.int .u16 q0, .string q1, .int .i64 q2, .int .i64 q3, .int .i64 q4, .int .i64 q5, .int .i64 q6] := by
        unfold getS
        split
        · exact ⟨_, _, _, _, _, _, _, rfl⟩
        · exact ⟨_, _, _, _, _, _, _, rfl⟩
      obtain ⟨q0, q1, q2, q3, q4, q5, q6, eg⟩ := hgf
      rw [eg] at HGt1 ⊢
      rw [ho] at hl2
      have hl2' : (Instr.lookup 184 (.map (some ob)) (.agg #[.int .u16 k.1, .string k.2]) true).run Tryz.prog V = .ok (.tuple #[.agg #[.int .u16 0, .string ⟨#[]⟩, .int .i64 0, .int .i64 0, .int .i64 0, .int .i64 0, .int .i64 0], .bool false]) V := hl2
      have HYS : Hid (∀ w', Touch [] V w' → w'.heap[w.heap.size + 2]? = some (.cells #[.int .u16 0, .string ⟨#[]⟩, .int .i64 0, .int .i64 0, .int .i64 0, .int .i64 0, .int .i64 0] 60 (0, 0))) := hid (fun w' t => t.keep HB2.out (by simp))
      clear tW hbx c0 c1 hl2 eg ho hg eN
      generalize (getS ys k).2 = bb at *
      go_enter Tryz.func109, Tryz.ntmps109
      go_upto_region 1 with fail
      rw [← hV]
      clear hV
      go_upto_region 5 with fail
      rw [← hW1]
      clear hW1 a0 a1 a2 b0 b1 z0 z1 z2 z3 z4 z5 z6 zf hl1 hl2'
      go_wp2_with (go_at_call 90; refine HGt1.out.mono ?_; rintro e w2 ⟨rfl, t2⟩; have T2 := hid (HTW.out.trans' t2); have hz := HYS.out w2 T2.out; have y0 : w2.cell? ⟨w.heap.size + 2, 0, none⟩ = some (.int .u16 0) := cell_of hz rfl; have y1 : w2.cell? ⟨w.heap.size + 2, 1, none⟩ = some (.string ⟨#[]⟩) := cell_of hz rfl; have y2 : w2.cell? ⟨w.heap.size + 2, 2, none⟩ = some (.int .i64 0) := cell_of hz rfl; have y3 : w2.cell? ⟨w.heap.size + 2, 3, none⟩ = some (.int .i64 0) := cell_of hz rfl; have y4 : w2.cell? ⟨w.heap.size + 2, 4, none⟩ = some (.int .i64 0) := cell_of hz rfl; have y5 : w2.cell? ⟨w.heap.size + 2, 5, none⟩ = some (.int .i64 0) := cell_of hz rfl; have y6 : w2.cell? ⟨w.heap.size + 2, 6, none⟩ = some (.int .i64 0) := cell_of hz rfl; have yf : ∀ i, w2.frozen? ⟨w.heap.size + 2, i, none⟩ = false := fun i => froz_at hz i; clear hz t2)
      refine bodyPost_ret (v := .tuple #[.agg #[.int .u16 q0, .string q1, .int .i64 q2, .int .i64 q3, .int .i64 q4, .int .i64 q5, .int .i64 q6], .bool bb]) (by simp [results, Tryz.results109, go_sem, y0, y1, y2, y3, y4, y5, y6]) rfl ⟨rfl, ?_⟩
      exact HFin.out w2 _ _ _ _ _ _ _ T2.out
theorem nhas_ {w : World} {m gb ob : Nat} {F : List Nat} {c : Cf} {now : Int} {ys : List En} {G : List K} {os : List En} (h : Nw w m gb ob F c now ys G os) (k : K) (hk : Ok k) : Calls Tryz.prog 108 #[newsV m gb ob, kv k] w fun e w' => e = .returned (.bool (getN G os ys k).2) ∧ Touch [] w w' := by
  obtain ⟨V, hV⟩ : ∃ V, V = (w.alloc (.cells #[PT m, .map (some gb), .map (some ob)] 187)).alloc (.cells #[.int .u16 k.1, .string k.2] 54) := ⟨_, rfl⟩
  have TV : Touch [] w V := by rw [hV]; exact ((Touch.refl _ _).alloc _).alloc _
  have hB0 : V.heap[w.heap.size]? = some (.cells #[PT m, .map (some gb), .map (some ob)] 187 (0, 0)) := by rw [hV]; exact (Below.heap_alloc _ _ _ (by simp)).trans (heap_alloc_new w _)
  have hB1 : V.heap[w.heap.size + 1]? = some (.cells #[.int .u16 k.1, .string k.2] 54 (0, 0)) := by
    rw [hV]
    have := heap_alloc_new (w.alloc (.cells #[PT m, .map (some gb), .map (some ob)] 187)) (.cells #[.int .u16 k.1, .string k.2] 54)
    rw [World.size_alloc] at this
    exact this
  have HN := hid (nget_ (h.keep0 TV) k hk)
  obtain ⟨q0, q1, q2, q3, q4, q5, q6, eg⟩ := getN_form G os ys k
  rw [eg] at HN
  have a0 : V.cell? ⟨w.heap.size, 0, none⟩ = some (PT m) := cell_of hB0 rfl
  have a1 : V.cell? ⟨w.heap.size, 1, none⟩ = some (.map (some gb)) := cell_of hB0 rfl
  have a2 : V.cell? ⟨w.heap.size, 2, none⟩ = some (.map (some ob)) := cell_of hB0 rfl
  have b0 : V.cell? ⟨w.heap.size + 1, 0, none⟩ = some (.int .u16 k.1) := cell_of hB1 rfl
  have b1 : V.cell? ⟨w.heap.size + 1, 1, none⟩ = some (.string k.2) := cell_of hB1 rfl
  have HTV := hid TV
  generalize (getN G os ys k).2 = bb at *
  unfold newsV kv PT at *
  clear h hk eg hB0 hB1 TV
  go_enter Tryz.func108, Tryz.ntmps108
  go_upto_region 1 with fail
  rw [← hV]
  clear hV
  go_wp2_with (go_at_call 109; refine HN.out.mono ?_; rintro e w2 ⟨rfl, t2⟩; have T2 := hid (HTV.out.trans' t2); clear t2)
  go_ret
  exact ⟨rfl, T2.out.alloc _⟩
end Go.Proofs.YtpefbmheblfbeaaGreat.Sn
/- What an outcome's reading comes to, case by case, as the document's takeEntry goes: behind an error, at the text's end, at a kind that may not be, at a value, at a failure. -/
namespace Go.Proofs.YtpefbmheblfbeaaGreat.Sn
open Go.RowKit Go.Sort Go.Shelf Me
set_option linter.unusedVariables false
set_option linter.unusedSimpArgs false
theorem numR_bad {s : ByteArray} {x : Rd} (h : ¬ x.er = 0) (a b : Int) : numR s x a b = (x, 0) := by unfold numR; rw [if_pos h]
theorem outR_bad {s : ByteArray} {x : Rd} (h : ¬ x.er = 0) (c : Cf) : (outR s x c).1 = x := by
  have hk : (kindR s x c).1 = x := by
    unfold kindR
    split
    · exact passS_bad h _ _
    · exact passS_bad h _ _
  unfold outR sigR
  rw [hk]
  split
  · rw [numR_bad h]
  · rw [numR_bad h, numR_bad h]
theorem outR_no {s : ByteArray} {x : Rd} (h : x.er = 0) (c : Cf) (hk : kindR s x c = (⟨x.at_, 200⟩, 0)) : (outR s x c).1 = ⟨x.at_, 200⟩ := by
  unfold outR sigR
  rw [hk]
  simp only [if_true]
  rw [numR_bad (by simp)]
theorem outR_end {s : ByteArray} {x : Rd} (h : x.er = 0) (c : Cf) (he : s.size ≤ x.at_.toNat) : (outR s x c).1 = ⟨x.at_, 200⟩ := by
  refine outR_no h c ?_
  unfold kindR
  rw [List.getElem?_eq_none (by simpa using he)]
  simp [passS_ok h]
theorem outR_val {s : ByteArray} {x : Rd} (h : x.er = 0) (c : Cf) {b : UInt8} (hb : s.data.toList[x.at_.toNat]? = some b) (hk : keepB c b.toNat = true) (h0 : b.toNat = 0) : outR s x c = ((numR s ⟨x.at_ + 1, 0⟩ 0 18446744073709551615).1, (uns (numR s ⟨x.at_ + 1, 0⟩ 0 18446744073709551615).2, 0, 0, 0)) := by
  have e : kindR s x c = (⟨x.at_ + 1, 0⟩, 0) := by
    unfold kindR
    rw [hb]
    simp only [passS_ok h, passB_ok h, hk, if_true]
    rw [h0]
    rfl
  unfold outR sigR
  rw [e]
  simp
theorem outR_fail {s : ByteArray} {x : Rd} (h : x.er = 0) (c : Cf) {b : UInt8} (hb : s.data.toList[x.at_.toNat]? = some b) (hk : keepB c b.toNat = true) (h0 : ¬ b.toNat = 0) : outR s x c = ((numR s (numR s ⟨x.at_ + 1, 0⟩ 0 18446744073709551615).1 1 9223372036854775807).1, (0, (b.toNat : Int), uns (numR s ⟨x.at_ + 1, 0⟩ 0 18446744073709551615).2, (numR s (numR s ⟨x.at_ + 1, 0⟩ 0 18446744073709551615).1 1 9223372036854775807).2)) := by
  have e : kindR s x c = (⟨x.at_ + 1, 0⟩, (b.toNat : Int)) := by
    unfold kindR
    rw [hb]
    simp only [passS_ok h, passB_ok h, hk, if_true]
  unfold outR sigR
  rw [e]
  simp only
  rw [if_neg (by omega)]
end Go.Proofs.YtpefbmheblfbeaaGreat.Sn
/- Of what was read without an error a memo may be made: the configuration is one, the time is one, the keys are unlike, the outcomes are right and kept, their times are not behind. -/
namespace Go.Proofs.YtpefbmheblfbeaaGreat.Sn
open Go.RowKit Go.Sort Go.Shelf Me
set_option linter.unusedVariables false
set_option linter.unusedSimpArgs false
theorem ofL_zero (c : Cf) (now : Int) : ∀ (L D : List En) (i : Int), (∀ pre x post, L = pre ++ x :: post → nxE c now (D ++ pre) x = 0) → ofL c now D L i = (0, 0)
  | [], D, i, h => rfl
  | x :: L, D, i, h => by
    unfold ofL
    have h0 := h [] x L rfl
    rw [List.append_nil] at h0
    rw [if_neg (by simpa using h0)]
    exact ofL_zero c now L (D ++ [x]) (i + 1) (fun pre y post e => by
      rw [List.append_assoc]
      exact h (x :: pre) y post (by rw [e]; rfl))
end Go.Proofs.YtpefbmheblfbeaaGreat.Sn
/- The way back, plain: what a number's, a key's and an outcome's bytes are read as; no program. -/
namespace Go.Proofs.YtpefbmheblfbeaaGreat.Sn
open Go.RowKit Me
set_option linter.unusedVariables false
def At (s : ByteArray) (k : Nat) (l : List UInt8) : Prop := ∃ r, s.data.toList.drop k = l ++ r
theorem At.fst {s : ByteArray} {k : Nat} {l m : List UInt8} (h : At s k (l ++ m)) : At s k l := by
  obtain ⟨r, e⟩ := h
  exact ⟨m ++ r, by rw [e, List.append_assoc]⟩
theorem At.snd {s : ByteArray} {k : Nat} {l m : List UInt8} (h : At s k (l ++ m)) : At s (k + l.length) m := by
  obtain ⟨r, e⟩ := h
  refine ⟨r, ?_⟩
  rw [← List.drop_drop, e, List.append_assoc, List.drop_left]
theorem At.le {s : ByteArray} {k : Nat} {l : List UInt8} (h : At s k l) (hl : l ≠ []) : k + l.length ≤ s.size := by
  obtain ⟨r, e⟩ := h
  have h1 := congrArg List.length e
  rw [List.length_drop, List.length_append] at h1
  have h2 : s.data.toList.length = s.size := by simp
  have h3 : 0 < l.length := List.length_pos_iff.2 hl
  omega
theorem pow9 : (128 : Nat) ^ 9 = 9223372036854775808 := by decide
theorem takeG_num : ∀ (f x : Nat), x ≤ f → ∀ (i y : Nat) (r : List UInt8), x * 128 ^ i < 18446744073709551616 → (0 < x ∨ i = 0) → i ≤ 9 → takeG (numL x ++ r) i y = some (y + x * 128 ^ i, i + (numL x).length) := by
  intro f
  induction f with
  | zero =>
    intro x hx i y r h1 h2 h3
    have e : x = 0 := by omega
    subst e
    rw [numL_end (by omega)]
    have hi : i = 0 := by omega
    subst hi
    rw [List.singleton_append, takeG_last (by omega) (by decide)]
    simp [lastB]
  | succ f ih =>
    intro x hx i y r h1 h2 h3
    by_cases h : 128 ≤ x
    · rw [numL_go h]
      have hb : (UInt8.ofNat (x % 128 + 128)).toNat = x % 128 + 128 := by rw [UInt8.toNat_ofNat']; omega
      have h9 : i + 1 ≤ 9 := by
        refine Classical.byContradiction fun hn => ?_
        have e : i = 9 := by omega
        subst e
        have := Nat.mul_le_mul_right (128 ^ 9) h
        rw [pow9] at h1 this
        omega
      have hp : x / 128 * 128 ^ (i + 1) ≤ x * 128 ^ i := by
        rw [Nat.pow_succ, Nat.mul_comm (128 ^ i), ← Nat.mul_assoc]
        exact Nat.mul_le_mul_right _ (Nat.div_mul_le_self x 128)
      rw [List.cons_append, takeG_more (by omega) (by rw [hb]; omega), hb, ih (x / 128) (by omega) (i + 1) _ r (by omega) (Or.inl (by omega)) h9]
      have e1 : (x % 128 + 128) % 128 = x % 128 := by omega
      have e2 : x % 128 * 128 ^ i + x / 128 * 128 ^ (i + 1) = x * 128 ^ i := by
        rw [Nat.pow_succ, Nat.mul_comm (128 ^ i), ← Nat.mul_assoc, ← Nat.add_mul]
        congr 1
        omega
      rw [e1, Nat.add_assoc, e2, List.length_cons]
      congr 2
      omega
    · rw [numL_end h]
      have hb : (UInt8.ofNat x).toNat = x := by rw [UInt8.toNat_ofNat']; omega
      rw [List.singleton_append, takeG_last (by omega) (by rw [hb]; omega), hb]
      have hl : lastB x i = true := by
        unfold lastB
        by_cases e : i = 9
        · subst e
          rw [if_pos rfl]
          rw [pow9] at h1
          exact decide_eq_true (by omega)
        · rw [if_neg e]
          rcases h2 with h2 | h2
          · simp [h2]
          · simp [h2]
      rw [hl, if_pos rfl]
      rfl
theorem takeAt_num {s : ByteArray} {k x : Nat} (h : At s k (numL x)) (hx : x < 18446744073709551616) : takeAt s (k : Int) = some (x, (numL x).length) := by
  obtain ⟨r, e⟩ := h
  unfold takeAt takeN
  rw [if_neg (by omega), show ((k : Int)).toNat = k by omega, e, takeG_num x x (Nat.le_refl _) 0 0 r (by omega) (Or.inr rfl) (by omega)]
  simp
theorem numR_back {s : ByteArray} {k : Nat} {n a b : Int} (h : At s k (nB n)) (h0 : 0 ≤ n) (h1 : n < 18446744073709551616) (ha : a ≤ n) (hb : n ≤ b) : numR s ⟨k, 0⟩ a b = (⟨((k + (nB n).length : Nat) : Int), 0⟩, n) := by
  unfold numR
  rw [if_neg (by simp)]
  have e := takeAt_num h (by omega)
  simp only [e]
  have en : ((n.toNat : Nat) : Int) = n := by omega
  rw [en, if_pos ⟨ha, hb⟩]
  simp [nB]
theorem uns_sgn (n : Int) : uns (sgn n) = n := by
  unfold uns sgn
  split <;> split <;> omega
theorem sigR_back {s : ByteArray} {k : Nat} {n : Int} (h : At s k (sgB n)) (h0 : -9223372036854775808 ≤ n) (h1 : n ≤ 9223372036854775807) : sigR s ⟨k, 0⟩ = (⟨((k + (sgB n).length : Nat) : Int), 0⟩, n) := by
  obtain ⟨q0, q1⟩ := sgn_b h0 h1
  unfold sigR
  rw [numR_back (a := 0) (b := 18446744073709551615) h q0 q1 q0 (by omega), uns_sgn]
  rfl
theorem byt_nat {x : Int} (h0 : 0 ≤ x) (h1 : x < 256) : ((byt x).toNat : Int) = x := by
  unfold byt
  rw [UInt8.toNat_ofNat']
  omega
theorem takK_back {s : ByteArray} {k : Nat} {q : K} (h : At s k (keyB q)) (h0 : 0 ≤ q.1) (h1 : q.1 ≤ 65535) (h2 : q.2.size ≤ 64) : takK s (k : Int) = some (q, ((k + (keyB q).length : Nat) : Int)) := by
  obtain ⟨r, e⟩ := h
  unfold takK
  rw [if_neg (by omega), show ((k : Int)).toNat = k by omega, e]
  have ek : keyB q = byt (q.1 % 256) :: byt (q.1 / 256) :: byt ((q.2.size : Int) % 256) :: q.2.data.toList := by
    unfold keyB hd3
    rw [data_app]
    simp
  have hn : (byt ((q.2.size : Int) % 256)).toNat = q.2.size := by
    have := byt_nat (x := (q.2.size : Int) % 256) (by omega) (by omega)
    omega
  rw [ek]
  simp only [List.cons_append]
  have hl : q.2.data.toList.length = q.2.size := by simp
  rw [hn, if_neg (by rw [List.length_append, hl]; omega)]
  have et : (q.2.data.toList ++ r).take q.2.size = q.2.data.toList := by rw [← hl, List.take_left]
  rw [et]
  have e1 := byt_nat (x := q.1 % 256) (by omega) (by omega)
  have e2 := byt_nat (x := q.1 / 256) (by omega) (by omega)
  rw [e1, e2]
  congr 2
  · refine Prod.ext ?_ ?_
    · show q.1 % 256 + 256 * (q.1 / 256) = q.1
      omega
    · rfl
  · simp
    omega
end Go.Proofs.YtpefbmheblfbeaaGreat.Sn
/- The way back, plain: entries and a whole memo's bytes are read as what was told; no program. -/
namespace Go.Proofs.YtpefbmheblfbeaaGreat.Sn
open Go.RowKit Me
set_option linter.unusedVariables false
theorem At.head {s : ByteArray} {k : Nat} {b : UInt8} {l : List UInt8} (h : At s k (b :: l)) : s.data.toList[k]? = some b := by
  obtain ⟨r, e⟩ := h
  have h1 := congrArg (fun l => l[0]?) e
  simpa using h1
theorem At.tail {s : ByteArray} {k : Nat} {b : UInt8} {l : List UInt8} (h : At s k (b :: l)) : At s (k + 1) l := At.snd (l := [b]) h
theorem cast1 (k : Nat) : ((k : Nat) : Int) + 1 = ((k + 1 : Nat) : Int) := by push_cast; rfl
theorem outR_back {s : ByteArray} {k : Nat} {o : O} {c : Cf} (h : At s k (outB o)) (hr : right o = true) (hk : keepsC c o = true) (v : -9223372036854775808 ≤ o.1 ∧ o.1 ≤ 9223372036854775807) (cd : -9223372036854775808 ≤ o.2.2.1 ∧ o.2.2.1 ≤ 9223372036854775807) (rn : o.2.2.2 ≤ 9223372036854775807) :
    outR s ⟨k, 0⟩ c = (⟨((k + (outB o).length : Nat) : Int), 0⟩, o) := by
  obtain ⟨⟨kd0, kd2⟩, r0⟩ := right_k hr hk
  unfold outB at h ⊢
  by_cases h0 : o.2.1 = 0
  · rw [if_pos h0] at h ⊢
    rw [List.singleton_append] at h
    have hb := h.head
    have hs := h.tail
    have hkb : keepB c (0 : UInt8).toNat = true := by
      unfold keepB keepsC at *
      rw [if_pos h0] at hk
      split at hk
      · cases hk
      · simpa using hk
    have e := outR_val (s := s) (x := ⟨(k : Int), 0⟩) rfl c (b := 0) (by simpa using hb) hkb rfl
    rw [e]
    have e2 := sigR_back hs v.1 v.2
    unfold sigR at e2
    rw [Prod.mk.injEq] at e2
    simp only [cast1]
    rw [e2.1, e2.2]
    have e3 := (right_none hr).1 h0
    simp only [Prod.mk.injEq] at e3
    refine Prod.ext ?_ ?_
    · simp
      omega
    · refine Prod.ext rfl (Prod.ext ?_ (Prod.ext ?_ ?_))
      · exact e3.1.symm
      · exact e3.2.1.symm
      · exact e3.2.2.symm
  · rw [if_neg h0] at h ⊢
    rw [List.singleton_append] at h
    have hb := h.head
    have hs := h.tail
    have hn : (UInt8.ofNat o.2.1.toNat).toNat = o.2.1.toNat := by rw [UInt8.toNat_ofNat']; omega
    have hkb : keepB c (UInt8.ofNat o.2.1.toNat).toNat = true := by
      rw [hn]
      unfold keepB
      rw [if_neg (by omega), if_pos (by omega)]
      unfold keepsC at hk
      by_cases he : c.e = 0
      · rw [if_pos he] at hk; cases hk
      · rw [if_neg he, if_neg h0] at hk
        by_cases h1 : o.2.1 = 1
        · rw [if_pos h1] at hk; exact hk
        · rw [if_neg h1, if_pos (by omega)] at hk; exact hk
    have e := outR_fail (s := s) (x := ⟨(k : Int), 0⟩) rfl c (b := UInt8.ofNat o.2.1.toNat) (by simpa using hb) hkb (by rw [hn]; omega)
    rw [e]
    have e2 := sigR_back hs.fst cd.1 cd.2
    unfold sigR at e2
    rw [Prod.mk.injEq] at e2
    simp only [cast1]
    rw [e2.1, e2.2]
    have hr' := hr
    unfold right at hr'
    rw [Bool.and_eq_true] at hr'
    have r1 : 1 ≤ o.2.2.2 := by
      have h2 := hr'.1
      unfold mayF at h2
      rw [if_neg h0] at h2
      by_cases h1 : o.2.1 = 1
      · rw [if_pos h1] at h2; exact of_decide_eq_true h2
      · rw [if_neg h1, if_pos (by omega)] at h2; exact of_decide_eq_true h2
    have v0 : o.1 = 0 := by
      have h2 := hr'.2
      unfold nonF at h2
      simpa [h0] using h2
    have e4 := numR_back (a := 1) (b := 9223372036854775807) hs.snd (by omega) (by omega) r1 rn
    rw [e4]
    refine Prod.ext ?_ ?_
    · simp
      omega
    · refine Prod.ext ?_ (Prod.ext ?_ rfl)
      · exact v0.symm
      · show ((UInt8.ofNat o.2.1.toNat).toNat : Int) = o.2.1
        rw [hn]
        omega
theorem keyR_back {s : ByteArray} {k : Nat} {q : K} {A : List K} (h : At s k (keyB q)) (h0 : 0 ≤ q.1) (h1 : q.1 ≤ 65535) (h2 : q.2.size ≤ 64) (hn : hs A q = false) : keyR s ⟨k, 0⟩ A = (⟨((k + (keyB q).length : Nat) : Int), 0⟩, q) := by
  unfold keyR
  simp only [takK_back h h0 h1 h2, hn]
  rw [passS_ok rfl, passB_ok rfl]
  rfl
structure Bk (c : Cf) (now : Int) (xs : List En) : Prop where
  oc : okC c = true
  n0 : 0 ≤ now
  n1 : now ≤ 4611686018427387904
  mm : MmOk c now xs
  rt : ∀ x ∈ xs, right x.2.1 = true
  kp : ∀ x ∈ xs, keepsC c x.2.1 = true
  tm : ∀ x ∈ xs, x.2.2 ≤ now
  ln : (xs.length : Int) ≤ c.e
  nd : (keysL xs).Nodup
theorem entR_back {s : ByteArray} {k : Nat} {x : En} {c : Cf} {now : Int} {A : List K} (h : At s k (entB x)) (hx : EnOk x) (hr : right x.2.1 = true) (hk : keepsC c x.2.1 = true) (ht : x.2.2 ≤ now) (hn : hs A x.1 = false) : entR s ⟨k, 0⟩ c now A = (⟨((k + (entB x).length : Nat) : Int), 0⟩, x) := by
  unfold entB at h ⊢
  have e1 := keyR_back (A := A) h.fst hx.s0 hx.s1 hx.nm hn
  have e2 := numR_back (a := 0) (b := now) h.snd.fst hx.t0 (by have := hx.t1; omega) hx.t0 ht
  have e3 := outR_back h.snd.snd hr hk hx.v hx.c hx.r.2
  unfold entR
  rw [e1, e2, e3]
  refine Prod.ext ?_ rfl
  simp
  omega
theorem entsR_back {s : ByteArray} {c : Cf} {now : Int} : ∀ (xs : List En) (k : Nat) (L : List En), At s k (xs.flatMap entB) → (∀ x ∈ xs, EnOk x ∧ right x.2.1 = true ∧ keepsC c x.2.1 = true ∧ x.2.2 ≤ now) → (keysL (L ++ xs)).Nodup → entsR s c now xs.length ⟨k, 0⟩ L = (⟨((k + (xs.flatMap entB).length : Nat) : Int), 0⟩, L ++ xs)
  | [], k, L, _, _, _ => by simp [entsR]
  | x :: xs, k, L, h, hx, hn => by
    rw [List.flatMap_cons] at h
    obtain ⟨x1, x2, x3, x4⟩ := hx x (by simp)
    have hnm : hs (keysL L) x.1 = false := hs_no (fun hm => by
      unfold keysL at hn hm
      rw [List.map_append, List.map_cons, List.nodup_append] at hn
      exact hn.2.2 _ hm _ (by simp) rfl)
    rw [List.length_cons, entsR, if_pos rfl, entR_back h.fst x1 x2 x3 x4 hnm]
    have ih := entsR_back xs (k + (entB x).length) (L ++ [x]) h.snd (fun y hy => hx y (by simp [hy])) (by simpa [List.append_assoc] using hn)
    rw [ih, List.flatMap_cons, List.length_append, List.append_assoc, Nat.add_assoc]
    rfl
theorem cfgR_back {s : ByteArray} {k : Nat} {c : Cf} (h : At s k (cfgB c)) (hc : okC c = true) (ho : CfOk c) : cfgR s ⟨k, 0⟩ = (⟨((k + (cfgB c).length : Nat) : Int), 0⟩, c) := by
  unfold okC at hc
  have hc := of_decide_eq_true hc
  unfold cfgB at h ⊢
  have t := ho.t; have n := ho.n; have s' := ho.s; have d := ho.d
  have e0 := numR_back (a := 0) (b := 9223372036854775807) h.fst (by omega) (by omega) (by omega) (by omega)
  have e1 := numR_back (a := 0) (b := 9223372036854775807) h.snd.fst (by omega) (by omega) (by omega) (by omega)
  have e2 := numR_back (a := 0) (b := 9223372036854775807) h.snd.snd.fst (by omega) (by omega) (by omega) (by omega)
  have e3 := numR_back (a := 0) (b := 65536) h.snd.snd.snd.fst (by omega) (by omega) (by omega) (by omega)
  have e4 := numR_back (a := 1) (b := 4096) h.snd.snd.snd.snd.fst (by omega) (by omega) (by omega) (by omega)
  have e5 := numR_back (a := 1) (b := 1024) h.snd.snd.snd.snd.snd.fst (by omega) (by omega) (by omega) (by omega)
  have e6 := numR_back (a := 0) (b := 9223372036854775807) h.snd.snd.snd.snd.snd.snd (by omega) (by omega) (by omega) (by omega)
  unfold cfgR
  simp only [e0, e1, e2, e3, e4, e5, e6]
  refine Prod.ext ?_ rfl
  simp
  omega
end Go.Proofs.YtpefbmheblfbeaaGreat.Sn
/- The way back, plain: a whole memo's bytes are read as what was told; no program. -/
namespace Go.Proofs.YtpefbmheblfbeaaGreat.Sn
open Go.RowKit Me
set_option linter.unusedVariables false
def tellS (c : Cf) (now : Int) (xs : List En) : ByteArray := ⟨(tellB c now xs).toArray⟩
theorem tellS_data (c : Cf) (now : Int) (xs : List En) : (tellS c now xs).data.toList = bodyB c now xs ++ by8 (sumL (bodyB c now xs)) := by
  unfold tellS tellB sealB
  simp
theorem tellS_size (c : Cf) (now : Int) (xs : List En) : (tellS c now xs).size = (bodyB c now xs).length + 8 := by
  have h := congrArg List.length (tellS_data c now xs)
  rw [List.length_append, by8_len] at h
  have h2 : (tellS c now xs).data.toList.length = (tellS c now xs).size := by simp
  omega
theorem tellS_at (c : Cf) (now : Int) (xs : List En) : At (tellS c now xs) 0 (bodyB c now xs) := ⟨by8 (sumL (bodyB c now xs)), by rw [List.drop_zero, tellS_data]⟩
theorem rd1_back (c : Cf) (now : Int) (xs : List En) : rd1 (tellS c now xs) = ⟨((8 : Nat) : Int), 0⟩ := by
  unfold rd1 markR
  have hp : prefB ((tellS c now xs).data.toList.drop (0 : Int).toNat) mk1 = true := by
    unfold prefB
    refine decide_eq_true ?_
    rw [show (0 : Int).toNat = 0 from rfl, List.drop_zero, tellS_data]
    unfold bodyB
    rw [List.append_assoc, List.take_left]
  simp only [hp]
  rw [passS_ok rfl, if_pos rfl]
  rfl
section
variable {c : Cf} {now : Int} {xs : List En}
theorem rd2_back (h : Bk c now xs) : rd2 (tellS c now xs) = (⟨((8 + (cfgB c).length : Nat) : Int), 0⟩, c) := by
  unfold rd2
  rw [rd1_back]
  have ha := tellS_at c now xs
  unfold bodyB at ha
  have h1 := ha.snd.fst
  rw [Nat.zero_add, show mk1.length = 8 from rfl] at h1
  exact cfgR_back h1 h.oc h.mm.c
theorem rd3_back (h : Bk c now xs) : rd3 (tellS c now xs) = (⟨((8 + (cfgB c).length + (nB now).length : Nat) : Int), 0⟩, now) := by
  unfold rd3
  rw [rd2_back h]
  have ha := tellS_at c now xs
  unfold bodyB at ha
  have h1 := ha.snd.snd.fst
  rw [Nat.zero_add, show mk1.length = 8 from rfl] at h1
  have n0 := h.n0
  have n1 := h.n1
  exact numR_back h1 n0 (by omega) n0 n1
theorem rd4_back (h : Bk c now xs) : rd4 (tellS c now xs) = (⟨((bodyB c now xs).length : Nat), 0⟩, xs) := by
  have ha := tellS_at c now xs
  unfold bodyB at ha
  have h1 := ha.snd.snd.snd
  rw [Nat.zero_add, show mk1.length = 8 from rfl] at h1
  unfold entsB at h1
  have hl := h.ln
  have e1 := numR_back (a := 0) (b := c.e) h1.fst (by omega) (by have := h.mm.l; omega) (by omega) hl
  have e2 := entsR_back (c := c) (now := now) xs _ [] h1.snd (fun x hx => ⟨h.mm.x x hx, h.rt x hx, h.kp x hx, h.tm x hx⟩) (by simpa using h.nd)
  unfold rd4
  rw [rd3_back h, rd2_back h]
  simp only
  rw [e1]
  simp only
  rw [show ((xs.length : Nat) : Int).toNat = xs.length by omega, e2]
  refine Prod.ext ?_ (by simp)
  unfold bodyB entsB
  have e8 : mk1.length = 8 := rfl
  simp only [List.length_append, e8]
  congr 1
  omega
theorem finR_back (h : Bk c now xs) : finR (tellS c now xs) (rd4 (tellS c now xs)).1 = (rd4 (tellS c now xs)).1 := by
  rw [rd4_back h]
  have hz := tellS_size c now xs
  unfold finR
  rw [if_neg (by simp), if_neg (by simp only; omega)]
  have e : ((((bodyB c now xs).length : Nat) : Int)).toNat = (bodyB c now xs).length := by omega
  simp only [e]
  rw [tellS_data, List.drop_left, List.take_left]
  have hv := val8_by8 (sumL (bodyB c now xs)) (sumL_lt _) []
  rw [List.append_nil] at hv
  rw [hv, if_neg (by simp), if_neg (by omega)]
theorem rd5_back (h : Bk c now xs) : (rd5 (tellS c now xs)).er = 0 := by
  unfold rd5
  rw [(end_fin _ _).1, finR_back h, rd4_back h]
end
theorem Bk.of {c : Cf} {now : Int} {xs : List En} (h : (ofP c now xs).2 = 0) (wc : Wc c) (wn : W64 now) (hx : ∀ x ∈ xs, Ok x.1 ∧ Wo x.2.1 ∧ W64 x.2.2) (nd : (keysL xs).Nodup) : Bk c now xs := by
  obtain ⟨mm, rt⟩ := made_ok h wc wn hx
  have h' := h
  unfold ofP at h'
  cases ho : okC c with
  | false => rw [ho] at h'; simp at h'
  | true =>
    cases hi : isT now with
    | false => rw [ho, hi] at h'; simp at h'
    | true =>
      rw [ho, hi] at h'
      by_cases he : c.e < (xs.length : Int)
      · simp [he] at h'
      · simp [he] at h'
        have q := ofL_ok xs [] 0 h'
        unfold isT at hi
        rw [Bool.and_eq_true] at hi
        exact ⟨ho, of_decide_eq_true hi.1, of_decide_eq_true hi.2, mm, rt, fun x hx => (q x hx).2.2.2.2, fun x hx => (q x hx).2.2.2.1, by omega, nd⟩
end Go.Proofs.YtpefbmheblfbeaaGreat.Sn
/- The way back, plain: of a beginning of a memo's bytes that is not all of them, the error is that of bytes; no program. -/
namespace Go.Proofs.YtpefbmheblfbeaaGreat.Sn
open Go.RowKit Me
set_option linter.unusedVariables false
structure Pre (s p : ByteArray) (cut : Nat) : Prop where
  e : p.data.toList = s.data.toList.take cut
  l : cut ≤ s.size
theorem Pre.size {s p : ByteArray} {cut : Nat} (h : Pre s p cut) : p.size = cut := by
  have h1 := congrArg List.length h.e
  rw [List.length_take] at h1
  have h2 : p.data.toList.length = p.size := by simp
  have h3 : s.data.toList.length = s.size := by simp
  have := h.l
  omega
theorem Pre.drop {s p : ByteArray} {cut k : Nat} (h : Pre s p cut) : p.data.toList.drop k = (s.data.toList.drop k).take (cut - k) := by
  rw [h.e, List.drop_take]
theorem takeG_cut : ∀ (l : List UInt8) (i y : Nat) (v n : Nat), takeG l i y = some (v, n) → ∀ m, takeG (l.take m) i y = if n ≤ i + m then some (v, n) else none
  | [], i, y, v, n, h, m => by rw [takeG_nil] at h; cases h
  | b :: l, i, y, v, n, h, m => by
    cases m with
    | zero =>
      have q := (takeG_b _ _ _ _ h).1
      simp only at q
      rw [List.take_zero, takeG_nil, if_neg (by omega)]
    | succ m =>
      rw [List.take_succ_cons]
      by_cases hi : i < 10
      · by_cases hb : b.toNat < 128
        · rw [takeG_last hi hb] at h ⊢
          cases hl : lastB b.toNat i with
          | false => rw [hl] at h; cases h
          | true =>
            rw [hl, if_pos rfl] at h
            cases h
            rw [if_pos rfl, if_pos (by omega)]
        · rw [takeG_more hi hb] at h ⊢
          rw [takeG_cut l (i + 1) _ v n h m, show i + 1 + m = i + (m + 1) by omega]
      · rw [takeG, if_pos (by omega)] at h
        cases h
theorem takeAt_cut {s p : ByteArray} {cut k x n : Nat} (hp : Pre s p cut) (h : takeAt s (k : Int) = some (x, n)) (hk : k ≤ cut) : takeAt p (k : Int) = if k + n ≤ cut then some (x, n) else none := by
  unfold takeAt takeN at *
  rw [if_neg (by omega)] at h ⊢
  rw [show ((k : Int)).toNat = k by omega] at h ⊢
  rw [hp.drop, takeG_cut _ 0 0 x n h (cut - k)]
  by_cases hc : k + n ≤ cut
  · rw [if_pos hc, if_pos (by omega)]
  · rw [if_neg hc, if_neg (by omega)]
def Ct (cut : Nat) (x : Rd) (k : Nat) : Prop := (x = ⟨(k : Int), 0⟩ ∧ k ≤ cut) ∨ x.er = 200
theorem numR_cut {s p : ByteArray} {cut k : Nat} {n a b : Int} {x : Rd} (hp : Pre s p cut) (hx : Ct cut x k) (h : At s k (nB n)) (h0 : 0 ≤ n) (h1 : n < 18446744073709551616) (ha : a ≤ n) (hb : n ≤ b) :
    Ct cut (numR p x a b).1 (k + (nB n).length) ∧ ((numR p x a b).1.er = 0 → (numR p x a b).2 = n) := by
  rcases hx with ⟨rfl, hk⟩ | hx
  · have e := takeAt_cut hp (takeAt_num h (by omega)) hk
    unfold numR
    rw [if_neg (by simp)]
    simp only [e]
    by_cases hc : k + (numL n.toNat).length ≤ cut
    · rw [if_pos hc]
      have en : ((n.toNat : Nat) : Int) = n := by omega
      simp only [en]
      rw [if_pos ⟨ha, hb⟩]
      exact ⟨Or.inl ⟨by simp [nB], hc⟩, fun _ => rfl⟩
    · rw [if_neg hc]
      exact ⟨Or.inr rfl, fun z => by simp at z⟩
  · rw [numR_bad (by omega)]
    exact ⟨Or.inr hx, fun z => by simp only at z; omega⟩
theorem takK_cut {s p : ByteArray} {cut k : Nat} {q : K} (hp : Pre s p cut) (h : At s k (keyB q)) (h0 : 0 ≤ q.1) (h1 : q.1 ≤ 65535) (h2 : q.2.size ≤ 64) (hk : k ≤ cut) : takK p (k : Int) = if k + (keyB q).length ≤ cut then some (q, ((k + (keyB q).length : Nat) : Int)) else none := by
  have hl : (keyB q).length = 3 + q.2.size := keyB_len q
  by_cases hc : k + (keyB q).length ≤ cut
  · rw [if_pos hc]
    refine takK_back ?_ h0 h1 h2
    obtain ⟨r, e⟩ := h
    exact ⟨r.take (cut - k - (keyB q).length), by rw [hp.drop, e, List.take_append, List.take_of_length_le (by omega)]⟩
  · rw [if_neg hc]
    obtain ⟨r, e⟩ := h
    have ek : keyB q = byt (q.1 % 256) :: byt (q.1 / 256) :: byt ((q.2.size : Int) % 256) :: q.2.data.toList := by
      unfold keyB hd3
      rw [data_app]
      simp
    have hn : (byt ((q.2.size : Int) % 256)).toNat = q.2.size := by
      have := byt_nat (x := (q.2.size : Int) % 256) (by omega) (by omega)
      omega
    by_cases h3 : cut - k < 3
    · exact takK_early (Or.inr (by rw [hp.size]; omega))
    · obtain ⟨m, hm⟩ : ∃ m, cut - k = m + 3 := ⟨cut - k - 3, by omega⟩
      unfold takK
      rw [if_neg (by omega), show ((k : Int)).toNat = k by omega, hp.drop, e, hm, ek]
      simp only [List.cons_append, List.take_succ_cons]
      rw [hn, if_pos (Or.inr (by rw [List.length_take]; omega))]
theorem keyR_bad {s : ByteArray} {x : Rd} (h : x.er = 200) (A : List K) : (keyR s x A).1.er = 200 := by
  have hb : ¬ x.er = 0 := by omega
  unfold keyR
  split
  · split
    · rw [passS_bad hb]; exact h
    · rw [passS_bad hb]; exact h
  · rw [passS_bad hb]; exact h
theorem keyR_cut {s p : ByteArray} {cut k : Nat} {q : K} {x : Rd} {A : List K} (hp : Pre s p cut) (hx : Ct cut x k) (h : At s k (keyB q)) (h0 : 0 ≤ q.1) (h1 : q.1 ≤ 65535) (h2 : q.2.size ≤ 64) (hn : hs A q = false) :
    Ct cut (keyR p x A).1 (k + (keyB q).length) ∧ ((keyR p x A).1.er = 0 → (keyR p x A).2 = q) := by
  rcases hx with ⟨rfl, hk⟩ | hx
  · have e := takK_cut hp h h0 h1 h2 hk
    unfold keyR
    simp only [e]
    by_cases hc : k + (keyB q).length ≤ cut
    · simp only [if_pos hc, hn]
      rw [passS_ok rfl, passB_ok rfl]
      exact ⟨Or.inl ⟨rfl, hc⟩, fun _ => rfl⟩
    · simp only [if_neg hc]
      rw [passS_ok rfl]
      exact ⟨Or.inr rfl, fun z => by simp at z⟩
  · exact ⟨Or.inr (keyR_bad hx A), fun z => by rw [keyR_bad hx A] at z; omega⟩
theorem outR_bad2 {s : ByteArray} {x : Rd} (h : x.er = 200) (c : Cf) : (outR s x c).1.er = 200 := by rw [outR_bad (by omega)]; exact h
theorem outR_cut {s p : ByteArray} {cut k : Nat} {o : O} {c : Cf} {x : Rd} (hp : Pre s p cut) (hx : Ct cut x k) (h : At s k (outB o)) (hr : right o = true) (hk : keepsC c o = true) (v : -9223372036854775808 ≤ o.1 ∧ o.1 ≤ 9223372036854775807) (cd : -9223372036854775808 ≤ o.2.2.1 ∧ o.2.2.1 ≤ 9223372036854775807) (rn : o.2.2.2 ≤ 9223372036854775807) :
    Ct cut (outR p x c).1 (k + (outB o).length) := by
  rcases hx with ⟨rfl, hkc⟩ | hx
  · have hne : outB o ≠ [] := by unfold outB; split <;> simp
    have hle := h.le hne
    by_cases hc : k < cut
    · -- the kind's byte is there
      have hbyte : ∀ b l, outB o = b :: l → p.data.toList[k]? = some b := fun b l e => by
        rw [e] at h
        rw [hp.e, List.getElem?_take, if_pos hc]
        exact h.head
      obtain ⟨⟨kd0, kd2⟩, r0⟩ := right_k hr hk
      by_cases h0 : o.2.1 = 0
      · have eo : outB o = 0 :: sgB o.1 := by unfold outB; rw [if_pos h0]; rfl
        have hkb : keepB c (0 : UInt8).toNat = true := by
          unfold keepB keepsC at *
          rw [if_pos h0] at hk
          split at hk
          · cases hk
          · simpa using hk
        have e := outR_val (s := p) (x := ⟨(k : Int), 0⟩) rfl c (b := 0) (by simpa using hbyte _ _ eo) hkb rfl
        obtain ⟨q0, q1⟩ := sgn_b v.1 v.2
        rw [eo] at h
        have z := (numR_cut (x := ⟨((k + 1 : Nat) : Int), 0⟩) (a := 0) (b := 18446744073709551615) hp (Or.inl ⟨rfl, hc⟩) h.tail q0 q1 q0 (by omega)).1
        rw [e, eo]
        simp only [cast1, List.length_cons]
        rw [show k + ((sgB o.1).length + 1) = k + 1 + (nB (sgn o.1)).length by unfold sgB; omega]
        exact z
      · have eo : outB o = UInt8.ofNat o.2.1.toNat :: (sgB o.2.2.1 ++ nB o.2.2.2) := by unfold outB; rw [if_neg h0]; rfl
        have hn : (UInt8.ofNat o.2.1.toNat).toNat = o.2.1.toNat := by rw [UInt8.toNat_ofNat']; omega
        have hkb : keepB c (UInt8.ofNat o.2.1.toNat).toNat = true := by
          rw [hn]
          unfold keepB
          rw [if_neg (by omega), if_pos (by omega)]
          unfold keepsC at hk
          by_cases he : c.e = 0
          · rw [if_pos he] at hk; cases hk
          · rw [if_neg he, if_neg h0] at hk
            by_cases h1 : o.2.1 = 1
            · rw [if_pos h1] at hk; exact hk
            · rw [if_neg h1, if_pos (by omega)] at hk; exact hk
        have e := outR_fail (s := p) (x := ⟨(k : Int), 0⟩) rfl c (b := UInt8.ofNat o.2.1.toNat) (by simpa using hbyte _ _ eo) hkb (by rw [hn]; omega)
        obtain ⟨q0, q1⟩ := sgn_b cd.1 cd.2
        have r1 : 1 ≤ o.2.2.2 := by
          have hr' := hr
          unfold right at hr'
          rw [Bool.and_eq_true] at hr'
          have h2 := hr'.1
          unfold mayF at h2
          rw [if_neg h0] at h2
          by_cases h1 : o.2.1 = 1
          · rw [if_pos h1] at h2; exact of_decide_eq_true h2
          · rw [if_neg h1, if_pos (by omega)] at h2; exact of_decide_eq_true h2
        rw [eo] at h
        have z := (numR_cut (x := ⟨((k + 1 : Nat) : Int), 0⟩) (a := 0) (b := 18446744073709551615) hp (Or.inl ⟨rfl, hc⟩) h.tail.fst q0 q1 q0 (by omega)).1
        have z2 := (numR_cut (a := 1) (b := 9223372036854775807) hp z h.tail.snd (by omega) (by omega) r1 rn).1
        rw [e, eo]
        simp only [cast1, List.length_cons, List.length_append]
        rw [show k + ((sgB o.2.2.1).length + (nB o.2.2.2).length + 1) = k + 1 + (nB (sgn o.2.2.1)).length + (nB o.2.2.2).length by unfold sgB; omega]
        exact z2
    · refine Or.inr ?_
      rw [outR_end rfl c (by rw [hp.size]; simp only; omega)]
  · exact Or.inr (outR_bad2 hx c)
theorem entR_cut {s p : ByteArray} {cut k : Nat} {x : En} {c : Cf} {now : Int} {A : List K} {y : Rd} (hp : Pre s p cut) (hy : Ct cut y k) (h : At s k (entB x)) (hx : EnOk x) (hr : right x.2.1 = true) (hk : keepsC c x.2.1 = true) (ht : x.2.2 ≤ now) (hn : hs A x.1 = false) :
    Ct cut (entR p y c now A).1 (k + (entB x).length) ∧ ((entR p y c now A).1.er = 0 → (entR p y c now A).2.1 = x.1) := by
  unfold entB at h
  obtain ⟨z1, v1⟩ := keyR_cut (A := A) hp hy h.fst hx.s0 hx.s1 hx.nm hn
  obtain ⟨z2, v2⟩ := numR_cut (a := 0) (b := now) hp z1 h.snd.fst hx.t0 (by have := hx.t1; omega) hx.t0 ht
  have z3 := outR_cut hp z2 h.snd.snd hr hk hx.v hx.c hx.r.2
  unfold entR entB
  rw [List.length_append, List.length_append, show k + ((keyB x.1).length + ((nB x.2.2).length + (outB x.2.1).length)) = k + (keyB x.1).length + (nB x.2.2).length + (outB x.2.1).length by omega]
  exact ⟨z3, fun e => v1 (numR_er (outR_er e))⟩
theorem entsR_cut {s p : ByteArray} {cut : Nat} {c : Cf} {now : Int} (hp : Pre s p cut) : ∀ (xs : List En) (k : Nat) (L : List En) (ks : List K) (y : Rd), Ct cut y k → At s k (xs.flatMap entB) → (∀ x ∈ xs, EnOk x ∧ right x.2.1 = true ∧ keepsC c x.2.1 = true ∧ x.2.2 ≤ now) → keysL L = ks → (ks ++ keysL xs).Nodup → Ct cut (entsR p c now xs.length y L).1 (k + (xs.flatMap entB).length)
  | [], k, L, ks, y, hy, _, _, _, _ => by simpa [entsR] using hy
  | x :: xs, k, L, ks, y, hy, h, hx, hL, hn => by
    rw [List.flatMap_cons] at h
    obtain ⟨x1, x2, x3, x4⟩ := hx x (by simp)
    have hnm : hs (keysL L) x.1 = false := hs_no (fun hm => by
      rw [hL] at hm
      unfold keysL at hn
      rw [List.map_cons, List.nodup_append] at hn
      exact hn.2.2 _ hm _ (by simp) rfl)
    rw [List.length_cons, entsR]
    by_cases he : y.er = 0
    · rw [if_pos he]
      obtain ⟨z1, v1⟩ := entR_cut (A := keysL L) hp hy h.fst x1 x2 x3 x4 hnm
      rw [List.flatMap_cons, List.length_append, ← Nat.add_assoc]
      by_cases he2 : (entR p y c now (keysL L)).1.er = 0
      · refine entsR_cut hp xs _ _ (ks ++ [x.1]) _ z1 h.snd (fun y hy => hx y (by simp [hy])) ?_ ?_
        · have ek : ∀ e : En, keysL (L ++ [e]) = keysL L ++ [e.1] := fun e => by simp [keysL]
          rw [ek, v1 he2, hL]
        · simpa [keysL, List.append_assoc] using hn
      · rw [entsR_bad p c now _ _ _ he2]
        rcases z1 with ⟨e, _⟩ | z1
        · rw [e] at he2; simp at he2
        · exact Or.inr z1
    · rw [if_neg he]
      rcases hy with ⟨e, _⟩ | hy
      · rw [e] at he; simp at he
      · exact Or.inr hy
theorem markR_cut {s p : ByteArray} {cut : Nat} {l : List UInt8} (hp : Pre s p cut) (h : At s 0 (mk1 ++ l)) : Ct cut (rd1 p) 8 := by
  unfold rd1 markR
  obtain ⟨r, e⟩ := h
  rw [List.drop_zero] at e
  by_cases hc : 8 ≤ cut
  · have hpf : prefB (p.data.toList.drop (0 : Int).toNat) mk1 = true := by
      unfold prefB
      refine decide_eq_true ?_
      rw [show (0 : Int).toNat = 0 from rfl, List.drop_zero, hp.e, List.take_take, show min mk1.length cut = mk1.length from Nat.min_eq_left hc, e, List.append_assoc, List.take_left]
    simp only [hpf]
    rw [passS_ok rfl, if_pos rfl]
    exact Or.inl ⟨rfl, hc⟩
  · have hpf : prefB (p.data.toList.drop (0 : Int).toNat) mk1 = false := prefB_short (by
      rw [show (0 : Int).toNat = 0 from rfl, List.drop_zero]
      have h2 : p.data.toList.length = p.size := by simp
      have h3 := hp.size
      show _ < 8
      omega)
    simp only [hpf]
    rw [passS_ok rfl, if_neg (by simp)]
    exact Or.inr rfl
theorem cfgR_cut {s p : ByteArray} {cut k : Nat} {c : Cf} {x : Rd} (hp : Pre s p cut) (hx : Ct cut x k) (h : At s k (cfgB c)) (hc : okC c = true) (ho : CfOk c) : Ct cut (cfgR p x).1 (k + (cfgB c).length) ∧ ((cfgR p x).1.er = 0 → (cfgR p x).2 = c) := by
  unfold okC at hc
  have hc := of_decide_eq_true hc
  unfold cfgB at h
  have t := ho.t; have n := ho.n; have s' := ho.s; have d := ho.d
  obtain ⟨z0, v0⟩ := numR_cut (a := 0) (b := 9223372036854775807) hp hx h.fst (by omega) (by omega) (by omega) (by omega)
  obtain ⟨z1, v1⟩ := numR_cut (a := 0) (b := 9223372036854775807) hp z0 h.snd.fst (by omega) (by omega) (by omega) (by omega)
  obtain ⟨z2, v2⟩ := numR_cut (a := 0) (b := 9223372036854775807) hp z1 h.snd.snd.fst (by omega) (by omega) (by omega) (by omega)
  obtain ⟨z3, v3⟩ := numR_cut (a := 0) (b := 65536) hp z2 h.snd.snd.snd.fst (by omega) (by omega) (by omega) (by omega)
  obtain ⟨z4, v4⟩ := numR_cut (a := 1) (b := 4096) hp z3 h.snd.snd.snd.snd.fst (by omega) (by omega) (by omega) (by omega)
  obtain ⟨z5, v5⟩ := numR_cut (a := 1) (b := 1024) hp z4 h.snd.snd.snd.snd.snd.fst (by omega) (by omega) (by omega) (by omega)
  obtain ⟨z6, v6⟩ := numR_cut (a := 0) (b := 9223372036854775807) hp z5 h.snd.snd.snd.snd.snd.snd (by omega) (by omega) (by omega) (by omega)
  unfold cfgR cfgB
  simp only
  refine ⟨?_, fun e6 => ?_⟩
  · simp only [List.length_append]
    rw [show k + ((nB c.t).length + ((nB c.n).length + ((nB c.s).length + ((nB c.e).length + ((nB c.f).length + ((nB c.b).length + (nB c.d).length)))))) = k + (nB c.t).length + (nB c.n).length + (nB c.s).length + (nB c.e).length + (nB c.f).length + (nB c.b).length + (nB c.d).length by omega]
    exact z6
  · have e5 := numR_er e6
    have e4 := numR_er e5
    have e3 := numR_er e4
    have e2 := numR_er e3
    have e1 := numR_er e2
    have e0 := numR_er e1
    rw [v0 e0, v1 e1, v2 e2, v3 e3, v4 e4, v5 e5, v6 e6]
theorem finR_200 {s : ByteArray} {x : Rd} (h : x.er = 200) : (finR s x).er = 200 := by
  unfold finR
  rw [if_pos (by omega)]
  exact h
theorem rd5_cut {c : Cf} {now : Int} {xs : List En} {p : ByteArray} {cut : Nat} (h : Bk c now xs) (hp : Pre (tellS c now xs) p cut) (hc : cut < (tellS c now xs).size) : (rd5 p).er = 200 := by
  have hat := tellS_at c now xs
  unfold bodyB at hat
  have a1 := markR_cut hp hat
  have b1 := hat.snd
  rw [Nat.zero_add, show mk1.length = 8 from rfl] at b1
  obtain ⟨a2, v2⟩ := cfgR_cut hp a1 b1.fst h.oc h.mm.c
  have n0 := h.n0
  have n1 := h.n1
  have hl := h.ln
  obtain ⟨a3, v3⟩ := numR_cut (a := 0) (b := 4611686018427387904) hp a2 b1.snd.fst n0 (by omega) n0 n1
  have b3 := b1.snd.snd
  unfold entsB at b3
  have key : Ct cut (rd4 p).1 (bodyB c now xs).length := by
    unfold rd4
    by_cases e3 : (rd3 p).1.er = 0
    · have e2 : (rd2 p).1.er = 0 := numR_er e3
      have w2 : (rd2 p).2 = c := v2 e2
      have w3 : (rd3 p).2 = now := v3 e3
      rw [w2, w3]
      obtain ⟨a4, v4⟩ := numR_cut (a := 0) (b := c.e) hp a3 b3.fst (by omega) (by have := h.mm.l; omega) (by omega) hl
      have a4' : Ct cut (numR p (rd3 p).1 0 c.e).1 (8 + (cfgB c).length + (nB now).length + (nB (xs.length : Int)).length) := a4
      have v4' : (numR p (rd3 p).1 0 c.e).1.er = 0 → (numR p (rd3 p).1 0 c.e).2 = (xs.length : Int) := v4
      have hlen : (bodyB c now xs).length = 8 + (cfgB c).length + (nB now).length + (nB (xs.length : Int)).length + (xs.flatMap entB).length := by
        unfold bodyB entsB
        have e8 : mk1.length = 8 := rfl
        simp only [List.length_append, e8]
        omega
      by_cases e4 : (numR p (rd3 p).1 0 c.e).1.er = 0
      · rw [v4' e4, show ((xs.length : Nat) : Int).toNat = xs.length by omega, hlen]
        exact entsR_cut hp xs _ [] [] _ a4' b3.snd (fun x hx => ⟨h.mm.x x hx, h.rt x hx, h.kp x hx, h.tm x hx⟩) rfl (by simpa using h.nd)
      · rw [entsR_bad p c now _ _ _ e4]
        rcases a4' with ⟨e, _⟩ | z
        · rw [e] at e4; simp at e4
        · exact Or.inr z
    · have z3 : (rd3 p).1.er = 200 := by
        rcases a3 with ⟨e, _⟩ | z
        · exact absurd (by show (numR p (rd2 p).1 0 4611686018427387904).1.er = 0; rw [show rd2 p = cfgR p (rd1 p) from rfl, e]) e3
        · exact z
      have z4 : numR p (rd3 p).1 0 (rd2 p).2.e = ((rd3 p).1, 0) := numR_bad e3 _ _
      rw [z4, entsR_bad p _ _ _ _ _ e3]
      exact Or.inr z3
  unfold rd5
  rw [(end_fin _ _).1]
  rcases key with ⟨e, hk⟩ | z
  · rw [e]
    have hz := tellS_size c now xs
    unfold finR
    rw [if_neg (by simp), if_pos (by rw [hp.size]; simp only; omega)]
  · exact finR_200 z
end Go.Proofs.YtpefbmheblfbeaaGreat.Sn
/- The way back of a patch, plain: what is read of a patch's bytes, and what comes out of it; no program. -/
namespace Go.Proofs.YtpefbmheblfbeaaGreat.Sn
open Go.RowKit Me
set_option linter.unusedVariables false
def mk2 : List UInt8 := [99, 111, 110, 118, 111, 121, 112, 49]
def fndN (G : List K) (os ys : List En) (k : K) : Option V := if hs G k = true then none else match fnd os.reverse k with
  | some v => some v
  | none => fnd ys k
def entN (G : List K) (os ys : List En) (k : K) : En := match fndN G os ys k with
  | some v => (k, v)
  | none => (zk, ((0, 0, 0, 0), 0))
theorem getS_has (ys : List En) (k : K) : (getS ys k).2 = hs (keysL ys) k := by
  unfold getS
  by_cases h : k ∈ keysL ys
  · obtain ⟨v, e, _⟩ := fnd_some h
    rw [e, hs_yes h]
  · rw [fnd_none h, hs_no h]
def pt1 (s : ByteArray) : Rd := markR s ⟨0, 0⟩ mk2
def pt2 (s : ByteArray) : Rd × Nat := sumR s (pt1 s)
def pt3 (s : ByteArray) : Rd × Nat := sumR s (pt2 s).1
def pt4 (s : ByteArray) (n0 : Int) : Rd × Int := numR s (pt3 s).1 n0 4611686018427387904
def pt5 (s : ByteArray) (c : Cf) (n0 : Int) (ys : List En) : Rd × List K := lstR s (pt4 s n0).1 c.e (fun k => (getS ys k).2)
def pt6 (s : ByteArray) (c : Cf) (n0 : Int) (ys : List En) : Rd × List En := entsR s c (pt4 s n0).2 (numR s (pt5 s c n0 ys).1 0 c.e).2.toNat (numR s (pt5 s c n0 ys).1 0 c.e).1 []
def pt7 (s : ByteArray) (c : Cf) (n0 : Int) (ys : List En) : Rd × List K := lstR s (pt6 s c n0 ys).1 c.e (fun k => (fndN (pt5 s c n0 ys).2 (pt6 s c n0 ys).2 ys k).isSome)
def pt8 (s : ByteArray) (c : Cf) (n0 : Int) (ys : List En) : Rd := endR s (pt7 s c n0 ys).1
def pt9 (s : ByteArray) (c : Cf) (n0 : Int) (ys : List En) : List En := (pt7 s c n0 ys).2.map (entN (pt5 s c n0 ys).2 (pt6 s c n0 ys).2 ys)
def bodyQ (c : Cf) (n0 : Int) (ys : List En) (now : Int) (xs : List En) (gs : List K) : List UInt8 := mk2 ++ (by8 (smM c n0 ys) ++ (by8 (smM c now xs) ++ (nB now ++ (keysB gs ++ (entsB (othL ys xs) ++ keysB (keysL xs))))))
def patS (c : Cf) (n0 : Int) (ys : List En) (now : Int) (xs : List En) (gs : List K) : ByteArray := ⟨(sealB (bodyQ c n0 ys now xs gs)).toArray⟩
theorem sumR_back {s : ByteArray} {k x : Nat} (h : At s k (by8 x)) (hx : x < 18446744073709551616) : sumR s ⟨k, 0⟩ = (⟨((k + 8 : Nat) : Int), 0⟩, x) := by
  have hne : by8 x ≠ [] := fun e => by have := by8_len x; rw [e] at this; simp at this
  have hle := h.le hne
  rw [by8_len] at hle
  obtain ⟨r, e⟩ := h
  unfold sumR
  have hd : decide (8 ≤ (s.size : Int) - ((k : Nat) : Int)) = true := decide_eq_true (by omega)
  simp only [hd]
  rw [passS_ok rfl, passB_ok rfl]
  simp only [if_true]
  rw [show ((k : Nat) : Int).toNat = k by omega, e, val8_by8 x hx]
  refine Prod.ext ?_ rfl
  simp
theorem keyG_back {s : ByteArray} {k : Nat} {q : K} {A : List K} {may : K → Bool} (h : At s k (keyB q)) (h0 : 0 ≤ q.1) (h1 : q.1 ≤ 65535) (h2 : q.2.size ≤ 64) (hn : hs A q = false) (hm : may q = true) : keyG s ⟨k, 0⟩ A may = (⟨((k + (keyB q).length : Nat) : Int), 0⟩, q) := by
  unfold keyG
  simp only [takK_back h h0 h1 h2, hn, hm]
  rw [passS_ok rfl, passB_ok rfl]
  rfl
theorem keysG_back {s : ByteArray} {may : K → Bool} : ∀ (ks : List K) (k : Nat) (L : List K), At s k (ks.flatMap keyB) → (∀ q ∈ ks, (0 ≤ q.1 ∧ q.1 ≤ 65535 ∧ q.2.size ≤ 64) ∧ may q = true) → (L ++ ks).Nodup → keysG s may ks.length ⟨k, 0⟩ L = (⟨((k + (ks.flatMap keyB).length : Nat) : Int), 0⟩, L ++ ks)
  | [], k, L, _, _, _ => by simp [keysG]
  | q :: ks, k, L, h, hx, hn => by
    rw [List.flatMap_cons] at h
    obtain ⟨⟨x1, x2, x3⟩, x4⟩ := hx q (by simp)
    have hnm : hs L q = false := hs_no (fun hm => by
      rw [List.nodup_append] at hn
      exact hn.2.2 _ hm _ (by simp) rfl)
    rw [List.length_cons, keysG, if_pos rfl, keyG_back h.fst x1 x2 x3 hnm x4]
    have ih := keysG_back ks (k + (keyB q).length) (L ++ [q]) h.snd (fun y hy => hx y (by simp [hy])) (by simpa [List.append_assoc] using hn)
    rw [ih, List.flatMap_cons, List.length_append, List.append_assoc, Nat.add_assoc]
    rfl
theorem lstR_back {s : ByteArray} {may : K → Bool} {ks : List K} {k : Nat} {most : Int} (h : At s k (keysB ks)) (hx : ∀ q ∈ ks, (0 ≤ q.1 ∧ q.1 ≤ 65535 ∧ q.2.size ≤ 64) ∧ may q = true) (hn : ks.Nodup) (hl : (ks.length : Int) ≤ most) (hm : most ≤ 65536) : lstR s ⟨k, 0⟩ most may = (⟨((k + (keysB ks).length : Nat) : Int), 0⟩, ks) := by
  unfold keysB at h ⊢
  unfold lstR
  have e1 := numR_back (a := 0) (b := most) h.fst (by omega) (by omega) (by omega) hl
  rw [e1]
  simp only
  rw [show ((ks.length : Nat) : Int).toNat = ks.length by omega, keysG_back ks _ [] h.snd hx (by simpa using hn)]
  refine Prod.ext ?_ (by simp)
  simp only [List.length_append]
  congr 1
  omega
theorem patS_data (c : Cf) (n0 : Int) (ys : List En) (now : Int) (xs : List En) (gs : List K) : (patS c n0 ys now xs gs).data.toList = bodyQ c n0 ys now xs gs ++ by8 (sumL (bodyQ c n0 ys now xs gs)) := by
  unfold patS sealB
  simp
theorem patS_size (c : Cf) (n0 : Int) (ys : List En) (now : Int) (xs : List En) (gs : List K) : (patS c n0 ys now xs gs).size = (bodyQ c n0 ys now xs gs).length + 8 := by
  have h := congrArg List.length (patS_data c n0 ys now xs gs)
  rw [List.length_append, by8_len] at h
  have h2 : (patS c n0 ys now xs gs).data.toList.length = (patS c n0 ys now xs gs).size := by simp
  omega
theorem othL_nd {ys xs : List En} (hn : (keysL xs).Nodup) : (keysL (othL ys xs)).Nodup := by
  unfold keysL othL at *
  exact (List.Sublist.map Prod.fst List.filter_sublist).nodup hn
theorem same_key {L : List En} {x y : En} (hn : (keysL L).Nodup) (hx : x ∈ L) (hy : y ∈ L) (e : x.1 = y.1) : x = y := by
  have h1 := fnd_of_mem hn hx
  have h2 := fnd_of_mem hn hy
  rw [e, h2] at h1
  exact Prod.ext e (Option.some.inj h1).symm
theorem entN_back {ys xs : List En} {gs : List K} (hn : (keysL xs).Nodup) (hg : ∀ k ∈ gs, (getS xs k).2 = false) {x : En} (hx : x ∈ xs) : fndN gs (othL ys xs) ys x.1 = some x.2 := by
  have hk : x.1 ∈ keysL xs := List.mem_map_of_mem hx
  have h1 : hs gs x.1 = false := hs_no (fun hm => by
    have := hg _ hm
    rw [getS_has, hs_yes hk] at this
    cases this)
  unfold fndN
  rw [if_neg (by rw [h1]; simp)]
  cases hb : othB ys x with
  | true =>
    have hm : x ∈ (othL ys xs).reverse := by
      rw [List.mem_reverse]
      unfold othL
      exact List.mem_filter.2 ⟨hx, hb⟩
    have hnd : (keysL (othL ys xs).reverse).Nodup := by
      have := othL_nd (ys := ys) hn
      unfold keysL at *
      rw [List.map_reverse]
      exact (List.reverse_perm _).nodup_iff.2 this
    rw [fnd_of_mem hnd hm]
  | false =>
    have hno : ¬ x.1 ∈ keysL (othL ys xs).reverse := fun hm => by
      unfold keysL at hm
      obtain ⟨y, hy, e⟩ := List.mem_map.1 hm
      rw [List.mem_reverse] at hy
      unfold othL at hy
      obtain ⟨hy1, hy2⟩ := List.mem_filter.1 hy
      have := same_key hn hy1 hx e
      rw [this, hb] at hy2
      cases hy2
    rw [fnd_none hno]
    unfold othB at hb
    cases hf : fnd ys x.1 with
    | none => rw [hf] at hb; cases hb
    | some v =>
      rw [hf] at hb
      simp only [Bool.not_eq_false', sameB, decide_eq_true_eq] at hb
      rw [hb]
section
variable {c : Cf} {n0 : Int} {ys : List En} {now : Int} {xs : List En} {gs : List K}
theorem Bk.key {c : Cf} {now : Int} {xs : List En} (h : Bk c now xs) : ∀ q ∈ keysL xs, 0 ≤ q.1 ∧ q.1 ≤ 65535 ∧ q.2.size ≤ 64 := fun q hq => by
  unfold keysL at hq
  obtain ⟨x, hx, rfl⟩ := List.mem_map.1 hq
  have := h.mm.x x hx
  exact ⟨this.s0, this.s1, this.nm⟩
structure PtB (c : Cf) (n0 : Int) (ys : List En) (now : Int) (xs : List En) (s : ByteArray) : Prop where
  er : (pt8 s c n0 ys).er = 0
  s0 : (pt2 s).2 = smM c n0 ys
  s1 : (pt3 s).2 = smM c now xs
  n : (pt4 s n0).2 = now
  l : pt9 s c n0 ys = xs
theorem bk_e {c : Cf} {now : Int} {xs : List En} (h : Bk c now xs) : 0 ≤ c.e ∧ c.e ≤ 65536 := okC_e h.oc
theorem patch_back (h0 : Bk c n0 ys) (h1 : Bk c now xs) (hn : n0 ≤ now) (hg : gs.Perm (gonL ys xs)) : PtB c n0 ys now xs (patS c n0 ys now xs gs) := by
  have hat : At (patS c n0 ys now xs gs) 0 (bodyQ c n0 ys now xs gs) := ⟨by8 (sumL (bodyQ c n0 ys now xs gs)), by rw [List.drop_zero, patS_data]⟩
  have hlen := patS_size c n0 ys now xs gs
  have hdat := patS_data c n0 ys now xs gs
  have hL : (bodyQ c n0 ys now xs gs).length = 8 + 8 + 8 + (nB now).length + (keysB gs).length + (entsB (othL ys xs)).length + (keysB (keysL xs)).length := by
    unfold bodyQ
    simp only [List.length_append, by8_len]
    show 8 + _ = _
    omega
  have hgm : ∀ k ∈ gs, k ∈ keysL ys ∧ (getS xs k).2 = false := fun k hk => by
    have := hg.mem_iff.1 hk
    unfold gonL at this
    obtain ⟨a, b⟩ := List.mem_filter.1 this
    exact ⟨a, by simpa using b⟩
  have hgn : gs.Nodup := hg.nodup_iff.2 (by unfold gonL; exact List.Sublist.nodup List.filter_sublist h0.nd)
  have hgl : (gs.length : Int) ≤ c.e := by
    have e := hg.length_eq
    have e2 : (gonL ys xs).length ≤ (keysL ys).length := by unfold gonL; exact List.length_filter_le _ _
    have e3 : (keysL ys).length = ys.length := by simp [keysL]
    have := h0.ln
    omega
  have hce := bk_e h0
  generalize hps : patS c n0 ys now xs gs = s at *
  unfold bodyQ at hat
  -- the mark
  have e1 : pt1 s = ⟨((8 : Nat) : Int), 0⟩ := by
    unfold pt1 markR
    have hp : prefB (s.data.toList.drop (0 : Int).toNat) mk2 = true := by
      unfold prefB
      refine decide_eq_true ?_
      rw [show (0 : Int).toNat = 0 from rfl, List.drop_zero, hdat]
      unfold bodyQ
      rw [List.append_assoc, List.take_left]
    simp only [hp]
    rw [passS_ok rfl, if_pos rfl]
    rfl
  have a1 := hat.snd
  rw [Nat.zero_add, show mk2.length = 8 from rfl] at a1
  have e2 : pt2 s = (⟨((16 : Nat) : Int), 0⟩, smM c n0 ys) := by
    unfold pt2
    rw [e1, sumR_back a1.fst (smM_lt _ _ _)]
  have a2 := a1.snd
  rw [by8_len] at a2
  have e3 : pt3 s = (⟨((24 : Nat) : Int), 0⟩, smM c now xs) := by
    unfold pt3
    rw [e2, sumR_back a2.fst (smM_lt _ _ _)]
  have a3 := a2.snd
  rw [by8_len] at a3
  have n1 := h1.n0
  have n2 := h1.n1
  have e4 : pt4 s n0 = (⟨((24 + (nB now).length : Nat) : Int), 0⟩, now) := by
    unfold pt4
    rw [e3]
    exact numR_back a3.fst n1 (by omega) hn n2
  have a4 := a3.snd
  have e5 : pt5 s c n0 ys = (⟨((24 + (nB now).length + (keysB gs).length : Nat) : Int), 0⟩, gs) := by
    unfold pt5
    rw [e4]
    refine lstR_back a4.fst (fun q hq => ⟨h0.key q (hgm q hq).1, ?_⟩) hgn hgl hce.2
    rw [getS_has, hs_yes (hgm q hq).1]
  have a5 := a4.snd
  have ho : ∀ x ∈ othL ys xs, x ∈ xs := fun x hx => (List.mem_filter.1 hx).1
  have hol := othL_len ys xs
  have hl1 := h1.ln
  have e6 : pt6 s c n0 ys = (⟨((24 + (nB now).length + (keysB gs).length + (entsB (othL ys xs)).length : Nat) : Int), 0⟩, othL ys xs) := by
    have b5 := a5.fst
    unfold entsB at b5
    have q1 := numR_back (a := 0) (b := c.e) b5.fst (by omega) (by omega) (by omega) (by omega)
    have q2 := entsR_back (c := c) (now := now) (othL ys xs) _ [] b5.snd (fun x hx => ⟨h1.mm.x x (ho x hx), h1.rt x (ho x hx), h1.kp x (ho x hx), h1.tm x (ho x hx)⟩) (by simpa using othL_nd h1.nd)
    unfold pt6
    rw [e5, e4]
    simp only
    rw [q1]
    simp only
    rw [show (((othL ys xs).length : Nat) : Int).toNat = (othL ys xs).length by omega, q2]
    refine Prod.ext ?_ (by simp)
    unfold entsB
    simp only [List.length_append]
    congr 1
    omega
  have a6 := a5.snd
  have e7 : pt7 s c n0 ys = (⟨((bodyQ c n0 ys now xs gs).length : Nat), 0⟩, keysL xs) := by
    unfold pt7
    rw [e6, e5]
    rw [lstR_back a6 (fun q hq => ⟨h1.key q hq, ?_⟩) h1.nd (by simpa [keysL] using hl1) hce.2, hL]
    obtain ⟨x, hx, rfl⟩ := List.mem_map.1 hq
    rw [entN_back h1.nd (fun k hk => (hgm k hk).2) hx]
    rfl
  refine ⟨?_, by rw [e2], by rw [e3], by rw [e4], ?_⟩
  · unfold pt8
    rw [(end_fin _ _).1, e7]
    unfold finR
    rw [if_neg (by simp), if_neg (by simp only; omega)]
    have e : ((((bodyQ c n0 ys now xs gs).length : Nat) : Int)).toNat = (bodyQ c n0 ys now xs gs).length := by omega
    simp only [e]
    rw [hdat, List.drop_left, List.take_left]
    have hv := val8_by8 (sumL (bodyQ c n0 ys now xs gs)) (sumL_lt _) []
    rw [List.append_nil] at hv
    rw [hv, if_neg (by simp), if_neg (by omega)]
  · unfold pt9
    rw [e7, e6, e5]
    simp only
    unfold keysL
    rw [List.map_map]
    refine (List.map_congr_left (fun x hx => ?_)).trans (List.map_id xs)
    simp only [Function.comp, id]
    unfold entN
    rw [entN_back h1.nd (fun k hk => (hgm k hk).2) hx]
end
end Go.Proofs.YtpefbmheblfbeaaGreat.Sn
