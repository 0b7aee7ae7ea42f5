/- The contract of Tell: the bytes of a memo; the memo's numbers are of 64 bits. -/
import Derived.Test.YtpefbmheblfbeaaGreatQt04
import Derived.Test.YtpefbmheblfbeaaGreatQt01
import Derived.Deep.RegionHeld3
namespace Go.Proofs.YtpefbmheblfbeaaGreat.Sn
open Go.RowKit Go.Sort Go.Shelf Me
set_option linter.unusedVariables false
theorem Wr.tou {b : Nat} {w V w1 : World} (hV : Touch [] w V) (h : Wr w.heap.size b V w1) : Touch [] w w1 :=
  ⟨h.below.os.trans hV.os, h.below.tape.trans hV.tape, h.below.output.trans hV.output, Nat.le_trans hV.size h.below.size, fun k hk hn => (h.below.block k hk).trans (hV.block k hk hn)⟩
structure MmOk (c : Cf) (now : Int) (xs : List En) : Prop where
  c : CfOk c
  n : 0 ≤ now ∧ now ≤ 9223372036854775807
  x : ∀ x ∈ xs, EnOk x
  l : xs.length ≤ 65536
theorem cfgB_len {c : Cf} (hc : CfOk c) : (cfgB c).length ≤ 70 := by
  have := nB_len (n := c.t) (by have := hc.t.2; omega); have := nB_len (n := c.n) (by have := hc.n.2; omega); have := nB_len (n := c.s) (by have := hc.s.2; omega); have := nB_len (n := c.e) (by have := hc.e.2; omega)
  have := nB_len (n := c.f) (by have := hc.f.2; omega); have := nB_len (n := c.b) (by have := hc.b.2; omega); have := nB_len (n := c.d) (by have := hc.d.2; omega)
  unfold cfgB
  simp only [List.length_append]
  omega
theorem bodyB_len {c : Cf} {now : Int} {xs : List En} (h : MmOk c now xs) : (bodyB c now xs).length ≤ 10000000 := by
  have q1 := cfgB_len h.c
  have q2 := nB_len (n := now) (by have := h.n.2; omega)
  have q3 := nB_len (n := (xs.length : Int)) (by have := h.l; omega)
  have q4 := flat_le h.x
  have q5 : mk1.length = 8 := rfl
  have := h.l
  unfold bodyB entsB
  simp only [List.length_append]
  omega
theorem bodyB_ne (c : Cf) (now : Int) (xs : List En) : bodyB c now xs ≠ [] := by unfold bodyB mk1; simp
set_option maxHeartbeats 2000000 in
theorem tell_ {w : World} {m : Nat} {F : List Nat} {c : Cf} {now : Int} {xs : List En} (h : Mq w m F c now xs) (hk : MmOk c now xs) : Calls Tryz.prog 10 #[PT m] w fun e w' => e = .returned (.tuple #[.string ⟨(tellB c now xs).toArray⟩, .int .i64 0]) ∧ Touch [] w w' := by
  obtain ⟨V, hV⟩ : ∃ V, V = w.alloc (.cells #[.pointer none, .slice none 0 0] 93) := ⟨_, rfl⟩
  have tV : Touch [] w V := by rw [hV]; exact (Touch.refl _ _).alloc _
  have b0 : Bd w.heap.size w.heap.size [] V := by rw [hV]; exact Bd.new w
  have HM : Hid (∀ w', Wr w.heap.size w.heap.size V w' → Mq w' m F c now xs) := hid (fun w' hw => h.keep0 (hw.tou tV))
  have HT := hid (fun w' (hw : Wr w.heap.size w.heap.size V w') => hw.tou tV)
  have HB := hid tV.size
  have H1 := hid (write_ b0 ⟨#[99, 111, 110, 118, 111, 121, 48, 49]⟩ (by decide))
  have H2 := hid (fun w' (hw : Wr w.heap.size w.heap.size V w') => (by obtain ⟨b, o, G, _, hb⟩ := HM.out w' hw; exact config27 w' m c now b o hb.md : Calls Tryz.prog 35 #[PT m] w' fun e w'' => e = .returned (cv c) ∧ Touch [] w' w''))
  have H3 := hid (fun w' (h' : Bd w.heap.size w.heap.size mk1 w') => tellConfig_ h' c hk.c (by decide))
  have H4 := hid (fun w' (hw : Wr w.heap.size w.heap.size V w') => (by obtain ⟨b, o, G, _, hb⟩ := HM.out w' hw; exact now26 w' m c now b o hb.md : Calls Tryz.prog 22 #[PT m] w' fun e w'' => e = .returned (.int .i64 now) ∧ w'' = w'))
  have l1 := cfgB_len hk.c
  have l2 := nB_len (n := now) (by have := hk.n.2; omega)
  have H5 := hid (fun w' (h' : Bd w.heap.size w.heap.size (mk1 ++ cfgB c) w') => tellNumber_ h' now hk.n.1 hk.n.2 (by rw [List.length_append]; show 8 + _ ≤ _; omega))
  have H6 := hid (fun w' (hw : Wr w.heap.size w.heap.size V w') => allM w' m F c now xs (HM.out w' hw))
  have H7 := hid (fun w' v (h' : Bd w.heap.size w.heap.size (mk1 ++ cfgB c ++ nB now) w') (hv : RN 60 w' v xs) => tellEntries_ h' xs v hv hk.x (by rw [List.length_append, List.length_append]; show 8 + _ + _ ≤ _; omega) (by have := hk.l; omega))
  have HE : Hid (mk1 ++ cfgB c ++ nB now ++ entsB xs = bodyB c now xs) := hid (by unfold bodyB; simp only [List.append_assoc])
  have H8 := hid (fun w' (h' : Bd w.heap.size w.heap.size (bodyB c now xs) w') => string_ h' (bodyB_ne c now xs))
  have H9 := hid (fun w' => sealed_ w' ⟨(bodyB c now xs).toArray⟩ (by have := bodyB_len hk; show (bodyB c now xs).toArray.size ≤ _; rw [List.size_toArray]; omega))
  have HX : Hid ((tellB c now xs).toArray = (((⟨(bodyB c now xs).toArray⟩ : ByteArray).data.toList) ++ by8 (sumL ((⟨(bodyB c now xs).toArray⟩ : ByteArray).data.toList))).toArray) := hid (by unfold tellB sealB; simp)
  rw [HX.out]
  generalize (((⟨(bodyB c now xs).toArray⟩ : ByteArray).data.toList) ++ by8 (sumL ((⟨(bodyB c now xs).toArray⟩ : ByteArray).data.toList))).toArray = TT at *
  generalize (⟨(bodyB c now xs).toArray⟩ : ByteArray) = BB at *
  have s0 := Wr.refl w.heap.size w.heap.size V
  generalize hn : w.heap.size = n at *
  unfold PT at *
  clear l1 l2 hk h tV HX
  go_enter Tryz.func10, Tryz.ntmps10
  go_upto_region 4 with fail
  rw [← hV]
  clear hV hn
  go_upto_region 5 with (go_at_call 33; refine H1.out.mono ?_; rintro e w1 ⟨rfl, b1, s1⟩; clear s0 H1 b0)
  have b1' : Bd n n mk1 w1 := b1
  clear b1
  go_upto_region 6 with (first
    | (go_at_call 35; refine (H2.out _ s1).mono ?_; rintro e w2 ⟨rfl, t2⟩; unfold cv)
    | (go_at_call 34; refine (H3.out _ (b1'.touch t2)).mono ?_; rintro e w3 ⟨rfl, b3, q3⟩; have s3 := (s1.touch t2 HB.out).trans q3; clear t2 q3 s1 b1' H2 H3))
  go_upto_region 7 with (first
    | (go_at_call 22; refine (H4.out _ s3).mono ?_; rintro e w4 ⟨rfl, rfl⟩)
    | (go_at_call 36; refine (H5.out _ b3).mono ?_; rintro e w5 ⟨rfl, b5, q5⟩; have s5 := s3.trans q5; clear b3 q5 s3 H4 H5))
  go_upto_region 8 with (first
    | (go_at_call 38; refine (H6.out _ s5).mono ?_; rintro e w6 ⟨v6, rfl, o6, t6⟩; obtain ⟨a6, c6, e6⟩ := own_form o6; subst e6; have R6 := hid (RN.own o6); clear o6)
    | (go_at_call 37; refine (H7.out _ _ (b5.touch t6) R6.out).mono ?_; rintro e w7 ⟨rfl, b7, q7⟩; have s7 := (s5.touch t6 HB.out).trans q7; rw [HE.out] at b7; clear t6 q7 s5 b5 R6 H6 H7))
  go_wp2_with (first
    | (go_at_call 40; refine (H8.out _ b7).mono ?_; rintro e w8 ⟨rfl, q8⟩; have s8 := s7.trans q8)
    | (go_at_call 39; refine (H9.out _).mono ?_; rintro e w9 ⟨rfl, t9⟩))
  go_ret2
  exact ⟨rfl, (HT.out _ s8).trans' t9⟩
end Go.Proofs.YtpefbmheblfbeaaGreat.Sn
/- The contracts of the document's entry and Tell: the bytes of a memo; the memo's numbers are of 64 bits. -/
namespace Go.Proofs.YtpefbmheblfbeaaGreat.Sn
open Go.RowKit Go.Sort Go.Shelf Me
set_option linter.unusedVariables false
set_option linter.unusedSimpArgs false
theorem add_ (a b : ByteArray) (h : a.size + b.size ≤ 9223372036854775807) (w : World) : (Op.stringOp .add a b).run Tryz.prog w = .ok (.string (a ++ b)) w := run_string_add_sum w _ _ (by omega)
theorem size_arr (l : List UInt8) : (⟨l.toArray⟩ : ByteArray).size = l.length := by show l.toArray.size = _; simp
theorem conv1 {w : World} {g : Nat} {y : Nat} {fr : Nat × Nat} (hy : y < 256) (h : w.heap[g]? = some (.cells #[.int .u8 (y : Int)] 5 fr)) : (convert 91 9 (.slice (some ⟨g, 0, none⟩) 1 1)).run Tryz.prog w = .ok (.string ⟨#[UInt8.ofNat y]⟩) w := by
  refine run_convert_bytes_back w 91 9 5 ⟨g, 0, none⟩ 1 [UInt8.ofNat y] Tryz.underlying91 Tryz.underlying5 Tryz.underlying9 fun j hj => ?_
  have e0 : j = 0 := by simpa using hj
  subst e0
  rw [List.getElem_cons_zero, ofNat_toNat hy]
  simp [World.cell?, h, Addr.add]
theorem conv1' {w : World} {g : Nat} {y : Nat} {fr : Nat × Nat} (hy : y ≤ 2) (h : w.heap[g]? = some (.cells #[.int .u8 (y : Int)] 5 fr)) : ∀ w', Touch [] w w' → (convert 91 9 (.slice (some ⟨g, 0, none⟩) 1 1)).run Tryz.prog w' = .ok (.string ⟨#[UInt8.ofNat y]⟩) w' := fun w' t => conv1 (by omega) (t.keep h (by simp))
theorem str_eq {l : List UInt8} {s : ByteArray} (h : s.data.toList = l) : (⟨l.toArray⟩ : ByteArray) = s := by subst h; rfl
set_option maxHeartbeats 4000000 in
theorem rentry_ (w : World) (x : En) (hx : EnOk x) (hr : right x.2.1 = true) : Calls Tryz.prog 42 #[nv x] w fun e w' => e = .returned (.string ⟨(entB x).toArray⟩) ∧ Touch [] w w' := by
  have hkz := right_none hr
  obtain ⟨V, hV⟩ : ∃ V, V = w.alloc (.cells #[.int .u16 x.1.1, .string x.1.2, .int .i64 x.2.1.1, .int .i64 x.2.1.2.1, .int .i64 x.2.1.2.2.1, .int .i64 x.2.1.2.2.2, .int .i64 x.2.2] 88) := ⟨_, rfl⟩
  have TV : Touch [] w V := by rw [hV]; exact (Touch.refl _ _).alloc _
  have hb : V.heap[w.heap.size]? = some (.cells #[.int .u16 x.1.1, .string x.1.2, .int .i64 x.2.1.1, .int .i64 x.2.1.2.1, .int .i64 x.2.1.2.2.1, .int .i64 x.2.1.2.2.2, .int .i64 x.2.2] 88 (0, 0)) := by rw [hV]; exact heap_alloc_new w _
  have HB := hid (fun w1 (t1 : Touch [] V w1) => t1.keep hb (by simp))
  have C0 : ∀ w1, Touch [] V w1 → w1.cell? ⟨w.heap.size, 0, none⟩ = some (.int .u16 x.1.1) := fun w1 t1 => cell_at (HB.out w1 t1) rfl
  have C1 : ∀ w1, Touch [] V w1 → w1.cell? ⟨w.heap.size, 1, none⟩ = some (.string x.1.2) := fun w1 t1 => cell_at (HB.out w1 t1) rfl
  have C6 : ∀ w1, Touch [] V w1 → w1.cell? ⟨w.heap.size, 6, none⟩ = some (.int .i64 x.2.2) := fun w1 t1 => cell_at (HB.out w1 t1) rfl
  obtain ⟨tn, htn⟩ : ∃ tn : Nat, x.2.2 = (tn : Int) := ⟨x.2.2.toNat, by have := hx.t0; omega⟩
  have htb : tn ≤ 9223372036854775807 := by have := hx.t1; omega
  have K1 := hid (fun w => ref17 x.1.1 x.1.2 w hx.s0 hx.s1 (by have := hx.nm; omega))
  have K2 := hid (fun w => rnumber_ w tn (by omega))
  have zkb : (hd3 x.1.1 x.1.2 ++ x.1.2).size ≤ 67 := by rw [ByteArray.size_append, hd3_size]; have := hx.nm; omega
  have znb : (⟨(numL tn).toArray⟩ : ByteArray).size ≤ 10 := by rw [size_arr]; exact numL_10 (by omega)
  have had1 := add_ (hd3 x.1.1 x.1.2 ++ x.1.2) ⟨(numL tn).toArray⟩ (by omega)
  obtain ⟨s1, hs1⟩ : ∃ s1, s1 = (hd3 x.1.1 x.1.2 ++ x.1.2) ++ ⟨(numL tn).toArray⟩ := ⟨_, rfl⟩
  have zs1 : s1.size ≤ 77 := by rw [hs1, ByteArray.size_append]; omega
  have ds1 : s1.data.toList = keyB x.1 ++ nB x.2.2 := by rw [hs1, data_app]; unfold keyB nB; rw [htn]; rfl
  rw [← hs1] at had1
  have wt : IntKind.u64.wrap (tn : Int) = (tn : Int) := by rw [IntKind.wrap_u64]; omega
  have eq := fun w => eqr w x.2.1.2.1 x.2.1.2.2.1 x.2.1.2.2.2
  have HT := hid TV
  have zz : w.heap.size < V.heap.size := block_lt hb
  obtain ⟨g1, g2⟩ := sgn_b hx.v.1 hx.v.2
  obtain ⟨g3, g4⟩ := sgn_b hx.c.1 hx.c.2
  obtain ⟨vn, hvn⟩ : ∃ vn : Nat, sgn x.2.1.1 = (vn : Int) := ⟨(sgn x.2.1.1).toNat, by omega⟩
  obtain ⟨cn, hcn⟩ : ∃ cn : Nat, sgn x.2.1.2.2.1 = (cn : Int) := ⟨(sgn x.2.1.2.2.1).toNat, by omega⟩
  obtain ⟨rn, hrn⟩ : ∃ rn : Nat, x.2.1.2.2.2 = (rn : Int) := ⟨x.2.1.2.2.2.toNat, by have := hx.r.1; omega⟩
  obtain ⟨kn, hkn⟩ : ∃ kn : Nat, x.2.1.2.1 = (kn : Int) := ⟨x.2.1.2.1.toNat, by have := hx.k.1; omega⟩
  have hrb : rn ≤ 9223372036854775807 := by have := hx.r.2; omega
  have hkb : kn ≤ 2 := by have := hx.k.2; omega
  have S1 := hid (fun w => rsign_ w x.2.1.1 hx.v.1 hx.v.2)
  have S2 : Hid (∀ w, Calls Tryz.prog 91 #[.int .i64 x.2.1.2.2.1] w fun e w' => e = .returned (.int .u64 (sgn x.2.1.2.2.1)) ∧ Touch [] w w') := hid (fun w => (rsign_ w x.2.1.2.2.1 hx.c.1 hx.c.2).mono fun e w' ⟨h1, h2⟩ => ⟨h1, by rw [h2]; exact Touch.refl _ _⟩)
  have N1 := hid (fun w => rnumber_ w vn (by omega))
  have N2 := hid (fun w => rnumber_ w cn (by omega))
  have N3 := hid (fun w => rnumber_ w rn (by omega))
  rw [hvn] at S1
  rw [hcn] at S2
  have zv : (⟨(numL vn).toArray⟩ : ByteArray).size ≤ 10 := by rw [size_arr]; exact numL_10 (by omega)
  have zc : (⟨(numL cn).toArray⟩ : ByteArray).size ≤ 10 := by rw [size_arr]; exact numL_10 (by omega)
  have zr : (⟨(numL rn).toArray⟩ : ByteArray).size ≤ 10 := by rw [size_arr]; exact numL_10 (by omega)
  have R1 : nonF x.2.1.2.1 x.2.1.2.2.1 x.2.1.2.2.2 = true → (⟨(entB x).toArray⟩ : ByteArray) = s1 ++ ⟨#[0]⟩ ++ ⟨(numL vn).toArray⟩ := fun h => str_eq (by
    unfold nonF at h
    have hk0 : x.2.1.2.1 = 0 := by simp at h; exact h.1
    rw [data_app, data_app, ds1]
    unfold entB outB sgB nB
    rw [if_pos hk0, hvn]
    simp)
  have R2 : nonF x.2.1.2.1 x.2.1.2.2.1 x.2.1.2.2.2 = false → (⟨(entB x).toArray⟩ : ByteArray) = s1 ++ ⟨#[UInt8.ofNat kn]⟩ ++ ⟨(numL cn).toArray⟩ ++ ⟨(numL rn).toArray⟩ := fun h => str_eq (by
    have hk0 : ¬ x.2.1.2.1 = 0 := fun e => by
      have := hkz.1 e
      simp only [Prod.mk.injEq] at this
      unfold nonF at h
      simp [this] at h
    rw [data_app, data_app, data_app, ds1]
    unfold entB outB sgB nB
    rw [if_neg hk0, hcn, hrn, hkn]
    simp)
  have wr : IntKind.u64.wrap (rn : Int) = (rn : Int) := by rw [IntKind.wrap_u64]; omega
  have wk : (kn : Int) % 256 = (kn : Int) := by omega
  have wk' : IntKind.u8.wrap (kn : Int) = (kn : Int) := by rw [IntKind.wrap_u8]; omega
  have a1 := add_ s1 ⟨#[0]⟩ (by show _ + 1 ≤ _; omega)
  have a2 := add_ (s1 ++ ⟨#[0]⟩) ⟨(numL vn).toArray⟩ (by rw [ByteArray.size_append]; show _ + 1 + _ ≤ _; omega)
  have a3 := add_ s1 ⟨#[UInt8.ofNat kn]⟩ (by show _ + 1 ≤ _; omega)
  have a4 := add_ (s1 ++ ⟨#[UInt8.ofNat kn]⟩) ⟨(numL cn).toArray⟩ (by rw [ByteArray.size_append]; show _ + 1 + _ ≤ _; omega)
  have a5 := add_ (s1 ++ ⟨#[UInt8.ofNat kn]⟩ ++ ⟨(numL cn).toArray⟩) ⟨(numL rn).toArray⟩ (by rw [ByteArray.size_append, ByteArray.size_append]; show _ + 1 + _ + _ ≤ _; omega)
  have HR1 := hid R1
  have HR2 := hid R2
  generalize (⟨(entB x).toArray⟩ : ByteArray) = RES at *
  generalize hd3 x.1.1 x.1.2 ++ x.1.2 = kb at *
  generalize (⟨(numL tn).toArray⟩ : ByteArray) = nb at *
  generalize (⟨(numL vn).toArray⟩ : ByteArray) = vb at *
  generalize (⟨(numL cn).toArray⟩ : ByteArray) = cb at *
  generalize (⟨(numL rn).toArray⟩ : ByteArray) = rb at *
  have HKn := hid hkb
  unfold nv
  clear R1 R2 hx hr hkz hs1 ds1 zs1 zkb znb zv zc zr g1 g2 g3 g4 hvn hcn hrb hkb htb TV
  obtain ⟨⟨sp, nm⟩, ⟨vl, kd, cd, rnn⟩, tk⟩ := x
  simp only at *
  subst htn
  subst hrn
  subst hkn
  go_enter Tryz.func42, Tryz.ntmps42
  go_upto_region 1 with fail
  rw [← hV]
  clear hV hb
  go_cut [3] from 5 to 12 (fun s wx => s = .string s1 ∧ Touch [] V wx)
  case first =>
    go_region_held3 (fun w' => Touch [] V w') (first | assumption | exact (Touch.refl _ _).drew | exact Touch.refl _ _ | exact Touch.drew (by assumption))
      (first
        | (go_at_call 64; refine (K1.out _).mono ?_; rintro e w1 ⟨rfl, g1⟩; have T1 : Touch [] V w1 := Touch.trans' (by assumption) (Touch.of_below g1.below); clear g1)
        | (go_at_call 41; refine (K2.out _).mono ?_; rintro e w2 ⟨rfl, t2⟩; have T2 : Touch [] V w2 := Touch.trans' (by assumption) t2; clear t2))
    all_goals
      go_wp2_with fail
      go_meet
      exact ⟨rfl, by assumption⟩
  case rest =>
    obtain ⟨rfl, TX⟩ := hcut
    have hbx := HB.out wc TX
    have c3 := cell_of (n := 3) hbx rfl
    have c4 := cell_of (n := 4) hbx rfl
    have c5 := cell_of (n := 5) hbx rfl
    have c2 := cell_of (n := 2) hbx rfl
    clear HB hbx C0 C1 C6
    obtain ⟨W1, hW1⟩ : ∃ W1, W1 = wc.alloc (.cells #[.int .i64 (kn : Int), .int .i64 cd, .int .i64 (rn : Int)] 84) := ⟨_, rfl⟩
    have tW : Touch [] wc W1 := by rw [hW1]; exact (Touch.refl _ _).alloc _
    have hw2 : W1.cell? ⟨w.heap.size, 2, none⟩ = some (.int .i64 vl) := by
      have hlt : w.heap.size < wc.heap.size := Nat.lt_of_lt_of_le zz TX.size
      rw [World.cell?_of_block (a := ⟨w.heap.size, 2, none⟩) (tW.block _ hlt (by simp))]; exact c2
    have s0' : W1.heap[wc.heap.size]? = some (.cells #[.int .i64 (kn : Int), .int .i64 cd, .int .i64 (rn : Int)] 84 (0, 0)) := by rw [hW1]; exact heap_alloc_new wc _
    have f0 := cell_of (n := 0) s0' rfl
    have f1 := cell_of (n := 1) s0' rfl
    have f2 := cell_of (n := 2) s0' rfl
    have TW := hid tW
    clear tW
    go_upto_region 3 with fail
    rw [← hW1]
    clear hW1 c2 c3 c4 c5
    cases hnf : nonF (kn : Int) cd (rn : Int) with
    | true =>
      have HR := hid (HR1.out hnf)
      rw [hnf] at eq
      clear HR1 HR2
      go_wp2_with (first
        | (go_at_call 91; refine (S1.out _).mono ?_; rintro e w3 ⟨rfl, rfl⟩)
        | (go_at_call 41; refine (N1.out _).mono ?_; rintro e w4 ⟨rfl, t4⟩))
      go_ret
      exact ⟨by rw [HR.out]; rfl, HT.out.trans' (TX.trans' (TW.out.trans' t4))⟩
    | false =>
      have HR := hid (HR2.out hnf)
      rw [hnf] at eq
      clear HR1 HR2 hw2
      go_upto_region 5 with fail
      obtain ⟨fb, hfb⟩ : ∃ fb, fb = wc.heap.size := ⟨_, rfl⟩
      rw [← hfb] at s0' ⊢
      have s0 : W1.drew.heap[fb]? = some (.cells #[.int .i64 (kn : Int), .int .i64 cd, .int .i64 (rn : Int)] 84 (0, 0)) := s0'
      have F0 : ∀ w' : World, w'.heap[fb]? = some (.cells #[.int .i64 (kn : Int), .int .i64 cd, .int .i64 (rn : Int)] 84 (0, 0)) → w'.cell? ⟨fb, 0, none⟩ = some (.int .i64 (kn : Int)) := fun w' h => cell_at h rfl
      have F1 : ∀ w' : World, w'.heap[fb]? = some (.cells #[.int .i64 (kn : Int), .int .i64 cd, .int .i64 (rn : Int)] 84 (0, 0)) → w'.cell? ⟨fb, 1, none⟩ = some (.int .i64 cd) := fun w' h => cell_at h rfl
      have F2 : ∀ w' : World, w'.heap[fb]? = some (.cells #[.int .i64 (kn : Int), .int .i64 cd, .int .i64 (rn : Int)] 84 (0, 0)) → w'.cell? ⟨fb, 2, none⟩ = some (.int .i64 (rn : Int)) := fun w' h => cell_at h rfl
      refine wp_region_H (S := fun w' => w'.heap[fb]? = some (.cells #[.int .i64 (kn : Int), .int .i64 cd, .int .i64 (rn : Int)] 84 (0, 0))) (by kernel_rfl) ?_
      have T0 : Hid (Touch [] wc W1.drew) := hid TW.out.drew
      generalize W1.drew = W0 at *
      clear s0' f0 f1 f2 hfb TW
      refine wpH_take (i := 0) (v := (.string s1)) (some 27) rfl rfl (by kernel_rfl) (by kernel_rfl) (by kernel_rfl) (fun _ _ _ h => h) (Or.inl ⟨by rfl, fun w' hS => (by go_simp)⟩) s0 ?_
      try simp only [Go.Act.put, List.setIfInBounds_toArray, List.set_cons_zero, List.set_cons_succ]
      refine wpH_take (i := 1) (v := (.pointer (some ⟨fb, 0, none⟩))) (some 28) rfl rfl (by kernel_rfl) (by kernel_rfl) (by kernel_rfl) (fun _ _ _ h => h) (Or.inl ⟨by rfl, fun w' hS => (by go_simp)⟩) s0 ?_
      try simp only [Go.Act.put, List.setIfInBounds_toArray, List.set_cons_zero, List.set_cons_succ]
      refine wpH_take (i := 2) (v := (.int .i64 (kn : Int))) (some 29) rfl rfl (by kernel_rfl) (by kernel_rfl) (by kernel_rfl) (fun _ _ _ h => h) (Or.inl ⟨by rfl, fun w' hS => (by have z0 := F0 _ hS; go_simp)⟩) s0 ?_
      try simp only [Go.Act.put, List.setIfInBounds_toArray, List.set_cons_zero, List.set_cons_succ]
      refine wpH_take (i := 3) (v := (.int .u8 (kn : Int))) (some 30) rfl rfl (by kernel_rfl) (by kernel_rfl) (by kernel_rfl) (fun _ _ _ h => h) (Or.inl ⟨by rfl, fun w' hS => (by go_simp)⟩) s0 ?_
      try simp only [Go.Act.put, List.setIfInBounds_toArray, List.set_cons_zero, List.set_cons_succ]
      refine wpH_take (i := 7) (v := (.pointer (some ⟨fb, 1, none⟩))) (some 34) rfl rfl (by kernel_rfl) (by kernel_rfl) (by kernel_rfl) (fun _ _ _ h => h) (Or.inl ⟨by rfl, fun w' hS => (by go_simp)⟩) s0 ?_
      try simp only [Go.Act.put, List.setIfInBounds_toArray, List.set_cons_zero, List.set_cons_succ]
      refine wpH_take (i := 8) (v := (.int .i64 cd)) (some 35) rfl rfl (by kernel_rfl) (by kernel_rfl) (by kernel_rfl) (fun _ _ _ h => h) (Or.inl ⟨by rfl, fun w' hS => (by have z0 := F1 _ hS; go_simp)⟩) s0 ?_
      try simp only [Go.Act.put, List.setIfInBounds_toArray, List.set_cons_zero, List.set_cons_succ]
      refine wpH_take (i := 12) (v := (.pointer (some ⟨fb, 2, none⟩))) (some 39) rfl rfl (by kernel_rfl) (by kernel_rfl) (by kernel_rfl) (fun _ _ _ h => h) (Or.inl ⟨by rfl, fun w' hS => (by go_simp)⟩) s0 ?_
      try simp only [Go.Act.put, List.setIfInBounds_toArray, List.set_cons_zero, List.set_cons_succ]
      refine wpH_take (i := 13) (v := (.int .i64 (rn : Int))) (some 40) rfl rfl (by kernel_rfl) (by kernel_rfl) (by kernel_rfl) (fun _ _ _ h => h) (Or.inl ⟨by rfl, fun w' hS => (by have z0 := F2 _ hS; go_simp)⟩) s0 ?_
      try simp only [Go.Act.put, List.setIfInBounds_toArray, List.set_cons_zero, List.set_cons_succ]
      refine wpH_take (i := 14) (v := (.int .u64 (rn : Int))) (some 41) rfl rfl (by kernel_rfl) (by kernel_rfl) (by kernel_rfl) (fun _ _ _ h => h) (Or.inl ⟨by rfl, fun w' hS => (by go_simp)⟩) s0 ?_
      try simp only [Go.Act.put, List.setIfInBounds_toArray, List.set_cons_zero, List.set_cons_succ]
      refine wpH_ready (rs := [4, 9]) (by kernel_rfl) (by simp) ?_
      refine AllH.cons (o := { dst := some 31, op := Op.buildSlice 91 1 #[(0, Operand.tmp 30)], type := 91, pos := _, after := #[{ on := 3, ground := Ground.data }], guard := none }) rfl (fun K' hK => ?_) ?_
      · rw [if_pos (by rfl)]
        go_simp
        have sq1 := (((Touch.refl [] W0).alloc (.cells #[.int .u8 (kn : Int)] 5))).keep s0 (by simp)
        have T1 := hid (T0.out.alloc (.cells #[.int .u8 (kn : Int)] 5))
        have B1 := hid (conv1' HKn.out (heap_alloc_new W0 (.cells #[.int .u8 (kn : Int)] 5)))
        refine hK.out _ _ sq1 ?_
        clear hK
        try simp only [Go.Act.put, List.setIfInBounds_toArray, List.set_cons_zero, List.set_cons_succ]
        refine wpH_ready (rs := [5, 9]) (by kernel_rfl) (by simp) ?_
        refine AllH.cons (o := { dst := some 32, op := Op.convert 91 9 (Operand.tmp 31), type := 9, pos := _, after := #[{ on := 4, ground := Ground.data }], guard := none }) rfl (fun K' hK => ?_) ?_
        · rw [if_pos (by rfl)]
          have hcv2 := B1.out _ (Touch.refl [] (W0.alloc (.cells #[.int .u8 (kn : Int)] 5)))
          go_simp
          clear hcv2
          refine hK.out _ _ sq1 ?_
          clear hK
          try simp only [Go.Act.put, List.setIfInBounds_toArray, List.set_cons_zero, List.set_cons_succ]
          refine wpH_take (i := 6) (v := (.string (s1 ++ ⟨#[UInt8.ofNat kn]⟩))) (some 33) rfl rfl (by kernel_rfl) (by kernel_rfl) (by kernel_rfl) (fun _ _ _ h => h) (Or.inl ⟨by rfl, fun w' hS => (by go_simp)⟩) sq1 ?_
          try simp only [Go.Act.put, List.setIfInBounds_toArray, List.set_cons_zero, List.set_cons_succ]
          refine wpH_call (i := 9) (o := { dst := some 36, op := Op.call { callee := Callee.value (Operand.func 91), args := #[Operand.tmp 35], argTypes := #[2] }, type := 66, pos := _, after := #[{ on := 8, ground := Ground.data }], guard := none }) (by kernel_rfl) rfl (fun K' hK => ?_)
          rw [if_pos (by rfl)]
          go_simp
          refine (S2.out _).mono ?_
          rintro e v3 ⟨rfl, t3⟩
          have sq3 := t3.keep sq1 (by simp)
          have T3 := hid (T1.out.trans' t3)
          have U3 := hid t3
          clear t3
          refine hK.out _ _ sq3 ?_
          clear hK
          try simp only [Go.Act.put, List.setIfInBounds_toArray, List.set_cons_zero, List.set_cons_succ]
          refine wpH_call (i := 10) (o := { dst := some 37, op := Op.call { callee := Callee.value (Operand.func 41), args := #[Operand.tmp 36], argTypes := #[66] }, type := 9, pos := _, after := #[{ on := 9, ground := Ground.data }, { on := 9, ground := Ground.chain }], guard := none }) (by kernel_rfl) rfl (fun K' hK => ?_)
          rw [if_pos (by rfl)]
          go_simp
          refine (N2.out _).mono ?_
          rintro e v4 ⟨rfl, t4⟩
          have sq4 := t4.keep sq3 (by simp)
          have T4 := hid (T3.out.trans' t4)
          have U4 := hid (U3.out.trans' t4)
          clear t4
          refine hK.out _ _ sq4 ?_
          clear hK
          try simp only [Go.Act.put, List.setIfInBounds_toArray, List.set_cons_zero, List.set_cons_succ]
          refine wpH_take (i := 11) (v := (.string (s1 ++ ⟨#[UInt8.ofNat kn]⟩ ++ cb))) (some 38) rfl rfl (by kernel_rfl) (by kernel_rfl) (by kernel_rfl) (fun _ _ _ h => h) (Or.inl ⟨by rfl, fun w' hS => (by go_simp)⟩) sq4 ?_
          try simp only [Go.Act.put, List.setIfInBounds_toArray, List.set_cons_zero, List.set_cons_succ]
          refine wpH_call (i := 15) (o := { dst := some 42, op := Op.call { callee := Callee.value (Operand.func 41), args := #[Operand.tmp 41], argTypes := #[66] }, type := 9, pos := _, after := #[{ on := 14, ground := Ground.data }, { on := 10, ground := Ground.chain }], guard := none }) (by kernel_rfl) rfl (fun K' hK => ?_)
          rw [if_pos (by rfl)]
          go_simp
          refine (N3.out _).mono ?_
          rintro e v5 ⟨rfl, t5⟩
          have sq5 := t5.keep sq4 (by simp)
          have T5 := hid (T4.out.trans' t5)
          have U5 := hid (U4.out.trans' t5)
          clear t5
          refine hK.out _ _ sq5 ?_
          clear hK
          try simp only [Go.Act.put, List.setIfInBounds_toArray, List.set_cons_zero, List.set_cons_succ]
          refine wpH_take (i := 16) (v := (.string (s1 ++ ⟨#[UInt8.ofNat kn]⟩ ++ cb ++ rb))) (some 43) rfl rfl (by kernel_rfl) (by kernel_rfl) (by kernel_rfl) (fun _ _ _ h => h) (Or.inl ⟨by rfl, fun w' hS => (by go_simp)⟩) sq5 ?_
          try simp only [Go.Act.put, List.setIfInBounds_toArray, List.set_cons_zero, List.set_cons_succ]
          refine wpH_take (i := 17) (v := (.string (s1 ++ ⟨#[UInt8.ofNat kn]⟩ ++ cb ++ rb))) (some 2) rfl rfl (by kernel_rfl) (by kernel_rfl) (by kernel_rfl) (fun _ _ _ h => h) (Or.inl ⟨by rfl, fun w' hS => (by go_simp)⟩) sq5 ?_
          try simp only [Go.Act.put, List.setIfInBounds_toArray, List.set_cons_zero, List.set_cons_succ]
          refine wpAnyH_done (by kernel_rfl) ?_ _
          go_wp2_with fail
          go_ret
          exact ⟨by rw [HR.out]; rfl, HT.out.trans' (TX.trans' (T5.out))⟩
        refine AllH.cons (o := { dst := some 36, op := Op.call { callee := Callee.value (Operand.func 91), args := #[Operand.tmp 35], argTypes := #[2] }, type := 66, pos := _, after := #[{ on := 8, ground := Ground.data }], guard := none }) rfl (fun K' hK => ?_) ?_
        · rw [if_pos (by rfl)]
          go_simp
          refine (S2.out _).mono ?_
          rintro e v6 ⟨rfl, t6⟩
          have sq6 := t6.keep sq1 (by simp)
          have T6 := hid (T1.out.trans' t6)
          have U6 := hid t6
          clear t6
          refine hK.out _ _ sq6 ?_
          clear hK
          try simp only [Go.Act.put, List.setIfInBounds_toArray, List.set_cons_zero, List.set_cons_succ]
          refine wpH_ready (rs := [5, 10]) (by kernel_rfl) (by simp) ?_
          refine AllH.cons (o := { dst := some 32, op := Op.convert 91 9 (Operand.tmp 31), type := 9, pos := _, after := #[{ on := 4, ground := Ground.data }], guard := none }) rfl (fun K' hK => ?_) ?_
          · rw [if_pos (by rfl)]
            have hcv7 := B1.out _ U6.out
            go_simp
            clear hcv7
            refine hK.out _ _ sq6 ?_
            clear hK
            try simp only [Go.Act.put, List.setIfInBounds_toArray, List.set_cons_zero, List.set_cons_succ]
            refine wpH_take (i := 6) (v := (.string (s1 ++ ⟨#[UInt8.ofNat kn]⟩))) (some 33) rfl rfl (by kernel_rfl) (by kernel_rfl) (by kernel_rfl) (fun _ _ _ h => h) (Or.inl ⟨by rfl, fun w' hS => (by go_simp)⟩) sq6 ?_
            try simp only [Go.Act.put, List.setIfInBounds_toArray, List.set_cons_zero, List.set_cons_succ]
            refine wpH_call (i := 10) (o := { dst := some 37, op := Op.call { callee := Callee.value (Operand.func 41), args := #[Operand.tmp 36], argTypes := #[66] }, type := 9, pos := _, after := #[{ on := 9, ground := Ground.data }, { on := 9, ground := Ground.chain }], guard := none }) (by kernel_rfl) rfl (fun K' hK => ?_)
            rw [if_pos (by rfl)]
            go_simp
            refine (N2.out _).mono ?_
            rintro e v8 ⟨rfl, t8⟩
            have sq8 := t8.keep sq6 (by simp)
            have T8 := hid (T6.out.trans' t8)
            have U8 := hid (U6.out.trans' t8)
            clear t8
            refine hK.out _ _ sq8 ?_
            clear hK
            try simp only [Go.Act.put, List.setIfInBounds_toArray, List.set_cons_zero, List.set_cons_succ]
            refine wpH_take (i := 11) (v := (.string (s1 ++ ⟨#[UInt8.ofNat kn]⟩ ++ cb))) (some 38) rfl rfl (by kernel_rfl) (by kernel_rfl) (by kernel_rfl) (fun _ _ _ h => h) (Or.inl ⟨by rfl, fun w' hS => (by go_simp)⟩) sq8 ?_
            try simp only [Go.Act.put, List.setIfInBounds_toArray, List.set_cons_zero, List.set_cons_succ]
            refine wpH_call (i := 15) (o := { dst := some 42, op := Op.call { callee := Callee.value (Operand.func 41), args := #[Operand.tmp 41], argTypes := #[66] }, type := 9, pos := _, after := #[{ on := 14, ground := Ground.data }, { on := 10, ground := Ground.chain }], guard := none }) (by kernel_rfl) rfl (fun K' hK => ?_)
            rw [if_pos (by rfl)]
            go_simp
            refine (N3.out _).mono ?_
            rintro e v9 ⟨rfl, t9⟩
            have sq9 := t9.keep sq8 (by simp)
            have T9 := hid (T8.out.trans' t9)
            have U9 := hid (U8.out.trans' t9)
            clear t9
            refine hK.out _ _ sq9 ?_
            clear hK
            try simp only [Go.Act.put, List.setIfInBounds_toArray, List.set_cons_zero, List.set_cons_succ]
            refine wpH_take (i := 16) (v := (.string (s1 ++ ⟨#[UInt8.ofNat kn]⟩ ++ cb ++ rb))) (some 43) rfl rfl (by kernel_rfl) (by kernel_rfl) (by kernel_rfl) (fun _ _ _ h => h) (Or.inl ⟨by rfl, fun w' hS => (by go_simp)⟩) sq9 ?_
            try simp only [Go.Act.put, List.setIfInBounds_toArray, List.set_cons_zero, List.set_cons_succ]
            refine wpH_take (i := 17) (v := (.string (s1 ++ ⟨#[UInt8.ofNat kn]⟩ ++ cb ++ rb))) (some 2) rfl rfl (by kernel_rfl) (by kernel_rfl) (by kernel_rfl) (fun _ _ _ h => h) (Or.inl ⟨by rfl, fun w' hS => (by go_simp)⟩) sq9 ?_
            try simp only [Go.Act.put, List.setIfInBounds_toArray, List.set_cons_zero, List.set_cons_succ]
            refine wpAnyH_done (by kernel_rfl) ?_ _
            go_wp2_with fail
            go_ret
            exact ⟨by rw [HR.out]; rfl, HT.out.trans' (TX.trans' (T9.out))⟩
          refine AllH.cons (o := { dst := some 37, op := Op.call { callee := Callee.value (Operand.func 41), args := #[Operand.tmp 36], argTypes := #[66] }, type := 9, pos := _, after := #[{ on := 9, ground := Ground.data }, { on := 9, ground := Ground.chain }], guard := none }) rfl (fun K' hK => ?_) ?_
          · rw [if_pos (by rfl)]
            go_simp
            refine (N2.out _).mono ?_
            rintro e v10 ⟨rfl, t10⟩
            have sq10 := t10.keep sq6 (by simp)
            have T10 := hid (T6.out.trans' t10)
            have U10 := hid (U6.out.trans' t10)
            clear t10
            refine hK.out _ _ sq10 ?_
            clear hK
            try simp only [Go.Act.put, List.setIfInBounds_toArray, List.set_cons_zero, List.set_cons_succ]
            refine wpH_ready (rs := [5, 15]) (by kernel_rfl) (by simp) ?_
            refine AllH.cons (o := { dst := some 32, op := Op.convert 91 9 (Operand.tmp 31), type := 9, pos := _, after := #[{ on := 4, ground := Ground.data }], guard := none }) rfl (fun K' hK => ?_) ?_
            · rw [if_pos (by rfl)]
              have hcv11 := B1.out _ U10.out
              go_simp
              clear hcv11
              refine hK.out _ _ sq10 ?_
              clear hK
              try simp only [Go.Act.put, List.setIfInBounds_toArray, List.set_cons_zero, List.set_cons_succ]
              refine wpH_take (i := 6) (v := (.string (s1 ++ ⟨#[UInt8.ofNat kn]⟩))) (some 33) rfl rfl (by kernel_rfl) (by kernel_rfl) (by kernel_rfl) (fun _ _ _ h => h) (Or.inl ⟨by rfl, fun w' hS => (by go_simp)⟩) sq10 ?_
              try simp only [Go.Act.put, List.setIfInBounds_toArray, List.set_cons_zero, List.set_cons_succ]
              refine wpH_take (i := 11) (v := (.string (s1 ++ ⟨#[UInt8.ofNat kn]⟩ ++ cb))) (some 38) rfl rfl (by kernel_rfl) (by kernel_rfl) (by kernel_rfl) (fun _ _ _ h => h) (Or.inl ⟨by rfl, fun w' hS => (by go_simp)⟩) sq10 ?_
              try simp only [Go.Act.put, List.setIfInBounds_toArray, List.set_cons_zero, List.set_cons_succ]
              refine wpH_call (i := 15) (o := { dst := some 42, op := Op.call { callee := Callee.value (Operand.func 41), args := #[Operand.tmp 41], argTypes := #[66] }, type := 9, pos := _, after := #[{ on := 14, ground := Ground.data }, { on := 10, ground := Ground.chain }], guard := none }) (by kernel_rfl) rfl (fun K' hK => ?_)
              rw [if_pos (by rfl)]
              go_simp
              refine (N3.out _).mono ?_
              rintro e v12 ⟨rfl, t12⟩
              have sq12 := t12.keep sq10 (by simp)
              have T12 := hid (T10.out.trans' t12)
              have U12 := hid (U10.out.trans' t12)
              clear t12
              refine hK.out _ _ sq12 ?_
              clear hK
              try simp only [Go.Act.put, List.setIfInBounds_toArray, List.set_cons_zero, List.set_cons_succ]
              refine wpH_take (i := 16) (v := (.string (s1 ++ ⟨#[UInt8.ofNat kn]⟩ ++ cb ++ rb))) (some 43) rfl rfl (by kernel_rfl) (by kernel_rfl) (by kernel_rfl) (fun _ _ _ h => h) (Or.inl ⟨by rfl, fun w' hS => (by go_simp)⟩) sq12 ?_
              try simp only [Go.Act.put, List.setIfInBounds_toArray, List.set_cons_zero, List.set_cons_succ]
              refine wpH_take (i := 17) (v := (.string (s1 ++ ⟨#[UInt8.ofNat kn]⟩ ++ cb ++ rb))) (some 2) rfl rfl (by kernel_rfl) (by kernel_rfl) (by kernel_rfl) (fun _ _ _ h => h) (Or.inl ⟨by rfl, fun w' hS => (by go_simp)⟩) sq12 ?_
              try simp only [Go.Act.put, List.setIfInBounds_toArray, List.set_cons_zero, List.set_cons_succ]
              refine wpAnyH_done (by kernel_rfl) ?_ _
              go_wp2_with fail
              go_ret
              exact ⟨by rw [HR.out]; rfl, HT.out.trans' (TX.trans' (T12.out))⟩
            refine AllH.cons (o := { dst := some 42, op := Op.call { callee := Callee.value (Operand.func 41), args := #[Operand.tmp 41], argTypes := #[66] }, type := 9, pos := _, after := #[{ on := 14, ground := Ground.data }, { on := 10, ground := Ground.chain }], guard := none }) rfl (fun K' hK => ?_) ?_
            · rw [if_pos (by rfl)]
              go_simp
              refine (N3.out _).mono ?_
              rintro e v13 ⟨rfl, t13⟩
              have sq13 := t13.keep sq10 (by simp)
              have T13 := hid (T10.out.trans' t13)
              have U13 := hid (U10.out.trans' t13)
              clear t13
              refine hK.out _ _ sq13 ?_
              clear hK
              try simp only [Go.Act.put, List.setIfInBounds_toArray, List.set_cons_zero, List.set_cons_succ]
              refine wpH_call (i := 5) (o := { dst := some 32, op := Op.convert 91 9 (Operand.tmp 31), type := 9, pos := _, after := #[{ on := 4, ground := Ground.data }], guard := none }) (by kernel_rfl) rfl (fun K' hK => ?_)
              rw [if_pos (by rfl)]
              have hcv14 := B1.out _ U13.out
              go_simp
              clear hcv14
              refine hK.out _ _ sq13 ?_
              clear hK
              try simp only [Go.Act.put, List.setIfInBounds_toArray, List.set_cons_zero, List.set_cons_succ]
              refine wpH_take (i := 6) (v := (.string (s1 ++ ⟨#[UInt8.ofNat kn]⟩))) (some 33) rfl rfl (by kernel_rfl) (by kernel_rfl) (by kernel_rfl) (fun _ _ _ h => h) (Or.inl ⟨by rfl, fun w' hS => (by go_simp)⟩) sq13 ?_
              try simp only [Go.Act.put, List.setIfInBounds_toArray, List.set_cons_zero, List.set_cons_succ]
              refine wpH_take (i := 11) (v := (.string (s1 ++ ⟨#[UInt8.ofNat kn]⟩ ++ cb))) (some 38) rfl rfl (by kernel_rfl) (by kernel_rfl) (by kernel_rfl) (fun _ _ _ h => h) (Or.inl ⟨by rfl, fun w' hS => (by go_simp)⟩) sq13 ?_
              try simp only [Go.Act.put, List.setIfInBounds_toArray, List.set_cons_zero, List.set_cons_succ]
              refine wpH_take (i := 16) (v := (.string (s1 ++ ⟨#[UInt8.ofNat kn]⟩ ++ cb ++ rb))) (some 43) rfl rfl (by kernel_rfl) (by kernel_rfl) (by kernel_rfl) (fun _ _ _ h => h) (Or.inl ⟨by rfl, fun w' hS => (by go_simp)⟩) sq13 ?_
              try simp only [Go.Act.put, List.setIfInBounds_toArray, List.set_cons_zero, List.set_cons_succ]
              refine wpH_take (i := 17) (v := (.string (s1 ++ ⟨#[UInt8.ofNat kn]⟩ ++ cb ++ rb))) (some 2) rfl rfl (by kernel_rfl) (by kernel_rfl) (by kernel_rfl) (fun _ _ _ h => h) (Or.inl ⟨by rfl, fun w' hS => (by go_simp)⟩) sq13 ?_
              try simp only [Go.Act.put, List.setIfInBounds_toArray, List.set_cons_zero, List.set_cons_succ]
              refine wpAnyH_done (by kernel_rfl) ?_ _
              go_wp2_with fail
              go_ret
              exact ⟨by rw [HR.out]; rfl, HT.out.trans' (TX.trans' (T13.out))⟩
            exact AllH.nil
          exact AllH.nil
        exact AllH.nil
      refine AllH.cons (o := { dst := some 36, op := Op.call { callee := Callee.value (Operand.func 91), args := #[Operand.tmp 35], argTypes := #[2] }, type := 66, pos := _, after := #[{ on := 8, ground := Ground.data }], guard := none }) rfl (fun K' hK => ?_) ?_
      · rw [if_pos (by rfl)]
        go_simp
        refine (S2.out _).mono ?_
        rintro e v15 ⟨rfl, t15⟩
        have sq15 := t15.keep s0 (by simp)
        have T15 := hid (T0.out.trans' t15)
        clear t15
        refine hK.out _ _ sq15 ?_
        clear hK
        try simp only [Go.Act.put, List.setIfInBounds_toArray, List.set_cons_zero, List.set_cons_succ]
        refine wpH_ready (rs := [4, 10]) (by kernel_rfl) (by simp) ?_
        refine AllH.cons (o := { dst := some 31, op := Op.buildSlice 91 1 #[(0, Operand.tmp 30)], type := 91, pos := _, after := #[{ on := 3, ground := Ground.data }], guard := none }) rfl (fun K' hK => ?_) ?_
        · rw [if_pos (by rfl)]
          go_simp
          have sq16 := (((Touch.refl [] v15).alloc (.cells #[.int .u8 (kn : Int)] 5))).keep sq15 (by simp)
          have T16 := hid (T15.out.alloc (.cells #[.int .u8 (kn : Int)] 5))
          have B16 := hid (conv1' HKn.out (heap_alloc_new v15 (.cells #[.int .u8 (kn : Int)] 5)))
          refine hK.out _ _ sq16 ?_
          clear hK
          try simp only [Go.Act.put, List.setIfInBounds_toArray, List.set_cons_zero, List.set_cons_succ]
          refine wpH_ready (rs := [5, 10]) (by kernel_rfl) (by simp) ?_
          refine AllH.cons (o := { dst := some 32, op := Op.convert 91 9 (Operand.tmp 31), type := 9, pos := _, after := #[{ on := 4, ground := Ground.data }], guard := none }) rfl (fun K' hK => ?_) ?_
          · rw [if_pos (by rfl)]
            have hcv17 := B16.out _ (Touch.refl [] (v15.alloc (.cells #[.int .u8 (kn : Int)] 5)))
            go_simp
            clear hcv17
            refine hK.out _ _ sq16 ?_
            clear hK
            try simp only [Go.Act.put, List.setIfInBounds_toArray, List.set_cons_zero, List.set_cons_succ]
            refine wpH_take (i := 6) (v := (.string (s1 ++ ⟨#[UInt8.ofNat kn]⟩))) (some 33) rfl rfl (by kernel_rfl) (by kernel_rfl) (by kernel_rfl) (fun _ _ _ h => h) (Or.inl ⟨by rfl, fun w' hS => (by go_simp)⟩) sq16 ?_
            try simp only [Go.Act.put, List.setIfInBounds_toArray, List.set_cons_zero, List.set_cons_succ]
            refine wpH_call (i := 10) (o := { dst := some 37, op := Op.call { callee := Callee.value (Operand.func 41), args := #[Operand.tmp 36], argTypes := #[66] }, type := 9, pos := _, after := #[{ on := 9, ground := Ground.data }, { on := 9, ground := Ground.chain }], guard := none }) (by kernel_rfl) rfl (fun K' hK => ?_)
            rw [if_pos (by rfl)]
            go_simp
            refine (N2.out _).mono ?_
            rintro e v18 ⟨rfl, t18⟩
            have sq18 := t18.keep sq16 (by simp)
            have T18 := hid (T16.out.trans' t18)
            have U18 := hid t18
            clear t18
            refine hK.out _ _ sq18 ?_
            clear hK
            try simp only [Go.Act.put, List.setIfInBounds_toArray, List.set_cons_zero, List.set_cons_succ]
            refine wpH_take (i := 11) (v := (.string (s1 ++ ⟨#[UInt8.ofNat kn]⟩ ++ cb))) (some 38) rfl rfl (by kernel_rfl) (by kernel_rfl) (by kernel_rfl) (fun _ _ _ h => h) (Or.inl ⟨by rfl, fun w' hS => (by go_simp)⟩) sq18 ?_
            try simp only [Go.Act.put, List.setIfInBounds_toArray, List.set_cons_zero, List.set_cons_succ]
            refine wpH_call (i := 15) (o := { dst := some 42, op := Op.call { callee := Callee.value (Operand.func 41), args := #[Operand.tmp 41], argTypes := #[66] }, type := 9, pos := _, after := #[{ on := 14, ground := Ground.data }, { on := 10, ground := Ground.chain }], guard := none }) (by kernel_rfl) rfl (fun K' hK => ?_)
            rw [if_pos (by rfl)]
            go_simp
            refine (N3.out _).mono ?_
            rintro e v19 ⟨rfl, t19⟩
            have sq19 := t19.keep sq18 (by simp)
            have T19 := hid (T18.out.trans' t19)
            have U19 := hid (U18.out.trans' t19)
            clear t19
            refine hK.out _ _ sq19 ?_
            clear hK
            try simp only [Go.Act.put, List.setIfInBounds_toArray, List.set_cons_zero, List.set_cons_succ]
            refine wpH_take (i := 16) (v := (.string (s1 ++ ⟨#[UInt8.ofNat kn]⟩ ++ cb ++ rb))) (some 43) rfl rfl (by kernel_rfl) (by kernel_rfl) (by kernel_rfl) (fun _ _ _ h => h) (Or.inl ⟨by rfl, fun w' hS => (by go_simp)⟩) sq19 ?_
            try simp only [Go.Act.put, List.setIfInBounds_toArray, List.set_cons_zero, List.set_cons_succ]
            refine wpH_take (i := 17) (v := (.string (s1 ++ ⟨#[UInt8.ofNat kn]⟩ ++ cb ++ rb))) (some 2) rfl rfl (by kernel_rfl) (by kernel_rfl) (by kernel_rfl) (fun _ _ _ h => h) (Or.inl ⟨by rfl, fun w' hS => (by go_simp)⟩) sq19 ?_
            try simp only [Go.Act.put, List.setIfInBounds_toArray, List.set_cons_zero, List.set_cons_succ]
            refine wpAnyH_done (by kernel_rfl) ?_ _
            go_wp2_with fail
            go_ret
            exact ⟨by rw [HR.out]; rfl, HT.out.trans' (TX.trans' (T19.out))⟩
          refine AllH.cons (o := { dst := some 37, op := Op.call { callee := Callee.value (Operand.func 41), args := #[Operand.tmp 36], argTypes := #[66] }, type := 9, pos := _, after := #[{ on := 9, ground := Ground.data }, { on := 9, ground := Ground.chain }], guard := none }) rfl (fun K' hK => ?_) ?_
          · rw [if_pos (by rfl)]
            go_simp
            refine (N2.out _).mono ?_
            rintro e v20 ⟨rfl, t20⟩
            have sq20 := t20.keep sq16 (by simp)
            have T20 := hid (T16.out.trans' t20)
            have U20 := hid t20
            clear t20
            refine hK.out _ _ sq20 ?_
            clear hK
            try simp only [Go.Act.put, List.setIfInBounds_toArray, List.set_cons_zero, List.set_cons_succ]
            refine wpH_ready (rs := [5, 15]) (by kernel_rfl) (by simp) ?_
            refine AllH.cons (o := { dst := some 32, op := Op.convert 91 9 (Operand.tmp 31), type := 9, pos := _, after := #[{ on := 4, ground := Ground.data }], guard := none }) rfl (fun K' hK => ?_) ?_
            · rw [if_pos (by rfl)]
              have hcv21 := B16.out _ U20.out
              go_simp
              clear hcv21
              refine hK.out _ _ sq20 ?_
              clear hK
              try simp only [Go.Act.put, List.setIfInBounds_toArray, List.set_cons_zero, List.set_cons_succ]
              refine wpH_take (i := 6) (v := (.string (s1 ++ ⟨#[UInt8.ofNat kn]⟩))) (some 33) rfl rfl (by kernel_rfl) (by kernel_rfl) (by kernel_rfl) (fun _ _ _ h => h) (Or.inl ⟨by rfl, fun w' hS => (by go_simp)⟩) sq20 ?_
              try simp only [Go.Act.put, List.setIfInBounds_toArray, List.set_cons_zero, List.set_cons_succ]
              refine wpH_take (i := 11) (v := (.string (s1 ++ ⟨#[UInt8.ofNat kn]⟩ ++ cb))) (some 38) rfl rfl (by kernel_rfl) (by kernel_rfl) (by kernel_rfl) (fun _ _ _ h => h) (Or.inl ⟨by rfl, fun w' hS => (by go_simp)⟩) sq20 ?_
              try simp only [Go.Act.put, List.setIfInBounds_toArray, List.set_cons_zero, List.set_cons_succ]
              refine wpH_call (i := 15) (o := { dst := some 42, op := Op.call { callee := Callee.value (Operand.func 41), args := #[Operand.tmp 41], argTypes := #[66] }, type := 9, pos := _, after := #[{ on := 14, ground := Ground.data }, { on := 10, ground := Ground.chain }], guard := none }) (by kernel_rfl) rfl (fun K' hK => ?_)
              rw [if_pos (by rfl)]
              go_simp
              refine (N3.out _).mono ?_
              rintro e v22 ⟨rfl, t22⟩
              have sq22 := t22.keep sq20 (by simp)
              have T22 := hid (T20.out.trans' t22)
              have U22 := hid (U20.out.trans' t22)
              clear t22
              refine hK.out _ _ sq22 ?_
              clear hK
              try simp only [Go.Act.put, List.setIfInBounds_toArray, List.set_cons_zero, List.set_cons_succ]
              refine wpH_take (i := 16) (v := (.string (s1 ++ ⟨#[UInt8.ofNat kn]⟩ ++ cb ++ rb))) (some 43) rfl rfl (by kernel_rfl) (by kernel_rfl) (by kernel_rfl) (fun _ _ _ h => h) (Or.inl ⟨by rfl, fun w' hS => (by go_simp)⟩) sq22 ?_
              try simp only [Go.Act.put, List.setIfInBounds_toArray, List.set_cons_zero, List.set_cons_succ]
              refine wpH_take (i := 17) (v := (.string (s1 ++ ⟨#[UInt8.ofNat kn]⟩ ++ cb ++ rb))) (some 2) rfl rfl (by kernel_rfl) (by kernel_rfl) (by kernel_rfl) (fun _ _ _ h => h) (Or.inl ⟨by rfl, fun w' hS => (by go_simp)⟩) sq22 ?_
              try simp only [Go.Act.put, List.setIfInBounds_toArray, List.set_cons_zero, List.set_cons_succ]
              refine wpAnyH_done (by kernel_rfl) ?_ _
              go_wp2_with fail
              go_ret
              exact ⟨by rw [HR.out]; rfl, HT.out.trans' (TX.trans' (T22.out))⟩
            refine AllH.cons (o := { dst := some 42, op := Op.call { callee := Callee.value (Operand.func 41), args := #[Operand.tmp 41], argTypes := #[66] }, type := 9, pos := _, after := #[{ on := 14, ground := Ground.data }, { on := 10, ground := Ground.chain }], guard := none }) rfl (fun K' hK => ?_) ?_
            · rw [if_pos (by rfl)]
              go_simp
              refine (N3.out _).mono ?_
              rintro e v23 ⟨rfl, t23⟩
              have sq23 := t23.keep sq20 (by simp)
              have T23 := hid (T20.out.trans' t23)
              have U23 := hid (U20.out.trans' t23)
              clear t23
              refine hK.out _ _ sq23 ?_
              clear hK
              try simp only [Go.Act.put, List.setIfInBounds_toArray, List.set_cons_zero, List.set_cons_succ]
              refine wpH_call (i := 5) (o := { dst := some 32, op := Op.convert 91 9 (Operand.tmp 31), type := 9, pos := _, after := #[{ on := 4, ground := Ground.data }], guard := none }) (by kernel_rfl) rfl (fun K' hK => ?_)
              rw [if_pos (by rfl)]
              have hcv24 := B16.out _ U23.out
              go_simp
              clear hcv24
              refine hK.out _ _ sq23 ?_
              clear hK
              try simp only [Go.Act.put, List.setIfInBounds_toArray, List.set_cons_zero, List.set_cons_succ]
              refine wpH_take (i := 6) (v := (.string (s1 ++ ⟨#[UInt8.ofNat kn]⟩))) (some 33) rfl rfl (by kernel_rfl) (by kernel_rfl) (by kernel_rfl) (fun _ _ _ h => h) (Or.inl ⟨by rfl, fun w' hS => (by go_simp)⟩) sq23 ?_
              try simp only [Go.Act.put, List.setIfInBounds_toArray, List.set_cons_zero, List.set_cons_succ]
              refine wpH_take (i := 11) (v := (.string (s1 ++ ⟨#[UInt8.ofNat kn]⟩ ++ cb))) (some 38) rfl rfl (by kernel_rfl) (by kernel_rfl) (by kernel_rfl) (fun _ _ _ h => h) (Or.inl ⟨by rfl, fun w' hS => (by go_simp)⟩) sq23 ?_
              try simp only [Go.Act.put, List.setIfInBounds_toArray, List.set_cons_zero, List.set_cons_succ]
              refine wpH_take (i := 16) (v := (.string (s1 ++ ⟨#[UInt8.ofNat kn]⟩ ++ cb ++ rb))) (some 43) rfl rfl (by kernel_rfl) (by kernel_rfl) (by kernel_rfl) (fun _ _ _ h => h) (Or.inl ⟨by rfl, fun w' hS => (by go_simp)⟩) sq23 ?_
              try simp only [Go.Act.put, List.setIfInBounds_toArray, List.set_cons_zero, List.set_cons_succ]
              refine wpH_take (i := 17) (v := (.string (s1 ++ ⟨#[UInt8.ofNat kn]⟩ ++ cb ++ rb))) (some 2) rfl rfl (by kernel_rfl) (by kernel_rfl) (by kernel_rfl) (fun _ _ _ h => h) (Or.inl ⟨by rfl, fun w' hS => (by go_simp)⟩) sq23 ?_
              try simp only [Go.Act.put, List.setIfInBounds_toArray, List.set_cons_zero, List.set_cons_succ]
              refine wpAnyH_done (by kernel_rfl) ?_ _
              go_wp2_with fail
              go_ret
              exact ⟨by rw [HR.out]; rfl, HT.out.trans' (TX.trans' (T23.out))⟩
            exact AllH.nil
          exact AllH.nil
        refine AllH.cons (o := { dst := some 37, op := Op.call { callee := Callee.value (Operand.func 41), args := #[Operand.tmp 36], argTypes := #[66] }, type := 9, pos := _, after := #[{ on := 9, ground := Ground.data }, { on := 9, ground := Ground.chain }], guard := none }) rfl (fun K' hK => ?_) ?_
        · rw [if_pos (by rfl)]
          go_simp
          refine (N2.out _).mono ?_
          rintro e v25 ⟨rfl, t25⟩
          have sq25 := t25.keep sq15 (by simp)
          have T25 := hid (T15.out.trans' t25)
          clear t25
          refine hK.out _ _ sq25 ?_
          clear hK
          try simp only [Go.Act.put, List.setIfInBounds_toArray, List.set_cons_zero, List.set_cons_succ]
          refine wpH_ready (rs := [4, 15]) (by kernel_rfl) (by simp) ?_
          refine AllH.cons (o := { dst := some 31, op := Op.buildSlice 91 1 #[(0, Operand.tmp 30)], type := 91, pos := _, after := #[{ on := 3, ground := Ground.data }], guard := none }) rfl (fun K' hK => ?_) ?_
          · rw [if_pos (by rfl)]
            go_simp
            have sq26 := (((Touch.refl [] v25).alloc (.cells #[.int .u8 (kn : Int)] 5))).keep sq25 (by simp)
            have T26 := hid (T25.out.alloc (.cells #[.int .u8 (kn : Int)] 5))
            have B26 := hid (conv1' HKn.out (heap_alloc_new v25 (.cells #[.int .u8 (kn : Int)] 5)))
            refine hK.out _ _ sq26 ?_
            clear hK
            try simp only [Go.Act.put, List.setIfInBounds_toArray, List.set_cons_zero, List.set_cons_succ]
            refine wpH_ready (rs := [5, 15]) (by kernel_rfl) (by simp) ?_
            refine AllH.cons (o := { dst := some 32, op := Op.convert 91 9 (Operand.tmp 31), type := 9, pos := _, after := #[{ on := 4, ground := Ground.data }], guard := none }) rfl (fun K' hK => ?_) ?_
            · rw [if_pos (by rfl)]
              have hcv27 := B26.out _ (Touch.refl [] (v25.alloc (.cells #[.int .u8 (kn : Int)] 5)))
              go_simp
              clear hcv27
              refine hK.out _ _ sq26 ?_
              clear hK
              try simp only [Go.Act.put, List.setIfInBounds_toArray, List.set_cons_zero, List.set_cons_succ]
              refine wpH_take (i := 6) (v := (.string (s1 ++ ⟨#[UInt8.ofNat kn]⟩))) (some 33) rfl rfl (by kernel_rfl) (by kernel_rfl) (by kernel_rfl) (fun _ _ _ h => h) (Or.inl ⟨by rfl, fun w' hS => (by go_simp)⟩) sq26 ?_
              try simp only [Go.Act.put, List.setIfInBounds_toArray, List.set_cons_zero, List.set_cons_succ]
              refine wpH_take (i := 11) (v := (.string (s1 ++ ⟨#[UInt8.ofNat kn]⟩ ++ cb))) (some 38) rfl rfl (by kernel_rfl) (by kernel_rfl) (by kernel_rfl) (fun _ _ _ h => h) (Or.inl ⟨by rfl, fun w' hS => (by go_simp)⟩) sq26 ?_
              try simp only [Go.Act.put, List.setIfInBounds_toArray, List.set_cons_zero, List.set_cons_succ]
              refine wpH_call (i := 15) (o := { dst := some 42, op := Op.call { callee := Callee.value (Operand.func 41), args := #[Operand.tmp 41], argTypes := #[66] }, type := 9, pos := _, after := #[{ on := 14, ground := Ground.data }, { on := 10, ground := Ground.chain }], guard := none }) (by kernel_rfl) rfl (fun K' hK => ?_)
              rw [if_pos (by rfl)]
              go_simp
              refine (N3.out _).mono ?_
              rintro e v28 ⟨rfl, t28⟩
              have sq28 := t28.keep sq26 (by simp)
              have T28 := hid (T26.out.trans' t28)
              have U28 := hid t28
              clear t28
              refine hK.out _ _ sq28 ?_
              clear hK
              try simp only [Go.Act.put, List.setIfInBounds_toArray, List.set_cons_zero, List.set_cons_succ]
              refine wpH_take (i := 16) (v := (.string (s1 ++ ⟨#[UInt8.ofNat kn]⟩ ++ cb ++ rb))) (some 43) rfl rfl (by kernel_rfl) (by kernel_rfl) (by kernel_rfl) (fun _ _ _ h => h) (Or.inl ⟨by rfl, fun w' hS => (by go_simp)⟩) sq28 ?_
              try simp only [Go.Act.put, List.setIfInBounds_toArray, List.set_cons_zero, List.set_cons_succ]
              refine wpH_take (i := 17) (v := (.string (s1 ++ ⟨#[UInt8.ofNat kn]⟩ ++ cb ++ rb))) (some 2) rfl rfl (by kernel_rfl) (by kernel_rfl) (by kernel_rfl) (fun _ _ _ h => h) (Or.inl ⟨by rfl, fun w' hS => (by go_simp)⟩) sq28 ?_
              try simp only [Go.Act.put, List.setIfInBounds_toArray, List.set_cons_zero, List.set_cons_succ]
              refine wpAnyH_done (by kernel_rfl) ?_ _
              go_wp2_with fail
              go_ret
              exact ⟨by rw [HR.out]; rfl, HT.out.trans' (TX.trans' (T28.out))⟩
            refine AllH.cons (o := { dst := some 42, op := Op.call { callee := Callee.value (Operand.func 41), args := #[Operand.tmp 41], argTypes := #[66] }, type := 9, pos := _, after := #[{ on := 14, ground := Ground.data }, { on := 10, ground := Ground.chain }], guard := none }) rfl (fun K' hK => ?_) ?_
            · rw [if_pos (by rfl)]
              go_simp
              refine (N3.out _).mono ?_
              rintro e v29 ⟨rfl, t29⟩
              have sq29 := t29.keep sq26 (by simp)
              have T29 := hid (T26.out.trans' t29)
              have U29 := hid t29
              clear t29
              refine hK.out _ _ sq29 ?_
              clear hK
              try simp only [Go.Act.put, List.setIfInBounds_toArray, List.set_cons_zero, List.set_cons_succ]
              refine wpH_call (i := 5) (o := { dst := some 32, op := Op.convert 91 9 (Operand.tmp 31), type := 9, pos := _, after := #[{ on := 4, ground := Ground.data }], guard := none }) (by kernel_rfl) rfl (fun K' hK => ?_)
              rw [if_pos (by rfl)]
              have hcv30 := B26.out _ U29.out
              go_simp
              clear hcv30
              refine hK.out _ _ sq29 ?_
              clear hK
              try simp only [Go.Act.put, List.setIfInBounds_toArray, List.set_cons_zero, List.set_cons_succ]
              refine wpH_take (i := 6) (v := (.string (s1 ++ ⟨#[UInt8.ofNat kn]⟩))) (some 33) rfl rfl (by kernel_rfl) (by kernel_rfl) (by kernel_rfl) (fun _ _ _ h => h) (Or.inl ⟨by rfl, fun w' hS => (by go_simp)⟩) sq29 ?_
              try simp only [Go.Act.put, List.setIfInBounds_toArray, List.set_cons_zero, List.set_cons_succ]
              refine wpH_take (i := 11) (v := (.string (s1 ++ ⟨#[UInt8.ofNat kn]⟩ ++ cb))) (some 38) rfl rfl (by kernel_rfl) (by kernel_rfl) (by kernel_rfl) (fun _ _ _ h => h) (Or.inl ⟨by rfl, fun w' hS => (by go_simp)⟩) sq29 ?_
              try simp only [Go.Act.put, List.setIfInBounds_toArray, List.set_cons_zero, List.set_cons_succ]
              refine wpH_take (i := 16) (v := (.string (s1 ++ ⟨#[UInt8.ofNat kn]⟩ ++ cb ++ rb))) (some 43) rfl rfl (by kernel_rfl) (by kernel_rfl) (by kernel_rfl) (fun _ _ _ h => h) (Or.inl ⟨by rfl, fun w' hS => (by go_simp)⟩) sq29 ?_
              try simp only [Go.Act.put, List.setIfInBounds_toArray, List.set_cons_zero, List.set_cons_succ]
              refine wpH_take (i := 17) (v := (.string (s1 ++ ⟨#[UInt8.ofNat kn]⟩ ++ cb ++ rb))) (some 2) rfl rfl (by kernel_rfl) (by kernel_rfl) (by kernel_rfl) (fun _ _ _ h => h) (Or.inl ⟨by rfl, fun w' hS => (by go_simp)⟩) sq29 ?_
              try simp only [Go.Act.put, List.setIfInBounds_toArray, List.set_cons_zero, List.set_cons_succ]
              refine wpAnyH_done (by kernel_rfl) ?_ _
              go_wp2_with fail
              go_ret
              exact ⟨by rw [HR.out]; rfl, HT.out.trans' (TX.trans' (T29.out))⟩
            exact AllH.nil
          refine AllH.cons (o := { dst := some 42, op := Op.call { callee := Callee.value (Operand.func 41), args := #[Operand.tmp 41], argTypes := #[66] }, type := 9, pos := _, after := #[{ on := 14, ground := Ground.data }, { on := 10, ground := Ground.chain }], guard := none }) rfl (fun K' hK => ?_) ?_
          · rw [if_pos (by rfl)]
            go_simp
            refine (N3.out _).mono ?_
            rintro e v31 ⟨rfl, t31⟩
            have sq31 := t31.keep sq25 (by simp)
            have T31 := hid (T25.out.trans' t31)
            clear t31
            refine hK.out _ _ sq31 ?_
            clear hK
            try simp only [Go.Act.put, List.setIfInBounds_toArray, List.set_cons_zero, List.set_cons_succ]
            refine wpH_call (i := 4) (o := { dst := some 31, op := Op.buildSlice 91 1 #[(0, Operand.tmp 30)], type := 91, pos := _, after := #[{ on := 3, ground := Ground.data }], guard := none }) (by kernel_rfl) rfl (fun K' hK => ?_)
            rw [if_pos (by rfl)]
            go_simp
            have sq32 := (((Touch.refl [] v31).alloc (.cells #[.int .u8 (kn : Int)] 5))).keep sq31 (by simp)
            have T32 := hid (T31.out.alloc (.cells #[.int .u8 (kn : Int)] 5))
            have B32 := hid (conv1' HKn.out (heap_alloc_new v31 (.cells #[.int .u8 (kn : Int)] 5)))
            refine hK.out _ _ sq32 ?_
            clear hK
            try simp only [Go.Act.put, List.setIfInBounds_toArray, List.set_cons_zero, List.set_cons_succ]
            refine wpH_call (i := 5) (o := { dst := some 32, op := Op.convert 91 9 (Operand.tmp 31), type := 9, pos := _, after := #[{ on := 4, ground := Ground.data }], guard := none }) (by kernel_rfl) rfl (fun K' hK => ?_)
            rw [if_pos (by rfl)]
            have hcv33 := B32.out _ (Touch.refl [] (v31.alloc (.cells #[.int .u8 (kn : Int)] 5)))
            go_simp
            clear hcv33
            refine hK.out _ _ sq32 ?_
            clear hK
            try simp only [Go.Act.put, List.setIfInBounds_toArray, List.set_cons_zero, List.set_cons_succ]
            refine wpH_take (i := 6) (v := (.string (s1 ++ ⟨#[UInt8.ofNat kn]⟩))) (some 33) rfl rfl (by kernel_rfl) (by kernel_rfl) (by kernel_rfl) (fun _ _ _ h => h) (Or.inl ⟨by rfl, fun w' hS => (by go_simp)⟩) sq32 ?_
            try simp only [Go.Act.put, List.setIfInBounds_toArray, List.set_cons_zero, List.set_cons_succ]
            refine wpH_take (i := 11) (v := (.string (s1 ++ ⟨#[UInt8.ofNat kn]⟩ ++ cb))) (some 38) rfl rfl (by kernel_rfl) (by kernel_rfl) (by kernel_rfl) (fun _ _ _ h => h) (Or.inl ⟨by rfl, fun w' hS => (by go_simp)⟩) sq32 ?_
            try simp only [Go.Act.put, List.setIfInBounds_toArray, List.set_cons_zero, List.set_cons_succ]
            refine wpH_take (i := 16) (v := (.string (s1 ++ ⟨#[UInt8.ofNat kn]⟩ ++ cb ++ rb))) (some 43) rfl rfl (by kernel_rfl) (by kernel_rfl) (by kernel_rfl) (fun _ _ _ h => h) (Or.inl ⟨by rfl, fun w' hS => (by go_simp)⟩) sq32 ?_
            try simp only [Go.Act.put, List.setIfInBounds_toArray, List.set_cons_zero, List.set_cons_succ]
            refine wpH_take (i := 17) (v := (.string (s1 ++ ⟨#[UInt8.ofNat kn]⟩ ++ cb ++ rb))) (some 2) rfl rfl (by kernel_rfl) (by kernel_rfl) (by kernel_rfl) (fun _ _ _ h => h) (Or.inl ⟨by rfl, fun w' hS => (by go_simp)⟩) sq32 ?_
            try simp only [Go.Act.put, List.setIfInBounds_toArray, List.set_cons_zero, List.set_cons_succ]
            refine wpAnyH_done (by kernel_rfl) ?_ _
            go_wp2_with fail
            go_ret
            exact ⟨by rw [HR.out]; rfl, HT.out.trans' (TX.trans' (T32.out))⟩
          exact AllH.nil
        exact AllH.nil
      exact AllH.nil
end Go.Proofs.YtpefbmheblfbeaaGreat.Sn
/- The contract of the document's Tell: the bytes of a memo; the memo's numbers are of 64 bits. -/
namespace Go.Proofs.YtpefbmheblfbeaaGreat.Sn
open Go.RowKit Go.Sort Go.Shelf Me
set_option linter.unusedVariables false
set_option linter.unusedSimpArgs false
def mv (c : Cf) (now : Int) (v : Value) : Value := .agg #[.int .i64 c.t, .int .i64 c.n, .int .i64 c.s, .int .i64 c.e, .int .i64 c.f, .int .i64 c.b, .int .i64 c.d, .int .i64 now, v]
set_option maxHeartbeats 8000000 in
theorem rtell_ {w : World} {c : Cf} {now : Int} {xs : List En} {v : Value} (hv : RN 88 w v xs) (hk : MmOk c now xs) (hr : ∀ x ∈ xs, right x.2.1 = true) : Calls Tryz.prog 11 #[mv c now v] w fun e w' => e = .returned (.string ⟨(tellB c now xs).toArray⟩) ∧ Touch [] w w' := by
  obtain ⟨a, cp, rfl, hnc, hat⟩ := id hv
  obtain ⟨n, hn'⟩ : ∃ n, n = xs.length := ⟨_, rfl⟩
  rw [← hn'] at hv ⊢
  have HN := hid hn'
  have HN7 : Hid (n ≤ 65536) := hid (by have := hk.l; omega)
  have HG : Hid (0 < n → ∃ g off, a = some ⟨g, off, none⟩) := hid (fun hp => by obtain ⟨g, off, e, _⟩ := hat (by omega); exact ⟨g, off, e⟩)
  obtain ⟨V1, hV1⟩ : ∃ V1, V1 = w.alloc (.cells #[.int .i64 c.t, .int .i64 c.n, .int .i64 c.s, .int .i64 c.e, .int .i64 c.f, .int .i64 c.b, .int .i64 c.d, .int .i64 now, .slice a n cp] 32) := ⟨_, rfl⟩
  have T1 : Touch [] w V1 := by rw [hV1]; exact (Touch.refl _ _).alloc _
  have hb1 : V1.heap[w.heap.size]? = some (.cells #[.int .i64 c.t, .int .i64 c.n, .int .i64 c.s, .int .i64 c.e, .int .i64 c.f, .int .i64 c.b, .int .i64 c.d, .int .i64 now, .slice a n cp] 32 (0, 0)) := by rw [hV1]; exact heap_alloc_new w _
  obtain ⟨V, hV⟩ : ∃ V, V = V1.alloc (.cells #[.int .i64 c.t, .int .i64 c.n, .int .i64 c.s, .int .i64 c.e, .int .i64 c.f, .int .i64 c.b, .int .i64 c.d] 29) := ⟨_, rfl⟩
  have T2 : Touch [] V1 V := by rw [hV]; exact (Touch.refl _ _).alloc _
  have hb2 : V.heap[V1.heap.size]? = some (.cells #[.int .i64 c.t, .int .i64 c.n, .int .i64 c.s, .int .i64 c.e, .int .i64 c.f, .int .i64 c.b, .int .i64 c.d] 29 (0, 0)) := by rw [hV]; exact heap_alloc_new V1 _
  have hb1' := T2.keep hb1 (by simp)
  have zz : w.heap.size < V1.heap.size := block_lt hb1
  have p0 := cell_of (n := 0) hb1 rfl
  have p1 := cell_of (n := 1) hb1 rfl
  have p2 := cell_of (n := 2) hb1 rfl
  have p3 := cell_of (n := 3) hb1 rfl
  have p4 := cell_of (n := 4) hb1 rfl
  have p5 := cell_of (n := 5) hb1 rfl
  have p6 := cell_of (n := 6) hb1 rfl
  have D8 : ∀ w1, Touch [] V w1 → w1.cell? ⟨w.heap.size, 8, none⟩ = some (.slice a n cp) := fun w1 t1 => cell_at (t1.keep hb1' (by simp)) rfl
  have HT := hid (T1.trans' T2)
  have HR := hid (fun w1 (t1 : Touch [] V w1) => RN.keep hv ((T1.trans' T2).trans' t1))
  have HX := hid hk.x
  have HRR := hid hr
  have HBd := hid (bodyB_len hk)
  obtain ⟨n0, hn0⟩ : ∃ k : Nat, c.t = (k : Int) := ⟨c.t.toNat, by have := hk.c.t.1; omega⟩
  have m0 : n0 ≤ 9223372036854775807 := by have := hk.c.t.2; omega
  obtain ⟨n1, hn1⟩ : ∃ k : Nat, c.n = (k : Int) := ⟨c.n.toNat, by have := hk.c.n.1; omega⟩
  have m1 : n1 ≤ 9223372036854775807 := by have := hk.c.n.2; omega
  obtain ⟨n2, hn2⟩ : ∃ k : Nat, c.s = (k : Int) := ⟨c.s.toNat, by have := hk.c.s.1; omega⟩
  have m2 : n2 ≤ 9223372036854775807 := by have := hk.c.s.2; omega
  obtain ⟨n3, hn3⟩ : ∃ k : Nat, c.e = (k : Int) := ⟨c.e.toNat, by have := hk.c.e.1; omega⟩
  have m3 : n3 ≤ 9223372036854775807 := by have := hk.c.e.2; omega
  obtain ⟨n4, hn4⟩ : ∃ k : Nat, c.f = (k : Int) := ⟨c.f.toNat, by have := hk.c.f.1; omega⟩
  have m4 : n4 ≤ 9223372036854775807 := by have := hk.c.f.2; omega
  obtain ⟨n5, hn5⟩ : ∃ k : Nat, c.b = (k : Int) := ⟨c.b.toNat, by have := hk.c.b.1; omega⟩
  have m5 : n5 ≤ 9223372036854775807 := by have := hk.c.b.2; omega
  obtain ⟨n6, hn6⟩ : ∃ k : Nat, c.d = (k : Int) := ⟨c.d.toNat, by have := hk.c.d.1; omega⟩
  have m6 : n6 ≤ 9223372036854775807 := by have := hk.c.d.2; omega
  obtain ⟨n7, hn7⟩ : ∃ k : Nat, now = (k : Int) := ⟨now.toNat, by have := hk.n.1; omega⟩
  have m7 : n7 ≤ 9223372036854775807 := by have := hk.n.2; omega
  have C0 : ∀ w1, Touch [] V w1 → w1.cell? ⟨V1.heap.size, 0, none⟩ = some (.int .i64 (n0 : Int)) := fun w1 t1 => by rw [← hn0]; exact cell_at (t1.keep hb2 (by simp)) rfl
  have C1 : ∀ w1, Touch [] V w1 → w1.cell? ⟨V1.heap.size, 1, none⟩ = some (.int .i64 (n1 : Int)) := fun w1 t1 => by rw [← hn1]; exact cell_at (t1.keep hb2 (by simp)) rfl
  have C2 : ∀ w1, Touch [] V w1 → w1.cell? ⟨V1.heap.size, 2, none⟩ = some (.int .i64 (n2 : Int)) := fun w1 t1 => by rw [← hn2]; exact cell_at (t1.keep hb2 (by simp)) rfl
  have C3 : ∀ w1, Touch [] V w1 → w1.cell? ⟨V1.heap.size, 3, none⟩ = some (.int .i64 (n3 : Int)) := fun w1 t1 => by rw [← hn3]; exact cell_at (t1.keep hb2 (by simp)) rfl
  have C4 : ∀ w1, Touch [] V w1 → w1.cell? ⟨V1.heap.size, 4, none⟩ = some (.int .i64 (n4 : Int)) := fun w1 t1 => by rw [← hn4]; exact cell_at (t1.keep hb2 (by simp)) rfl
  have C5 : ∀ w1, Touch [] V w1 → w1.cell? ⟨V1.heap.size, 5, none⟩ = some (.int .i64 (n5 : Int)) := fun w1 t1 => by rw [← hn5]; exact cell_at (t1.keep hb2 (by simp)) rfl
  have C6 : ∀ w1, Touch [] V w1 → w1.cell? ⟨V1.heap.size, 6, none⟩ = some (.int .i64 (n6 : Int)) := fun w1 t1 => by rw [← hn6]; exact cell_at (t1.keep hb2 (by simp)) rfl
  have D7 : ∀ w1, Touch [] V w1 → w1.cell? ⟨w.heap.size, 7, none⟩ = some (.int .i64 (n7 : Int)) := fun w1 t1 => by rw [← hn7]; exact cell_at (t1.keep hb1' (by simp)) rfl
  have m8 : n ≤ 9223372036854775807 := by have := HN7.out; omega
  have K0 := hid (fun w => rnumber_ w n0 (by omega))
  have w0 : IntKind.u64.wrap (n0 : Int) = (n0 : Int) := by rw [IntKind.wrap_u64]; omega
  have z0 : (⟨(numL n0).toArray⟩ : ByteArray).size ≤ 10 := by rw [size_arr]; exact numL_10 (by omega)
  have K1 := hid (fun w => rnumber_ w n1 (by omega))
  have w1 : IntKind.u64.wrap (n1 : Int) = (n1 : Int) := by rw [IntKind.wrap_u64]; omega
  have z1 : (⟨(numL n1).toArray⟩ : ByteArray).size ≤ 10 := by rw [size_arr]; exact numL_10 (by omega)
  have K2 := hid (fun w => rnumber_ w n2 (by omega))
  have w2 : IntKind.u64.wrap (n2 : Int) = (n2 : Int) := by rw [IntKind.wrap_u64]; omega
  have z2 : (⟨(numL n2).toArray⟩ : ByteArray).size ≤ 10 := by rw [size_arr]; exact numL_10 (by omega)
  have K3 := hid (fun w => rnumber_ w n3 (by omega))
  have w3 : IntKind.u64.wrap (n3 : Int) = (n3 : Int) := by rw [IntKind.wrap_u64]; omega
  have z3 : (⟨(numL n3).toArray⟩ : ByteArray).size ≤ 10 := by rw [size_arr]; exact numL_10 (by omega)
  have K4 := hid (fun w => rnumber_ w n4 (by omega))
  have w4 : IntKind.u64.wrap (n4 : Int) = (n4 : Int) := by rw [IntKind.wrap_u64]; omega
  have z4 : (⟨(numL n4).toArray⟩ : ByteArray).size ≤ 10 := by rw [size_arr]; exact numL_10 (by omega)
  have K5 := hid (fun w => rnumber_ w n5 (by omega))
  have w5 : IntKind.u64.wrap (n5 : Int) = (n5 : Int) := by rw [IntKind.wrap_u64]; omega
  have z5 : (⟨(numL n5).toArray⟩ : ByteArray).size ≤ 10 := by rw [size_arr]; exact numL_10 (by omega)
  have K6 := hid (fun w => rnumber_ w n6 (by omega))
  have w6 : IntKind.u64.wrap (n6 : Int) = (n6 : Int) := by rw [IntKind.wrap_u64]; omega
  have z6 : (⟨(numL n6).toArray⟩ : ByteArray).size ≤ 10 := by rw [size_arr]; exact numL_10 (by omega)
  have K7 := hid (fun w => rnumber_ w n7 (by omega))
  have w7 : IntKind.u64.wrap (n7 : Int) = (n7 : Int) := by rw [IntKind.wrap_u64]; omega
  have z7 : (⟨(numL n7).toArray⟩ : ByteArray).size ≤ 10 := by rw [size_arr]; exact numL_10 (by omega)
  have K8 := hid (fun w => rnumber_ w n (by omega))
  have w8 : IntKind.u64.wrap (n : Int) = (n : Int) := by rw [IntKind.wrap_u64]; omega
  have z8 : (⟨(numL n).toArray⟩ : ByteArray).size ≤ 10 := by rw [size_arr]; exact numL_10 (by omega)
  have A0 := add_ (⟨#[99, 111, 110, 118, 111, 121, 48, 49]⟩ : ByteArray) ⟨(numL n0).toArray⟩ (by show 8 + _ ≤ _; omega)
  obtain ⟨q1, hq1⟩ : ∃ q, q = (⟨#[99, 111, 110, 118, 111, 121, 48, 49]⟩ : ByteArray) ++ ⟨(numL n0).toArray⟩ := ⟨_, rfl⟩
  rw [← hq1] at A0
  have y1 : q1.size ≤ 18 := by rw [hq1, ByteArray.size_append]; show 8 + _ ≤ _; omega
  have A1 := add_ q1 ⟨(numL n1).toArray⟩ (by omega)
  obtain ⟨q2, hq2⟩ : ∃ q, q = q1 ++ ⟨(numL n1).toArray⟩ := ⟨_, rfl⟩
  rw [← hq2] at A1
  have y2 : q2.size ≤ 28 := by rw [hq2, ByteArray.size_append]; omega
  have A2 := add_ q2 ⟨(numL n2).toArray⟩ (by omega)
  obtain ⟨q3, hq3⟩ : ∃ q, q = q2 ++ ⟨(numL n2).toArray⟩ := ⟨_, rfl⟩
  rw [← hq3] at A2
  have y3 : q3.size ≤ 38 := by rw [hq3, ByteArray.size_append]; omega
  have A3 := add_ q3 ⟨(numL n3).toArray⟩ (by omega)
  obtain ⟨q4, hq4⟩ : ∃ q, q = q3 ++ ⟨(numL n3).toArray⟩ := ⟨_, rfl⟩
  rw [← hq4] at A3
  have y4 : q4.size ≤ 48 := by rw [hq4, ByteArray.size_append]; omega
  have A4 := add_ q4 ⟨(numL n4).toArray⟩ (by omega)
  obtain ⟨q5, hq5⟩ : ∃ q, q = q4 ++ ⟨(numL n4).toArray⟩ := ⟨_, rfl⟩
  rw [← hq5] at A4
  have y5 : q5.size ≤ 58 := by rw [hq5, ByteArray.size_append]; omega
  have A5 := add_ q5 ⟨(numL n5).toArray⟩ (by omega)
  obtain ⟨q6, hq6⟩ : ∃ q, q = q5 ++ ⟨(numL n5).toArray⟩ := ⟨_, rfl⟩
  rw [← hq6] at A5
  have y6 : q6.size ≤ 68 := by rw [hq6, ByteArray.size_append]; omega
  have A6 := add_ q6 ⟨(numL n6).toArray⟩ (by omega)
  obtain ⟨q7, hq7⟩ : ∃ q, q = q6 ++ ⟨(numL n6).toArray⟩ := ⟨_, rfl⟩
  rw [← hq7] at A6
  have y7 : q7.size ≤ 78 := by rw [hq7, ByteArray.size_append]; omega
  have A7 := add_ q7 ⟨(numL n7).toArray⟩ (by omega)
  obtain ⟨q8, hq8⟩ : ∃ q, q = q7 ++ ⟨(numL n7).toArray⟩ := ⟨_, rfl⟩
  rw [← hq8] at A7
  have y8 : q8.size ≤ 88 := by rw [hq8, ByteArray.size_append]; omega
  have A8 := add_ q8 ⟨(numL n).toArray⟩ (by omega)
  obtain ⟨q9, hq9⟩ : ∃ q, q = q8 ++ ⟨(numL n).toArray⟩ := ⟨_, rfl⟩
  rw [← hq9] at A8
  have y9 : q9.size ≤ 98 := by rw [hq9, ByteArray.size_append]; omega
  have HQ : Hid ((⟨(q9.data.toList ++ xs.flatMap entB).toArray⟩ : ByteArray) = ⟨(bodyB c now xs).toArray⟩) := hid (by
    have e : q9.data.toList ++ xs.flatMap entB = bodyB c now xs := by
      rw [hq9, hq8, hq7, hq6, hq5, hq4, hq3, hq2, hq1]
      simp only [data_app]
      unfold bodyB cfgB entsB mk1 nB
      rw [hn0, hn1, hn2, hn3, hn4, hn5, hn6, hn7, ← hn']
      simp
    rw [e])
  generalize (⟨(numL n0).toArray⟩ : ByteArray) = nb0 at *
  generalize (⟨(numL n1).toArray⟩ : ByteArray) = nb1 at *
  generalize (⟨(numL n2).toArray⟩ : ByteArray) = nb2 at *
  generalize (⟨(numL n3).toArray⟩ : ByteArray) = nb3 at *
  generalize (⟨(numL n4).toArray⟩ : ByteArray) = nb4 at *
  generalize (⟨(numL n5).toArray⟩ : ByteArray) = nb5 at *
  generalize (⟨(numL n6).toArray⟩ : ByteArray) = nb6 at *
  generalize (⟨(numL n7).toArray⟩ : ByteArray) = nb7 at *
  generalize (⟨(numL n).toArray⟩ : ByteArray) = nb8 at *
  have HE : Hid (∀ wr, Calls Tryz.prog 26 #[.string ⟨(bodyB c now xs).toArray⟩] wr fun e w' => e = .returned (.int .u64 (sumL (bodyB c now xs) : Nat)) ∧ w' = wr) := hid (fun wr => rsum_ ⟨(bodyB c now xs).toArray⟩ (by rw [size_arr]; have := HBd.out; omega) wr)
  have HE2 := hid (fun wr => rbytes8_ wr (sumL (bodyB c now xs)) (sumL_lt _))
  have AE := add_ ⟨(bodyB c now xs).toArray⟩ ⟨(by8 (sumL (bodyB c now xs))).toArray⟩ (by rw [size_arr, size_arr, by8_len]; have := HBd.out; omega)
  have HFIN : Hid ((⟨(tellB c now xs).toArray⟩ : ByteArray) = ⟨(bodyB c now xs).toArray⟩ ++ ⟨(by8 (sumL (bodyB c now xs))).toArray⟩) := hid (str_eq (by rw [data_app]; unfold tellB sealB; rfl))
  generalize (⟨(tellB c now xs).toArray⟩ : ByteArray) = RES at *
  generalize (⟨(by8 (sumL (bodyB c now xs))).toArray⟩ : ByteArray) = SB at *
  generalize sumL (bodyB c now xs) = sm at *
  have HL9 : Hid (∀ i, (q9.data.toList ++ (xs.take i).flatMap entB).length ≤ 20000000) := hid (fun i => by
    have q2 := flat_le (xs := xs.take i) (fun x hx' => HX.out x (List.mem_of_mem_take hx'))
    rw [List.length_take] at q2
    have := HN7.out
    have e9 : q9.data.toList.length = q9.size := by simp
    simp only [List.length_append]
    omega)
  have HQ0 : Hid (q9 = ⟨(q9.data.toList ++ (xs.take 0).flatMap entB).toArray⟩) := hid (str_eq (by simp)).symm
  unfold mv
  clear hv hk hr hat hnc hb1 hb1' hb2 T1 T2 HBd hn' hn0 m0 z0 hq1 y1 hn1 m1 z1 hq2 y2 hn2 m2 z2 hq3 y3 hn3 m3 z3 hq4 y4 hn4 m4 z4 hq5 y5 hn5 m5 z5 hq6 y6 hn6 m6 z6 hq7 y7 hn7 m7 z7 hq8 y8 m8 z8 hq9 y9
  go_enter Tryz.func11, Tryz.ntmps11
  go_upto_region 1 with fail
  rw [← hV1]
  clear hV1
  go_upto_region 2 with fail
  rw [← hV]
  clear hV p0 p1 p2 p3 p4 p5 p6
  go_cut [4] from 9 to 54 (fun s wx => s = .string q9 ∧ Touch [] V wx)
  case first =>
    go_region_held3 (fun w' => Touch [] V w') (first | assumption | exact (Touch.refl _ _).drew | exact Touch.refl _ _ | exact Touch.drew (by assumption))
      (first
        | (go_at_call_of 41 (#[Value.int .u64 (n0 : Int)] : Array Value); refine (K0.out _).mono ?_; rintro e v0 ⟨rfl, t0⟩; have U0 : Touch [] V v0 := Touch.trans' (by assumption) t0; clear t0)
        | (go_at_call_of 41 (#[Value.int .u64 (n1 : Int)] : Array Value); refine (K1.out _).mono ?_; rintro e v1 ⟨rfl, t1⟩; have U1 : Touch [] V v1 := Touch.trans' (by assumption) t1; clear t1)
        | (go_at_call_of 41 (#[Value.int .u64 (n2 : Int)] : Array Value); refine (K2.out _).mono ?_; rintro e v2 ⟨rfl, t2⟩; have U2 : Touch [] V v2 := Touch.trans' (by assumption) t2; clear t2)
        | (go_at_call_of 41 (#[Value.int .u64 (n3 : Int)] : Array Value); refine (K3.out _).mono ?_; rintro e v3 ⟨rfl, t3⟩; have U3 : Touch [] V v3 := Touch.trans' (by assumption) t3; clear t3)
        | (go_at_call_of 41 (#[Value.int .u64 (n4 : Int)] : Array Value); refine (K4.out _).mono ?_; rintro e v4 ⟨rfl, t4⟩; have U4 : Touch [] V v4 := Touch.trans' (by assumption) t4; clear t4)
        | (go_at_call_of 41 (#[Value.int .u64 (n5 : Int)] : Array Value); refine (K5.out _).mono ?_; rintro e v5 ⟨rfl, t5⟩; have U5 : Touch [] V v5 := Touch.trans' (by assumption) t5; clear t5)
        | (go_at_call_of 41 (#[Value.int .u64 (n6 : Int)] : Array Value); refine (K6.out _).mono ?_; rintro e v6 ⟨rfl, t6⟩; have U6 : Touch [] V v6 := Touch.trans' (by assumption) t6; clear t6)
        | (go_at_call_of 41 (#[Value.int .u64 (n7 : Int)] : Array Value); refine (K7.out _).mono ?_; rintro e v7 ⟨rfl, t7⟩; have U7 : Touch [] V v7 := Touch.trans' (by assumption) t7; clear t7)
        | (go_at_call_of 41 (#[Value.int .u64 (n : Int)] : Array Value); refine (K8.out _).mono ?_; rintro e v8 ⟨rfl, t8⟩; have U8 : Touch [] V v8 := Touch.trans' (by assumption) t8; clear t8))
    all_goals
      go_wp2_with fail
      go_meet
      exact ⟨rfl, by assumption⟩
  case rest =>
    obtain ⟨rfl, TX⟩ := hcut
    have d8 := D8 _ TX
    clear C0 C1 C2 C3 C4 C5 C6 D7 D8 A0 A1 A2 A3 A4 A5 A6 A7 A8 K0 K1 K2 K3 K4 K5 K6 K7 K8 w0 w1 w2 w3 w4 w5 w6 w7 w8
    go_wp2_with fail
    go_loopw [4, 6, 58] (fun s _ i wr => ∃ p : Nat, i = .int .i64 p ∧ p ≤ n ∧ s = .string ⟨(q9.data.toList ++ (xs.take p).flatMap entB).toArray⟩ ∧ Hid (Touch [] V wr)) (fun _ _ i _ => n - (intOf i).toNat)
    case atStart => exact ⟨0, rfl, Nat.zero_le _, by rw [← HQ0.out], hid TX⟩
    case round =>
      obtain ⟨p, rfl, hp, rfl, HI⟩ := hrel
      by_cases hlt : p < n
      · have zp : (p : Int) < (n : Int) := by omega
        have hix : p < xs.length := by have := HN.out; omega
        obtain ⟨g, off, rfl⟩ := HG.out (by omega)
        have hat := (HR.out _ HI.out).at1 (by omega)
        have r0 := hat.cell p 0 hix (by omega) rfl
        have r1 := hat.cell p 1 hix (by omega) rfl
        have r2 := hat.cell p 2 hix (by omega) rfl
        have r3 := hat.cell p 3 hix (by omega) rfl
        have r4 := hat.cell p 4 hix (by omega) rfl
        have r5 := hat.cell p 5 hix (by omega) rfl
        have r6 := hat.cell p 6 hix (by omega) rfl
        rw [Nat.add_zero] at r0
        simp only [← Nat.add_assoc] at r1 r2 r3 r4 r5 r6
        have hok := HX.out xs[p] (List.getElem_mem hix)
        have hrr := HRR.out xs[p] (List.getElem_mem hix)
        have HTT : Hid ((⟨(q9.data.toList ++ (xs.take (p + 1)).flatMap entB).toArray⟩ : ByteArray) = ⟨(q9.data.toList ++ (xs.take p).flatMap entB).toArray⟩ ++ ⟨(entB xs[p]).toArray⟩) := hid (str_eq (by
          rw [data_app, List.take_succ_eq_append_getElem hix, List.flatMap_append]
          simp [List.append_assoc]))
        have KE := hid (fun w => rentry_ w xs[p] hok hrr)
        have AD := add_ ⟨(q9.data.toList ++ (xs.take p).flatMap entB).toArray⟩ ⟨(entB xs[p]).toArray⟩ (by rw [size_arr, size_arr]; have := HL9.out p; have := entB_len hok; omega)
        have wp1 : IntKind.i64.wrap ((p : Int) + 1) = (p : Int) + 1 := by rw [IntKind.wrap_i64]; have := HN7.out; omega
        have HNk := hid (And.intro hp hlt)
        unfold nv at KE
        generalize (⟨(entB xs[p]).toArray⟩ : ByteArray) = eb at *
        generalize (⟨(q9.data.toList ++ (xs.take p).flatMap entB).toArray⟩ : ByteArray) = sb at *
        generalize xs[p] = x at *
        obtain ⟨W1, hW1⟩ : ∃ W1, W1 = wr.alloc (.cells #[.int .u16 x.1.1, .string x.1.2, .int .i64 x.2.1.1, .int .i64 x.2.1.2.1, .int .i64 x.2.1.2.2.1, .int .i64 x.2.1.2.2.2, .int .i64 x.2.2] 88) := ⟨_, rfl⟩
        have tW : Touch [] wr W1 := by rw [hW1]; exact (Touch.refl _ _).alloc _
        have hbx : W1.heap[wr.heap.size]? = some (.cells #[.int .u16 x.1.1, .string x.1.2, .int .i64 x.2.1.1, .int .i64 x.2.1.2.1, .int .i64 x.2.1.2.2.1, .int .i64 x.2.1.2.2.2, .int .i64 x.2.2] 88 (0, 0)) := by rw [hW1]; exact heap_alloc_new wr _
        have x0 := cell_of (n := 0) hbx rfl
        have x1 := cell_of (n := 1) hbx rfl
        have x2 := cell_of (n := 2) hbx rfl
        have x3 := cell_of (n := 3) hbx rfl
        have x4 := cell_of (n := 4) hbx rfl
        have x5 := cell_of (n := 5) hbx rfl
        have x6 := cell_of (n := 6) hbx rfl
        have HW := hid (HI.out.trans' tW)
        clear hat hbx hok hrr hp hlt tW hix
        go_upto_region 6 with fail
        rw [← hW1]
        clear hW1 r0 r1 r2 r3 r4 r5 r6
        go_wp2_with (go_at_call 42; refine (KE.out _).mono ?_; rintro e v9 ⟨rfl, t9⟩; have U9 := hid (HW.out.trans' t9); clear t9 x0 x1 x2 x3 x4 x5 x6)
        go_roundw
        case rel => exact ⟨p + 1, by go_num, by have := HNk.out; omega, by rw [HTT.out], U9⟩
        case measure => simp [intOf]; have := HNk.out; omega
      · have zp : ¬ (p : Int) < (n : Int) := by omega
        have HZ : Hid ((⟨(q9.data.toList ++ (xs.take p).flatMap entB).toArray⟩ : ByteArray) = ⟨(bodyB c now xs).toArray⟩) := hid (by
          rw [List.take_of_length_le (by have := HN.out; omega)]
          exact HQ.out)
        rw [HZ.out]
        generalize (⟨(bodyB c now xs).toArray⟩ : ByteArray) = BB at *
        clear HQ HZ HL9 HR HX HRR HQ0
        go_wp2_with (first
          | (go_at_call 26; refine (HE.out _).mono ?_; rintro e v1 ⟨rfl, rfl⟩)
          | (go_at_call 43; refine (HE2.out _).mono ?_; rintro e v2 ⟨rfl, t2⟩))
        go_ret
        exact ⟨by rw [HFIN.out]; rfl, HT.out.trans' (HI.out.trans' t2)⟩
end Go.Proofs.YtpefbmheblfbeaaGreat.Sn
/- memo.Of of a list that is handed in: it may lie in any block that was there before; the conditions are those that each states. -/
namespace Go.Proofs.YtpefbmheblfbeaaGreat.Sn
open Go.RowKit Go.Maps Go.ChangeMaps Me
set_option linter.unusedVariables false
structure RowE (w : World) (b off : Nat) (xs : List En) : Prop where
  lt : b < w.heap.size
  at_ : ∀ i (h : i < xs.length) j, j < 7 → w.cell? ⟨b, off + (i * 7 + j), none⟩ = (nl xs[i])[j]?
theorem RowE.cell {w : World} {b off : Nat} {xs : List En} (h : RowE w b off xs) (i j : Nat) (hi : i < xs.length) (hj : j < 7) {u : Value} (hu : (nl xs[i])[j]? = some u) : w.cell? ⟨b, off + (i * 7 + j), none⟩ = some u := by rw [h.at_ i hi j hj, hu]
theorem RowE.keep {w w' : World} {b off : Nat} {xs : List En} (h : RowE w b off xs) (ht : Touch [] w w') : RowE w' b off xs := by
  have e : w'.heap[b]? = w.heap[b]? := ht.block b h.lt (by simp)
  exact ⟨Nat.lt_of_lt_of_le h.lt ht.size, fun i hi j hj => by rw [World.cell?_of_block (by exact e)]; exact h.at_ i hi j hj⟩
def RA (w : World) (v : Value) (xs : List En) : Prop := ∃ a c, v = .slice a xs.length c ∧ xs.length ≤ c ∧ (0 < xs.length → ∃ g off, a = some ⟨g, off, none⟩ ∧ RowE w g off xs)
theorem RA.keep {w w' : World} {v : Value} {xs : List En} (h : RA w v xs) (ht : Touch [] w w') : RA w' v xs := by
  obtain ⟨a, c, e, hl, hr⟩ := h
  refine ⟨a, c, e, hl, fun hp => ?_⟩
  obtain ⟨g, off, e2, r⟩ := hr hp
  exact ⟨g, off, e2, r.keep ht⟩
theorem RA.at1 {w : World} {g off n c : Nat} {xs : List En} (h : RA w (.slice (some ⟨g, off, none⟩) n c) xs) (hp : 0 < xs.length) : RowE w g off xs := by
  obtain ⟨a', c', e1, _, e3⟩ := h
  obtain ⟨g', off', e4, hat⟩ := e3 hp
  injection e1 with e1 _ _
  rw [e4] at e1
  injection e1 with e1
  injection e1 with e5 e6
  rw [e5, e6]
  exact hat
structure OgS (w : World) (c : Cf) (now : Int) (xs : List En) (v : Value) (m k : Nat) (wr : World) : Prop where
  mq : ∃ F, Mq wr m F c now (xs.take k) ∧ ∀ i ∈ F, w.heap.size ≤ i
  r0 : RA w v xs
  t : Touch [] w wr
  eq : ofL c now [] xs 0 = ofL c now (xs.take k) (xs.drop k) (k : Int)
section
variable {w wr wr' : World} {c : Cf} {now : Int} {xs : List En} {v : Value} {m k : Nat}
theorem OgS.keep0 (h : OgS w c now xs v m k wr) (t : Touch [] wr wr') : OgS w c now xs v m k wr' := by
  obtain ⟨F, q, hF⟩ := h.mq
  exact ⟨⟨F, q.keep0 t, hF⟩, h.r0, h.t.trans' t, h.eq⟩
theorem OgS.next (h : OgS w c now xs v m k wr) (x : En) (hk : Ok x.1) : Calls Tryz.prog 85 #[PT m, nv x] wr fun e w' => e = .returned (.int .i64 (nxE c now (xs.take k) x)) ∧ Touch [] wr w' := by
  obtain ⟨F, q, hF⟩ := h.mq
  exact next40 wr m F c now _ q x hk
theorem OgS.bad (h : OgS w c now xs v m k wr) (hk : k < xs.length) (h0 : nxE c now (xs.take k) xs[k] ≠ 0) : ofL c now [] xs 0 = ((k : Int), nxE c now (xs.take k) xs[k]) := by
  rw [h.eq, List.drop_eq_getElem_cons hk]
  unfold ofL
  rw [if_pos h0]
theorem OgS.fin (h : OgS w c now xs v m k wr) (hk : xs.length ≤ k) : ofL c now [] xs 0 = (0, 0) ∧ ∃ F, Mq wr m F c now xs ∧ (∀ i ∈ F, w.heap.size ≤ i) := by
  obtain ⟨F, q, hF⟩ := h.mq
  rw [List.take_of_length_le hk] at q
  refine ⟨?_, F, q, hF⟩
  rw [h.eq, List.drop_of_length_le hk]
  rfl
theorem OgS.put (h : OgS w c now xs v m k wr) (hk : k < xs.length) (hl : (xs.length : Int) ≤ c.e) (h0 : nxE c now (xs.take k) xs[k] = 0) (ok : Ok xs[k].1) : Calls Tryz.prog 76 #[PT m, kv xs[k].1, ev xs[k].2] wr fun e w' => ∃ u, e = .returned u ∧ OgS w c now xs v m (k + 1) w' := by
  obtain ⟨F, q, hF⟩ := h.mq
  obtain ⟨g1, g2, g3⟩ := nxE_ok h0
  have hn := fnd_out q.nd g3
  have hp : putL c.e (xs.take k) xs[k].1 xs[k].2 = xs.take (k + 1) := by
    rw [putL_new hn (by rw [List.length_take]; omega), List.take_add_one, List.getElem?_eq_getElem hk]
    rfl
  refine (putM wr m F c now _ q xs[k].1 ok g1 xs[k].2 g2).mono ?_
  rintro e w' ⟨u, rfl, _, F2, q2, t2, f2⟩
  rw [hp] at q2
  refine ⟨u, rfl, ⟨F2, q2, fun i hi => ?_⟩, h.r0, h.t.trans t2 (fun i hi => Or.inr (hF i hi)), ?_⟩
  · rcases f2 i hi with h1 | h1
    · exact hF i h1
    · exact Nat.le_trans h.t.size h1
  · rw [h.eq, List.drop_eq_getElem_cons hk, ofL, if_neg (by rw [h0]; simp), List.take_add_one, List.getElem?_eq_getElem hk]
    rfl
end
set_option maxHeartbeats 8000000 in
set_option maxRecDepth 100000 in
theorem og15_go (w : World) (c : Cf) (now : Int) (xs : List En) (v : Value) (wc : Wc c) (hc : okC c = true) (ht : isT now = true) (hm : ¬ c.e < (xs.length : Int)) (hv : RA w v xs) (hok : ∀ x ∈ xs, Ok x.1) : Calls Tryz.prog 31 #[cv c, .int .i64 now, v] w fun e w' => ∃ pm, e = .returned (.tuple #[pm, .int .i64 (ofL c now [] xs 0).1, .int .i64 (ofL c now [] xs 0).2]) ∧ (((ofL c now [] xs 0).2 ≠ 0 ∧ pm = .pointer none ∧ Touch [] w w') ∨ ((ofL c now [] xs 0).2 = 0 ∧ (ofL c now [] xs 0).1 = 0 ∧ ∃ m F, pm = PT m ∧ Mq w' m F c now xs ∧ (∀ i ∈ F, w.heap.size ≤ i) ∧ Touch [] w w')) := by
  obtain ⟨a1, c1, rfl, hcp, hg⟩ := hv
  have HR0 : Hid (RA w (.slice a1 xs.length c1) xs) := hid ⟨a1, c1, rfl, hcp, hg⟩
  obtain ⟨V, hV⟩ : ∃ V, V = w.alloc (cbx c 23) := ⟨_, rfl⟩
  have TV : Hid (Touch [] w V) := hid (by rw [hV]; exact (Touch.refl _ _).alloc _)
  have HC : Hid (∀ w', Touch [] V w' → C7 w' w.heap.size c) := hid (fun w' t => C7.mk' (t.keep (by rw [hV]; exact heap_alloc_new w (cbx c 23)) (by simp)))
  obtain ⟨c0, c1', c2, c3, c4, c5, c6⟩ := HC.out V (Touch.refl _ _)
  have HN : Hid (∀ w2, Calls Tryz.prog 83 #[cv c] w2 fun x w' => ∃ m, x = .returned (.tuple #[PT m, .int .i64 0]) ∧ NwQ w2 c m w') := hid (fun w2 => new9_ok w2 c hc ⟨wc.1.hi, wc.2.1.hi, wc.2.2.1.hi⟩)
  have HT := hid (fun w => is39 now w)
  rw [ht] at HT
  have HNow : Hid (0 ≤ now ∧ now ≤ MT) := hid (by unfold isT at ht; simp only [Bool.and_eq_true, decide_eq_true_eq] at ht; unfold MT; exact ht)
  have HOK := hid hok
  have hle := (okC_e hc).2
  obtain ⟨n, hn⟩ : ∃ n, n = xs.length := ⟨_, rfl⟩
  have HNx := hid hn
  have HG : Hid (0 < n → ∃ g off, a1 = some ⟨g, off, none⟩) := hid (fun hp => by obtain ⟨g, off, h1, _⟩ := hg (by omega); exact ⟨g, off, h1⟩)
  rw [← hn] at HR0 hm ⊢
  have zl : (n : Int) ≤ c.e := by omega
  have zn : (n : Int) ≤ 65536 := by omega
  have HLe := hid zl
  obtain ⟨rp, hrp⟩ : ∃ rp, rp = ofL c now [] xs 0 := ⟨_, rfl⟩
  rw [← hrp]
  have HRp := hid hrp
  unfold cv PT at HN
  unfold cv
  unfold cbx at hV
  clear wc hc ht hm hcp hg hok hn hle hrp
  go_enter Tryz.func31, Tryz.ntmps31
  go_upto_region 1 with fail
  rw [← hV]
  clear hV
  go_upto_region 4 with (go_at_call 83; refine (HN.out _).mono ?_; rintro x w3 ⟨m, rfl, F, q3, f3, t3⟩; have T3 := hid t3; have Q3 := hid q3; have F3 := hid f3; clear t3 q3 f3)
  clear c0 c1' c2 c3 c4 c5 c6
  obtain ⟨c0, c1', c2, c3, c4, c5, c6⟩ := HC.out w3 T3.out
  obtain ⟨k7, kf⟩ : w3.cell? ⟨m, 7, none⟩ = some (.int .i64 0) ∧ w3.frozen? ⟨m, 7, none⟩ = false := by
    obtain ⟨b, o, G, _, q⟩ := Q3.out
    exact ⟨q.md.cs.c7, q.md.cs.f7⟩
  go_upto_region 9 with (go_at_call 84; refine (HT.out _).mono ?_; rintro x w4 ⟨rfl, e4⟩; rw [e4]; clear e4 w4)
  clear c0 c1' c2 c3 c4 c5 c6 k7 kf
  obtain ⟨W3, hW3⟩ : ∃ W3, W3 = w3.setCell ⟨m, 7, none⟩ (.int .i64 now) := ⟨_, rfl⟩
  have HI0 : Hid (OgS w c now xs (.slice a1 n c1) m 0 W3) := hid (by
    obtain ⟨F2, q2, t2, f2⟩ := Q3.out.time HNow.out.1 HNow.out.2
    rw [← hW3] at q2 t2
    have hz := TV.out.size
    refine ⟨⟨F2, q2, fun i hi => ?_⟩, HR0.out, (TV.out.trans' T3.out).trans t2 (fun i hi => Or.inr (by have := F3.out i hi; omega)), rfl⟩
    rcases f2 i hi with h1 | h1
    · have := F3.out i h1; omega
    · have := (TV.out.trans' T3.out).size; omega)
  rw [← hW3]
  clear hW3 T3 Q3 F3 HN HT HC TV HR0 HNow
  go_wp2_with fail
  go_loopw [36] (fun s36 wr => ∃ k : Nat, s36 = .int .i64 (k : Int) ∧ k ≤ n ∧ Hid (OgS w c now xs (.slice a1 n c1) m k wr)) (fun i _ => n - (intOf i).toNat)
  case atStart => exact ⟨0, rfl, Nat.zero_le _, HI0⟩
  case round =>
    clear HI0
    obtain ⟨k, rfl, hk, HS⟩ := hrel
    by_cases hlt : k < n
    · have zk : (k : Int) < (n : Int) := by omega
      have hix : k < xs.length := by have := HNx.out; omega
      obtain ⟨g, off, rfl⟩ := HG.out (by omega)
      have hat := (HS.out.r0.keep HS.out.t).at1 (by omega)
      have r0 := hat.cell k 0 hix (by omega) rfl
      have r1 := hat.cell k 1 hix (by omega) rfl
      have r2 := hat.cell k 2 hix (by omega) rfl
      have r3 := hat.cell k 3 hix (by omega) rfl
      have r4 := hat.cell k 4 hix (by omega) rfl
      have r5 := hat.cell k 5 hix (by omega) rfl
      have r6 := hat.cell k 6 hix (by omega) rfl
      rw [Nat.add_zero] at r0
      simp only [← Nat.add_assoc] at r1 r2 r3 r4 r5 r6
      have HB := hid (fun h0 => HS.out.bad hix h0)
      have hokx := HOK.out xs[k] (List.getElem_mem hix)
      have HP : Hid (∀ w', Touch [] wr w' → nxE c now (xs.take k) xs[k] = 0 → Calls Tryz.prog 76 #[PT m, kv xs[k].1, ev xs[k].2] w' fun e w'' => ∃ u, e = .returned u ∧ OgS w c now xs (.slice (some ⟨g, off, none⟩) n c1) m (k + 1) w'') := hid (fun w' t h0 => (HS.out.keep0 t).put hix (by have := HLe.out; have := HNx.out; omega) h0 hokx)
      have HNk := hid (And.intro hk hlt)
      clear hat hk hlt
      generalize xs[k] = x at *
      clear hix
      obtain ⟨W1, hW1⟩ : ∃ W1, W1 = wr.alloc (.cells #[.int .u16 x.1.1, .string x.1.2, .int .i64 x.2.1.1, .int .i64 x.2.1.2.1, .int .i64 x.2.1.2.2.1, .int .i64 x.2.1.2.2.2, .int .i64 x.2.2] 60) := ⟨_, rfl⟩
      have HT1 : Hid (Touch [] wr W1) := hid (by rw [hW1]; exact (Touch.refl _ _).alloc _)
      have HX : Hid (∀ w', Touch [] W1 w' → w'.cell? ⟨wr.heap.size, 0, none⟩ = some (.int .u16 x.1.1) ∧ w'.cell? ⟨wr.heap.size, 1, none⟩ = some (.string x.1.2) ∧ w'.cell? ⟨wr.heap.size, 2, none⟩ = some (.int .i64 x.2.1.1) ∧ w'.cell? ⟨wr.heap.size, 3, none⟩ = some (.int .i64 x.2.1.2.1) ∧ w'.cell? ⟨wr.heap.size, 4, none⟩ = some (.int .i64 x.2.1.2.2.1) ∧ w'.cell? ⟨wr.heap.size, 5, none⟩ = some (.int .i64 x.2.1.2.2.2) ∧ w'.cell? ⟨wr.heap.size, 6, none⟩ = some (.int .i64 x.2.2)) := hid (fun w' t => by
        have := t.keep (k := wr.heap.size) (by rw [hW1]; exact heap_alloc_new wr _) (by simp)
        simp [World.cell?, this])
      have HNe := hid ((HS.out.keep0 HT1.out).next x hokx)
      obtain ⟨er, her⟩ : ∃ er, er = nxE c now (xs.take k) x := ⟨_, rfl⟩
      rw [← her] at HNe HB HP
      clear hokx her
      unfold PT nv at HNe
      unfold PT kv ev at HP
      obtain ⟨p0, p1, p2, p3, p4, p5, p6⟩ := HX.out W1 (Touch.refl _ _)
      go_upto_region 12 with fail
      rw [← hW1]
      clear hW1 r0 r1 r2 r3 r4 r5 r6
      go_upto_region 13 with (go_at_call 85; refine HNe.out.mono ?_; rintro z w2 ⟨rfl, t2⟩; have T2 := hid t2; clear t2)
      clear p0 p1 p2 p3 p4 p5 p6
      by_cases he : er ≠ 0
      · have HE := hid (HB.out he)
        clear HP HB
        go_wp2_with fail
        refine bodyPost_ret (v := .tuple #[.pointer none, .int .i64 (k : Int), .int .i64 er]) (by simp [results, Tryz.results31, go_sem]) rfl ?_
        have e1 : rp = ((k : Int), er) := HRp.out.trans HE.out
        rw [e1]
        exact ⟨_, rfl, Or.inl ⟨he, rfl, (HS.out.t.trans' HT1.out).trans' T2.out⟩⟩
      · obtain rfl : er = 0 := Classical.not_not.1 he
        have HP2 := hid (HP.out w2 (HT1.out.trans' T2.out) rfl)
        obtain ⟨p0, p1, p2, p3, p4, p5, p6⟩ := HX.out w2 T2.out
        clear HP HB he
        go_wp2_with (go_at_call 76; refine HP2.out.mono ?_; rintro z w5 ⟨u5, rfl, l5⟩; have L5 := hid l5; clear l5)
        go_roundw
        case rel => exact ⟨k + 1, by go_num, by have := HNk.out; omega, L5⟩
        case measure => simp [intOf]; have := HNk.out; omega
    · have zk : (n : Int) ≤ (k : Int) := by omega
      have HE := hid (HS.out.fin (by have := HNx.out; omega))
      go_wp2_with fail
      refine bodyPost_ret (v := .tuple #[.pointer (some ⟨m, 0, none⟩), .int .i64 0, .int .i64 0]) (by simp [results, Tryz.results31, go_sem]) rfl ?_
      obtain ⟨e1, F, q, hF⟩ := HE.out
      rw [HRp.out, e1]
      exact ⟨_, rfl, Or.inr ⟨rfl, rfl, m, F, rfl, q, hF, HS.out.t⟩⟩
theorem og15 (w : World) (c : Cf) (now : Int) (xs : List En) (v : Value) (wc : Wc c) (hl : (xs.length : Int) ≤ 9223372036854775807) (hv : RA w v xs) (hok : ∀ x ∈ xs, Ok x.1) : Calls Tryz.prog 31 #[cv c, .int .i64 now, v] w fun e w' => ∃ pm, e = .returned (.tuple #[pm, .int .i64 (ofP c now xs).1, .int .i64 (ofP c now xs).2]) ∧ OfA w c now xs pm w' := by
  unfold OfA
  unfold ofP
  cases hc : okC c with
  | false =>
    rw [if_pos rfl]
    obtain ⟨a1, c1, rfl, _⟩ := hv
    refine (of15_cfg w c now a1 _ c1 hc).mono ?_
    rintro e w' ⟨rfl, t⟩
    exact ⟨_, rfl, Or.inl ⟨by decide, rfl, t⟩⟩
  | true =>
    rw [if_neg (by simp)]
    cases ht : isT now with
    | false =>
      rw [if_pos rfl]
      obtain ⟨a1, c1, rfl, _⟩ := hv
      refine (of15_tick w c now a1 _ c1 wc hc ht).mono ?_
      rintro e w' ⟨rfl, t⟩
      exact ⟨_, rfl, Or.inl ⟨by decide, rfl, t⟩⟩
    | true =>
      rw [if_neg (by simp)]
      by_cases hm : c.e < (xs.length : Int)
      · rw [if_pos hm]
        obtain ⟨a1, c1, rfl, _⟩ := hv
        refine (of15_many w c now a1 _ c1 wc hc ht hm hl).mono ?_
        rintro e w' ⟨rfl, t⟩
        exact ⟨_, rfl, Or.inl ⟨by decide, rfl, t⟩⟩
      · rw [if_neg hm]
        exact og15_go w c now xs v wc hc ht hm hv hok
end Go.Proofs.YtpefbmheblfbeaaGreat.Sn
