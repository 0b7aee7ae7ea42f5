/- The contract of Tell: the bytes of a memo; the memo's numbers are of 64 bits. -/
import Derived.Test.YtpefbmheblfbeaaGreatQc05
import Derived.Test.YtpefbmheblfbeaaGreatQc03
import Derived.Test.YtpefbmheblfbeaaGreatQc01
import Derived.Deep.RegionHeld3
import Derived.Test.YtpefbmheblfbeaaGreatQc02
import Derived.Test.YtpefbmheblfbeaaGreatRows
import Derived.WalkKit
import Derived.ProofKit
import Derived.OpenShut
import Derived.ShutString
import Derived.Deep.Slices
import Derived.SizedLaws
namespace Go.Proofs.YtpefbmheblfbeaaGreat.Sn
open Go.RowKit Go.Sort Go.Shelf Me
set_option linter.unusedVariables false
theorem Wr.tou {b : Nat} {w V w1 : World} (hV : Touch [] w V) (h : Wr w.heap.size b V w1) : Touch [] w w1 :=
  ⟨h.below.os.trans hV.os, h.below.tape.trans hV.tape, h.below.output.trans hV.output, Nat.le_trans hV.size h.below.size, fun k hk hn => (h.below.block k hk).trans (hV.block k hk hn)⟩
structure MmOk (c : Cf) (now : Int) (xs : List En) : Prop where
  c : CfOk c
  n : 0 ≤ now ∧ now ≤ 9223372036854775807
  x : ∀ x ∈ xs, EnOk x
  l : xs.length ≤ 65536
theorem cfgB_len {c : Cf} (hc : CfOk c) : (cfgB c).length ≤ 70 := by
  have := nB_len (n := c.t) (by have := hc.t.2; omega); have := nB_len (n := c.n) (by have := hc.n.2; omega); have := nB_len (n := c.s) (by have := hc.s.2; omega); have := nB_len (n := c.e) (by have := hc.e.2; omega)
  have := nB_len (n := c.f) (by have := hc.f.2; omega); have := nB_len (n := c.b) (by have := hc.b.2; omega); have := nB_len (n := c.d) (by have := hc.d.2; omega)
  unfold cfgB
  simp only [List.length_append]
  omega
theorem bodyB_len {c : Cf} {now : Int} {xs : List En} (h : MmOk c now xs) : (bodyB c now xs).length ≤ 10000000 := by
  have q1 := cfgB_len h.c
  have q2 := nB_len (n := now) (by have := h.n.2; omega)
  have q3 := nB_len (n := (xs.length : Int)) (by have := h.l; omega)
  have q4 := flat_le h.x
  have q5 : mk1.length = 8 := rfl
  have := h.l
  unfold bodyB entsB
  simp only [List.length_append]
  omega
theorem bodyB_ne (c : Cf) (now : Int) (xs : List En) : bodyB c now xs ≠ [] := by unfold bodyB mk1; simp
theorem tell_nil (w : World) : Calls Tryz.prog 10 #[.pointer none] w fun e w' => e = .returned (.tuple #[.string ⟨#[]⟩, .int .i64 1]) ∧ w' = w := by
  go_enter Tryz.func10, Tryz.ntmps10
  go_wp2
  go_ret2
  exact ⟨rfl, rfl⟩
set_option maxHeartbeats 2000000 in
theorem tell_ {w : World} {m : Nat} {F : List Nat} {c : Cf} {now : Int} {xs : List En} (h : Mq w m F c now xs) (hk : MmOk c now xs) : Calls Tryz.prog 10 #[PT m] w fun e w' => e = .returned (.tuple #[.string ⟨(tellB c now xs).toArray⟩, .int .i64 0]) ∧ Touch [] w w' := by
  obtain ⟨V, hV⟩ : ∃ V, V = w.alloc (.cells #[.pointer none, .slice none 0 0] 93) := ⟨_, rfl⟩
  have tV : Touch [] w V := by rw [hV]; exact (Touch.refl _ _).alloc _
  have b0 : Bd w.heap.size w.heap.size [] V := by rw [hV]; exact Bd.new w
  have HM : Hid (∀ w', Wr w.heap.size w.heap.size V w' → Mq w' m F c now xs) := hid (fun w' hw => h.keep0 (hw.tou tV))
  have HT := hid (fun w' (hw : Wr w.heap.size w.heap.size V w') => hw.tou tV)
  have HB := hid tV.size
  have H1 := hid (write_ b0 ⟨#[99, 111, 110, 118, 111, 121, 48, 49]⟩ (by decide))
  have H2 := hid (fun w' (hw : Wr w.heap.size w.heap.size V w') => (by obtain ⟨b, o, G, _, hb⟩ := HM.out w' hw; exact config27 w' m c now b o hb.md : Calls Tryz.prog 35 #[PT m] w' fun e w'' => e = .returned (cv c) ∧ Touch [] w' w''))
  have H3 := hid (fun w' (h' : Bd w.heap.size w.heap.size mk1 w') => tellConfig_ h' c hk.c (by decide))
  have H4 := hid (fun w' (hw : Wr w.heap.size w.heap.size V w') => (by obtain ⟨b, o, G, _, hb⟩ := HM.out w' hw; exact now26 w' m c now b o hb.md : Calls Tryz.prog 22 #[PT m] w' fun e w'' => e = .returned (.int .i64 now) ∧ w'' = w'))
  have l1 := cfgB_len hk.c
  have l2 := nB_len (n := now) (by have := hk.n.2; omega)
  have H5 := hid (fun w' (h' : Bd w.heap.size w.heap.size (mk1 ++ cfgB c) w') => tellNumber_ h' now hk.n.1 hk.n.2 (by rw [List.length_append]; show 8 + _ ≤ _; omega))
  have H6 := hid (fun w' (hw : Wr w.heap.size w.heap.size V w') => allM w' m F c now xs (HM.out w' hw))
  have H7 := hid (fun w' v (h' : Bd w.heap.size w.heap.size (mk1 ++ cfgB c ++ nB now) w') (hv : RN 60 w' v xs) => tellEntries_ h' xs v hv hk.x (by rw [List.length_append, List.length_append]; show 8 + _ + _ ≤ _; omega) (by have := hk.l; omega))
  have HE : Hid (mk1 ++ cfgB c ++ nB now ++ entsB xs = bodyB c now xs) := hid (by unfold bodyB; simp only [List.append_assoc])
  have H8 := hid (fun w' (h' : Bd w.heap.size w.heap.size (bodyB c now xs) w') => string_ h' (bodyB_ne c now xs))
  have H9 := hid (fun w' => sealed_ w' ⟨(bodyB c now xs).toArray⟩ (by have := bodyB_len hk; show (bodyB c now xs).toArray.size ≤ _; rw [List.size_toArray]; omega))
  have HX : Hid ((tellB c now xs).toArray = (((⟨(bodyB c now xs).toArray⟩ : ByteArray).data.toList) ++ by8 (sumL ((⟨(bodyB c now xs).toArray⟩ : ByteArray).data.toList))).toArray) := hid (by unfold tellB sealB; simp)
  rw [HX.out]
  generalize (((⟨(bodyB c now xs).toArray⟩ : ByteArray).data.toList) ++ by8 (sumL ((⟨(bodyB c now xs).toArray⟩ : ByteArray).data.toList))).toArray = TT at *
  generalize (⟨(bodyB c now xs).toArray⟩ : ByteArray) = BB at *
  have s0 := Wr.refl w.heap.size w.heap.size V
  generalize hn : w.heap.size = n at *
  unfold PT at *
  clear l1 l2 hk h tV HX
  go_enter Tryz.func10, Tryz.ntmps10
  go_upto_region 4 with fail
  rw [← hV]
  clear hV hn
  go_upto_region 5 with (go_at_call 33; refine H1.out.mono ?_; rintro e w1 ⟨rfl, b1, s1⟩; clear s0 H1 b0)
  have b1' : Bd n n mk1 w1 := b1
  clear b1
  go_upto_region 6 with (first
    | (go_at_call 35; refine (H2.out _ s1).mono ?_; rintro e w2 ⟨rfl, t2⟩; unfold cv)
    | (go_at_call 34; refine (H3.out _ (b1'.touch t2)).mono ?_; rintro e w3 ⟨rfl, b3, q3⟩; have s3 := (s1.touch t2 HB.out).trans q3; clear t2 q3 s1 b1' H2 H3))
  go_upto_region 7 with (first
    | (go_at_call 22; refine (H4.out _ s3).mono ?_; rintro e w4 ⟨rfl, rfl⟩)
    | (go_at_call 36; refine (H5.out _ b3).mono ?_; rintro e w5 ⟨rfl, b5, q5⟩; have s5 := s3.trans q5; clear b3 q5 s3 H4 H5))
  go_upto_region 8 with (first
    | (go_at_call 38; refine (H6.out _ s5).mono ?_; rintro e w6 ⟨v6, rfl, o6, t6⟩; obtain ⟨a6, c6, e6⟩ := own_form o6; subst e6; have R6 := hid (RN.own o6); clear o6)
    | (go_at_call 37; refine (H7.out _ _ (b5.touch t6) R6.out).mono ?_; rintro e w7 ⟨rfl, b7, q7⟩; have s7 := (s5.touch t6 HB.out).trans q7; rw [HE.out] at b7; clear t6 q7 s5 b5 R6 H6 H7))
  go_wp2_with (first
    | (go_at_call 40; refine (H8.out _ b7).mono ?_; rintro e w8 ⟨rfl, q8⟩; have s8 := s7.trans q8)
    | (go_at_call 39; refine (H9.out _).mono ?_; rintro e w9 ⟨rfl, t9⟩))
  go_ret2
  exact ⟨rfl, (HT.out _ s8).trans' t9⟩
end Go.Proofs.YtpefbmheblfbeaaGreat.Sn
/- The contracts of the document's entry and Tell: the bytes of a memo; the memo's numbers are of 64 bits. -/
namespace Go.Proofs.YtpefbmheblfbeaaGreat.Sn
open Go.RowKit Go.Sort Go.Shelf Me
set_option linter.unusedVariables false
set_option linter.unusedSimpArgs false
theorem str_eq {l : List UInt8} {s : ByteArray} (h : s.data.toList = l) : (⟨l.toArray⟩ : ByteArray) = s := by subst h; rfl
end Go.Proofs.YtpefbmheblfbeaaGreat.Sn
/- The contract of the document's Tell: the bytes of a memo; the memo's numbers are of 64 bits. -/
namespace Go.Proofs.YtpefbmheblfbeaaGreat.Sn
open Go.RowKit Go.Sort Go.Shelf Me
set_option linter.unusedVariables false
set_option linter.unusedSimpArgs false
def mv (c : Cf) (now : Int) (v : Value) : Value := .agg #[.int .i64 c.t, .int .i64 c.n, .int .i64 c.s, .int .i64 c.e, .int .i64 c.f, .int .i64 c.b, .int .i64 c.d, .int .i64 now, v]
end Go.Proofs.YtpefbmheblfbeaaGreat.Sn
/- memo.Of of a list that is handed in: it may lie in any block that was there before; the conditions are those that each states. -/
namespace Go.Proofs.YtpefbmheblfbeaaGreat.Sn
open Go.RowKit Go.Maps Go.ChangeMaps Me
set_option linter.unusedVariables false
structure RowE (w : World) (b off : Nat) (xs : List En) : Prop where
  lt : b < w.heap.size
  at_ : ∀ i (h : i < xs.length) j, j < 7 → w.cell? ⟨b, off + (i * 7 + j), none⟩ = (nl xs[i])[j]?
theorem RowE.cell {w : World} {b off : Nat} {xs : List En} (h : RowE w b off xs) (i j : Nat) (hi : i < xs.length) (hj : j < 7) {u : Value} (hu : (nl xs[i])[j]? = some u) : w.cell? ⟨b, off + (i * 7 + j), none⟩ = some u := by rw [h.at_ i hi j hj, hu]
theorem RowE.keep {w w' : World} {b off : Nat} {xs : List En} (h : RowE w b off xs) (ht : Touch [] w w') : RowE w' b off xs := by
  have e : w'.heap[b]? = w.heap[b]? := ht.block b h.lt (by simp)
  exact ⟨Nat.lt_of_lt_of_le h.lt ht.size, fun i hi j hj => by rw [World.cell?_of_block (by exact e)]; exact h.at_ i hi j hj⟩
def RA (w : World) (v : Value) (xs : List En) : Prop := ∃ a c, v = .slice a xs.length c ∧ xs.length ≤ c ∧ (0 < xs.length → ∃ g off, a = some ⟨g, off, none⟩ ∧ RowE w g off xs)
theorem RA.keep {w w' : World} {v : Value} {xs : List En} (h : RA w v xs) (ht : Touch [] w w') : RA w' v xs := by
  obtain ⟨a, c, e, hl, hr⟩ := h
  refine ⟨a, c, e, hl, fun hp => ?_⟩
  obtain ⟨g, off, e2, r⟩ := hr hp
  exact ⟨g, off, e2, r.keep ht⟩
theorem RA.at1 {w : World} {g off n c : Nat} {xs : List En} (h : RA w (.slice (some ⟨g, off, none⟩) n c) xs) (hp : 0 < xs.length) : RowE w g off xs := by
  obtain ⟨a', c', e1, _, e3⟩ := h
  obtain ⟨g', off', e4, hat⟩ := e3 hp
  injection e1 with e1 _ _
  rw [e4] at e1
  injection e1 with e1
  injection e1 with e5 e6
  rw [e5, e6]
  exact hat
structure OgS (w : World) (c : Cf) (now : Int) (xs : List En) (v : Value) (m k : Nat) (wr : World) : Prop where
  mq : ∃ F, Mq wr m F c now (xs.take k) ∧ ∀ i ∈ F, w.heap.size ≤ i
  r0 : RA w v xs
  t : Touch [] w wr
  eq : ofL c now [] xs 0 = ofL c now (xs.take k) (xs.drop k) (k : Int)
section
variable {w wr wr' : World} {c : Cf} {now : Int} {xs : List En} {v : Value} {m k : Nat}
theorem OgS.keep0 (h : OgS w c now xs v m k wr) (t : Touch [] wr wr') : OgS w c now xs v m k wr' := by
  obtain ⟨F, q, hF⟩ := h.mq
  exact ⟨⟨F, q.keep0 t, hF⟩, h.r0, h.t.trans' t, h.eq⟩
theorem OgS.next (h : OgS w c now xs v m k wr) (x : En) (hk : Ok x.1) : Calls Tryz.prog 85 #[PT m, nv x] wr fun e w' => e = .returned (.int .i64 (nxE c now (xs.take k) x)) ∧ Touch [] wr w' := by
  obtain ⟨F, q, hF⟩ := h.mq
  exact next40 wr m F c now _ q x hk
theorem OgS.bad (h : OgS w c now xs v m k wr) (hk : k < xs.length) (h0 : nxE c now (xs.take k) xs[k] ≠ 0) : ofL c now [] xs 0 = ((k : Int), nxE c now (xs.take k) xs[k]) := by
  rw [h.eq, List.drop_eq_getElem_cons hk]
  unfold ofL
  rw [if_pos h0]
theorem OgS.fin (h : OgS w c now xs v m k wr) (hk : xs.length ≤ k) : ofL c now [] xs 0 = (0, 0) ∧ ∃ F, Mq wr m F c now xs ∧ (∀ i ∈ F, w.heap.size ≤ i) := by
  obtain ⟨F, q, hF⟩ := h.mq
  rw [List.take_of_length_le hk] at q
  refine ⟨?_, F, q, hF⟩
  rw [h.eq, List.drop_of_length_le hk]
  rfl
theorem OgS.put (h : OgS w c now xs v m k wr) (hk : k < xs.length) (hl : (xs.length : Int) ≤ c.e) (h0 : nxE c now (xs.take k) xs[k] = 0) (ok : Ok xs[k].1) : Calls Tryz.prog 76 #[PT m, kv xs[k].1, ev xs[k].2] wr fun e w' => ∃ u, e = .returned u ∧ OgS w c now xs v m (k + 1) w' := by
  obtain ⟨F, q, hF⟩ := h.mq
  obtain ⟨g1, g2, g3⟩ := nxE_ok h0
  have hn := fnd_out q.nd g3
  have hp : putL c.e (xs.take k) xs[k].1 xs[k].2 = xs.take (k + 1) := by
    rw [putL_new hn (by rw [List.length_take]; omega), List.take_add_one, List.getElem?_eq_getElem hk]
    rfl
  refine (putM wr m F c now _ q xs[k].1 ok g1 xs[k].2 g2).mono ?_
  rintro e w' ⟨u, rfl, _, F2, q2, t2, f2⟩
  rw [hp] at q2
  refine ⟨u, rfl, ⟨F2, q2, fun i hi => ?_⟩, h.r0, h.t.trans t2 (fun i hi => Or.inr (hF i hi)), ?_⟩
  · rcases f2 i hi with h1 | h1
    · exact hF i h1
    · exact Nat.le_trans h.t.size h1
  · rw [h.eq, List.drop_eq_getElem_cons hk, ofL, if_neg (by rw [h0]; simp), List.take_add_one, List.getElem?_eq_getElem hk]
    rfl
end
set_option maxHeartbeats 8000000 in
set_option maxRecDepth 100000 in
theorem og15_go (w : World) (c : Cf) (now : Int) (xs : List En) (v : Value) (wc : Wc c) (hc : okC c = true) (ht : isT now = true) (hm : ¬ c.e < (xs.length : Int)) (hv : RA w v xs) (hok : ∀ x ∈ xs, Ok x.1) : Calls Tryz.prog 31 #[cv c, .int .i64 now, v] w fun e w' => ∃ pm, e = .returned (.tuple #[pm, .int .i64 (ofL c now [] xs 0).1, .int .i64 (ofL c now [] xs 0).2]) ∧ (((ofL c now [] xs 0).2 ≠ 0 ∧ pm = .pointer none ∧ Touch [] w w') ∨ ((ofL c now [] xs 0).2 = 0 ∧ (ofL c now [] xs 0).1 = 0 ∧ ∃ m F, pm = PT m ∧ Mq w' m F c now xs ∧ (∀ i ∈ F, w.heap.size ≤ i) ∧ Touch [] w w')) := by
  obtain ⟨a1, c1, rfl, hcp, hg⟩ := hv
  have HR0 : Hid (RA w (.slice a1 xs.length c1) xs) := hid ⟨a1, c1, rfl, hcp, hg⟩
  obtain ⟨V, hV⟩ : ∃ V, V = w.alloc (cbx c 23) := ⟨_, rfl⟩
  have TV : Hid (Touch [] w V) := hid (by rw [hV]; exact (Touch.refl _ _).alloc _)
  have HC : Hid (∀ w', Touch [] V w' → C7 w' w.heap.size c) := hid (fun w' t => C7.mk' (t.keep (by rw [hV]; exact heap_alloc_new w (cbx c 23)) (by simp)))
  obtain ⟨c0, c1', c2, c3, c4, c5, c6⟩ := HC.out V (Touch.refl _ _)
  have HN : Hid (∀ w2, Calls Tryz.prog 83 #[cv c] w2 fun x w' => ∃ m, x = .returned (.tuple #[PT m, .int .i64 0]) ∧ NwQ w2 c m w') := hid (fun w2 => new9_ok w2 c hc ⟨wc.1.hi, wc.2.1.hi, wc.2.2.1.hi⟩)
  have HT := hid (fun w => is39 now w)
  rw [ht] at HT
  have HNow : Hid (0 ≤ now ∧ now ≤ MT) := hid (by unfold isT at ht; simp only [Bool.and_eq_true, decide_eq_true_eq] at ht; unfold MT; exact ht)
  have HOK := hid hok
  have hle := (okC_e hc).2
  obtain ⟨n, hn⟩ : ∃ n, n = xs.length := ⟨_, rfl⟩
  have HNx := hid hn
  have HG : Hid (0 < n → ∃ g off, a1 = some ⟨g, off, none⟩) := hid (fun hp => by obtain ⟨g, off, h1, _⟩ := hg (by omega); exact ⟨g, off, h1⟩)
  rw [← hn] at HR0 hm ⊢
  have zl : (n : Int) ≤ c.e := by omega
  have zn : (n : Int) ≤ 65536 := by omega
  have HLe := hid zl
  obtain ⟨rp, hrp⟩ : ∃ rp, rp = ofL c now [] xs 0 := ⟨_, rfl⟩
  rw [← hrp]
  have HRp := hid hrp
  unfold cv PT at HN
  unfold cv
  unfold cbx at hV
  clear wc hc ht hm hcp hg hok hn hle hrp
  go_enter Tryz.func31, Tryz.ntmps31
  go_upto_region 1 with fail
  rw [← hV]
  clear hV
  go_upto_region 4 with (go_at_call 83; refine (HN.out _).mono ?_; rintro x w3 ⟨m, rfl, F, q3, f3, t3⟩; have T3 := hid t3; have Q3 := hid q3; have F3 := hid f3; clear t3 q3 f3)
  clear c0 c1' c2 c3 c4 c5 c6
  obtain ⟨c0, c1', c2, c3, c4, c5, c6⟩ := HC.out w3 T3.out
  obtain ⟨k7, kf⟩ : w3.cell? ⟨m, 7, none⟩ = some (.int .i64 0) ∧ w3.frozen? ⟨m, 7, none⟩ = false := by
    obtain ⟨b, o, G, _, q⟩ := Q3.out
    exact ⟨q.md.cs.c7, q.md.cs.f7⟩
  go_upto_region 9 with (go_at_call 84; refine (HT.out _).mono ?_; rintro x w4 ⟨rfl, e4⟩; rw [e4]; clear e4 w4)
  clear c0 c1' c2 c3 c4 c5 c6 k7 kf
  obtain ⟨W3, hW3⟩ : ∃ W3, W3 = w3.setCell ⟨m, 7, none⟩ (.int .i64 now) := ⟨_, rfl⟩
  have HI0 : Hid (OgS w c now xs (.slice a1 n c1) m 0 W3) := hid (by
    obtain ⟨F2, q2, t2, f2⟩ := Q3.out.time HNow.out.1 HNow.out.2
    rw [← hW3] at q2 t2
    have hz := TV.out.size
    refine ⟨⟨F2, q2, fun i hi => ?_⟩, HR0.out, (TV.out.trans' T3.out).trans t2 (fun i hi => Or.inr (by have := F3.out i hi; omega)), rfl⟩
    rcases f2 i hi with h1 | h1
    · have := F3.out i h1; omega
    · have := (TV.out.trans' T3.out).size; omega)
  rw [← hW3]
  clear hW3 T3 Q3 F3 HN HT HC TV HR0 HNow
  go_wp2_with fail
  go_loopw [36] (fun s36 wr => ∃ k : Nat, s36 = .int .i64 (k : Int) ∧ k ≤ n ∧ Hid (OgS w c now xs (.slice a1 n c1) m k wr)) (fun i _ => n - (intOf i).toNat)
  case atStart => exact ⟨0, rfl, Nat.zero_le _, HI0⟩
  case round =>
    clear HI0
    obtain ⟨k, rfl, hk, HS⟩ := hrel
    by_cases hlt : k < n
    · have zk : (k : Int) < (n : Int) := by omega
      have hix : k < xs.length := by have := HNx.out; omega
      obtain ⟨g, off, rfl⟩ := HG.out (by omega)
      have hat := (HS.out.r0.keep HS.out.t).at1 (by omega)
      have r0 := hat.cell k 0 hix (by omega) rfl
      have r1 := hat.cell k 1 hix (by omega) rfl
      have r2 := hat.cell k 2 hix (by omega) rfl
      have r3 := hat.cell k 3 hix (by omega) rfl
      have r4 := hat.cell k 4 hix (by omega) rfl
      have r5 := hat.cell k 5 hix (by omega) rfl
      have r6 := hat.cell k 6 hix (by omega) rfl
      rw [Nat.add_zero] at r0
      simp only [← Nat.add_assoc] at r1 r2 r3 r4 r5 r6
      have HB := hid (fun h0 => HS.out.bad hix h0)
      have hokx := HOK.out xs[k] (List.getElem_mem hix)
      have HP : Hid (∀ w', Touch [] wr w' → nxE c now (xs.take k) xs[k] = 0 → Calls Tryz.prog 76 #[PT m, kv xs[k].1, ev xs[k].2] w' fun e w'' => ∃ u, e = .returned u ∧ OgS w c now xs (.slice (some ⟨g, off, none⟩) n c1) m (k + 1) w'') := hid (fun w' t h0 => (HS.out.keep0 t).put hix (by have := HLe.out; have := HNx.out; omega) h0 hokx)
      have HNk := hid (And.intro hk hlt)
      clear hat hk hlt
      generalize xs[k] = x at *
      clear hix
      obtain ⟨W1, hW1⟩ : ∃ W1, W1 = wr.alloc (.cells #[.int .u16 x.1.1, .string x.1.2, .int .i64 x.2.1.1, .int .i64 x.2.1.2.1, .int .i64 x.2.1.2.2.1, .int .i64 x.2.1.2.2.2, .int .i64 x.2.2] 60) := ⟨_, rfl⟩
      have HT1 : Hid (Touch [] wr W1) := hid (by rw [hW1]; exact (Touch.refl _ _).alloc _)
      have HX : Hid (∀ w', Touch [] W1 w' → w'.cell? ⟨wr.heap.size, 0, none⟩ = some (.int .u16 x.1.1) ∧ w'.cell? ⟨wr.heap.size, 1, none⟩ = some (.string x.1.2) ∧ w'.cell? ⟨wr.heap.size, 2, none⟩ = some (.int .i64 x.2.1.1) ∧ w'.cell? ⟨wr.heap.size, 3, none⟩ = some (.int .i64 x.2.1.2.1) ∧ w'.cell? ⟨wr.heap.size, 4, none⟩ = some (.int .i64 x.2.1.2.2.1) ∧ w'.cell? ⟨wr.heap.size, 5, none⟩ = some (.int .i64 x.2.1.2.2.2) ∧ w'.cell? ⟨wr.heap.size, 6, none⟩ = some (.int .i64 x.2.2)) := hid (fun w' t => by
        have := t.keep (k := wr.heap.size) (by rw [hW1]; exact heap_alloc_new wr _) (by simp)
        simp [World.cell?, this])
      have HNe := hid ((HS.out.keep0 HT1.out).next x hokx)
      obtain ⟨er, her⟩ : ∃ er, er = nxE c now (xs.take k) x := ⟨_, rfl⟩
      rw [← her] at HNe HB HP
      clear hokx her
      unfold PT nv at HNe
      unfold PT kv ev at HP
      obtain ⟨p0, p1, p2, p3, p4, p5, p6⟩ := HX.out W1 (Touch.refl _ _)
      go_upto_region 12 with fail
      rw [← hW1]
      clear hW1 r0 r1 r2 r3 r4 r5 r6
      go_upto_region 13 with (go_at_call 85; refine HNe.out.mono ?_; rintro z w2 ⟨rfl, t2⟩; have T2 := hid t2; clear t2)
      clear p0 p1 p2 p3 p4 p5 p6
      by_cases he : er ≠ 0
      · have HE := hid (HB.out he)
        clear HP HB
        go_wp2_with fail
        refine bodyPost_ret (v := .tuple #[.pointer none, .int .i64 (k : Int), .int .i64 er]) (by simp [results, Tryz.results31, go_sem]) rfl ?_
        have e1 : rp = ((k : Int), er) := HRp.out.trans HE.out
        rw [e1]
        exact ⟨_, rfl, Or.inl ⟨he, rfl, (HS.out.t.trans' HT1.out).trans' T2.out⟩⟩
      · obtain rfl : er = 0 := Classical.not_not.1 he
        have HP2 := hid (HP.out w2 (HT1.out.trans' T2.out) rfl)
        obtain ⟨p0, p1, p2, p3, p4, p5, p6⟩ := HX.out w2 T2.out
        clear HP HB he
        go_wp2_with (go_at_call 76; refine HP2.out.mono ?_; rintro z w5 ⟨u5, rfl, l5⟩; have L5 := hid l5; clear l5)
        go_roundw
        case rel => exact ⟨k + 1, by go_num, by have := HNk.out; omega, L5⟩
        case measure => simp [intOf]; have := HNk.out; omega
    · have zk : (n : Int) ≤ (k : Int) := by omega
      have HE := hid (HS.out.fin (by have := HNx.out; omega))
      go_wp2_with fail
      refine bodyPost_ret (v := .tuple #[.pointer (some ⟨m, 0, none⟩), .int .i64 0, .int .i64 0]) (by simp [results, Tryz.results31, go_sem]) rfl ?_
      obtain ⟨e1, F, q, hF⟩ := HE.out
      rw [HRp.out, e1]
      exact ⟨_, rfl, Or.inr ⟨rfl, rfl, m, F, rfl, q, hF, HS.out.t⟩⟩
theorem og15 (w : World) (c : Cf) (now : Int) (xs : List En) (v : Value) (wc : Wc c) (hl : (xs.length : Int) ≤ 9223372036854775807) (hv : RA w v xs) (hok : ∀ x ∈ xs, Ok x.1) : Calls Tryz.prog 31 #[cv c, .int .i64 now, v] w fun e w' => ∃ pm, e = .returned (.tuple #[pm, .int .i64 (ofP c now xs).1, .int .i64 (ofP c now xs).2]) ∧ OfA w c now xs pm w' := by
  unfold OfA
  unfold ofP
  cases hc : okC c with
  | false =>
    rw [if_pos rfl]
    obtain ⟨a1, c1, rfl, _⟩ := hv
    refine (of15_cfg w c now a1 _ c1 hc).mono ?_
    rintro e w' ⟨rfl, t⟩
    exact ⟨_, rfl, Or.inl ⟨by decide, rfl, t⟩⟩
  | true =>
    rw [if_neg (by simp)]
    cases ht : isT now with
    | false =>
      rw [if_pos rfl]
      obtain ⟨a1, c1, rfl, _⟩ := hv
      refine (of15_tick w c now a1 _ c1 wc hc ht).mono ?_
      rintro e w' ⟨rfl, t⟩
      exact ⟨_, rfl, Or.inl ⟨by decide, rfl, t⟩⟩
    | true =>
      rw [if_neg (by simp)]
      by_cases hm : c.e < (xs.length : Int)
      · rw [if_pos hm]
        obtain ⟨a1, c1, rfl, _⟩ := hv
        refine (of15_many w c now a1 _ c1 wc hc ht hm hl).mono ?_
        rintro e w' ⟨rfl, t⟩
        exact ⟨_, rfl, Or.inl ⟨by decide, rfl, t⟩⟩
      · rw [if_neg hm]
        exact og15_go w c now xs v wc hc ht hm hv hok
end Go.Proofs.YtpefbmheblfbeaaGreat.Sn
/- The contracts of the statements' own small functions: given and made (a memo, and the document's); the conditions are those that each states. -/
namespace Go.Proofs.YtpefbmheblfbeaaGreat.Sn
open Go.RowKit Go.Sort Go.Shelf Me
set_option linter.unusedVariables false
set_option linter.unusedSimpArgs false
theorem given_ (w : World) (x : En) : Calls Tryz.prog 32 #[nv x] w fun e w' => e = .returned (nv x) ∧ Touch [] w w' := by
  unfold nv
  go_enter Tryz.func32, Tryz.ntmps32
  go_wp2
  exact bodyPost_ret (v := .agg #[.int .u16 x.1.1, .string x.1.2, .int .i64 x.2.1.1, .int .i64 x.2.1.2.1, .int .i64 x.2.1.2.2.1, .int .i64 x.2.1.2.2.2, .int .i64 x.2.2]) (by simp [results, Tryz.results32, go_sem]) rfl ⟨rfl, by
    repeat (first | exact Touch.refl _ _ | (refine Touch.setCell ?_ (Or.inr (by simp)) _) | (refine Touch.alloc ?_ _) | (refine Touch.drew ?_))⟩
theorem infoK : (Tryz.prog.info? 88).map (fun i => (i.zero, i.size, i.bytes)) = some (some (.agg #[.int .u16 0, .string ⟨#[]⟩, .int .i64 0, .int .i64 0, .int .i64 0, .int .i64 0, .int .i64 0]), 7, 64) := by kernel_rfl
theorem wp_append_rs {w : World} {o : Oper} {a : Act} {K : Act → World → Prop} {Q : Exit → Act → World → Prop} (s x : Operand) (st et : TypeId) (ho : o.op = .call { callee := .builtin .append, args := #[s, x], argTypes := #[st, st] })
    (z : Value) (k bytes : Nat) (hinfo : (Tryz.prog.info? et).map (fun i => (i.zero, i.size, i.bytes)) = some (some z, k, bytes)) (ht : Tryz.prog.underlying st = some (.slice et)) (hzs : z.cells.size = k) (hk : 0 < k)
    (base : Nat) (v : Value) (n : Nat) (xs : List Value) (hs : a.eval s = v) (hown : w.ownsRow base et k v n xs)
    (u : Value) (m : Nat) (vs : List Value) (hx : a.eval x = u) (hu : Rs et k w u m vs) (h1 : ∀ y ∈ vs, y.oneCell' = true) (h63 : n + m ≤ maxLen) (hbytes : (n + m) * bytes ≤ 140737488355328) (hbase : base ≤ w.heap.size)
    (h : ∀ v' w', w'.ownsRow base et k v' (n + m) (xs ++ vs) → w.grownBy w' v.ownBlock → (v'.ownBlock = v.ownBlock ∨ v'.ownBlock = some w.heap.size) → K (a.put o.dst v') w') : o.wp Tryz.prog a w K Q := by
  obtain ⟨i3, hf, hz0, hz1, hz2⟩ := info_parts hinfo
  obtain ⟨hl, ad, c, rfl, hc, hn0, hr⟩ := hu
  cases ad with
  | none =>
    have e0 := hn0 rfl
    subst e0
    have em : m = 0 := by omega
    subst em
    have ev : vs = [] := List.length_eq_zero_iff.1 (by omega)
    subst ev
    have hrun := run_append_owned_none (P := Tryz.prog) (w := w) base st o.type et i3 k ht hf v n xs hown
    unfold Oper.wp
    simp [execOp, ho, resolve, invoke, builtin, hs, hx, hrun, Result.andThen]
    exact h v w (by simpa using hown) (World.grownBy.refl _ _) (Or.inl rfl)
  | some ad =>
    have hnews : ∀ j y, vs[j]? = some y → w.cell? (ad.add j) = some y := fun j y hy => by
      have hm : 0 < m := by
        rcases Nat.eq_zero_or_pos m with e | e
        · subst e
          have : vs = [] := List.length_eq_zero_iff.1 (by omega)
          subst this
          simp at hy
        · exact e
      obtain ⟨g, off, e, cs, zz, h5, h6⟩ := hr hm
      cases e
      rw [show (⟨g, off, none⟩ : Addr).add j = ⟨g, off + j, none⟩ by simp [Addr.add]]
      simp [World.cell?, h5, h6 j y hy]
    obtain ⟨v', w', hrun, q1, q2, q3, q4⟩ := run_append_own_at (P := Tryz.prog) w base st o.type et i3 z k bytes ht hf hz0 hz1 hz2 hzs hk v n xs hown ad m c vs hl hnews h1 h63 hbytes hbase
    unfold Oper.wp
    simp [execOp, ho, resolve, invoke, builtin, hs, hx, hrun, Result.andThen]
    exact h v' w' q1 q2 q4
def wcs (c : Cf) (now : Int) (v : Value) : Array Value := #[.int .i64 c.t, .int .i64 c.n, .int .i64 c.s, .int .i64 c.e, .int .i64 c.f, .int .i64 c.b, .int .i64 c.d, .int .i64 now, v]
structure MdI (w1 : World) (c : Cf) (now : Int) (xs : List En) (p : Nat) (v : Value) (wr : World) : Prop where
  t : Touch [] w1 wr
  y : wr.heap[w1.heap.size]? = some (.cells (wcs c now v) 32 (0, 0))
  o : wr.ownsRow (w1.heap.size + 1) 88 7 v p (cellsN (xs.take p))
theorem cellsN_oneB (x : En) : ∀ y ∈ nl x, y.oneCell' = true := by
  intro y hy
  simp only [nl, List.mem_cons, List.not_mem_nil, or_false] at hy
  rcases hy with rfl | rfl | rfl | rfl | rfl | rfl | rfl <;> rfl
theorem MdI.step {w1 : World} {c : Cf} {now : Int} {xs : List En} {p : Nat} {v : Value} {wr w4 : World} (h : MdI w1 c now xs p v wr) (t4 : Touch [] wr w4) {x : En} (hx : xs.take (p + 1) = xs.take p ++ [x]) {a6 : Option Addr} {c6 : Nat} {w6 : World} (o6 : w6.ownsRow (w1.heap.size + 1) 88 7 (.slice a6 (p + 1) c6) (p + 1) (cellsN (xs.take p) ++ nl x)) (g6 : w4.grownBy w6 v.ownBlock) : MdI w1 c now xs (p + 1) (.slice a6 (p + 1) c6) (w6.setCell ⟨w1.heap.size, 8, none⟩ (.slice a6 (p + 1) c6)) ∧ w6.heap[w1.heap.size]? = some (.cells (wcs c now v) 32 (0, 0)) := by
  have hy4 := t4.keep h.y (by simp)
  have o4 := own_touch h.o t4 (fun _ _ e => by cases e)
  have t6 : Touch [] w1 w6 := touch_grown (h.t.trans' t4) g6 o4 (by omega)
  have hy6 : w6.heap[w1.heap.size]? = some (.cells (wcs c now v) 32 (0, 0)) := by
    have tg : Touch v.ownBlock.toList w4 w6 := (Touch.refl v.ownBlock.toList w4).grown g6 (fun q hq => Or.inl (by simp [hq]))
    refine tg.keep hy4 (fun e => ?_)
    have := (o4.lt _ (by simpa using e)).1
    omega
  refine ⟨⟨t6.setCell (Or.inr (Nat.le_refl _)) _, Joins.block_setCell hy6 _, ?_⟩, hy6⟩
  have e7 : cellsN (xs.take (p + 1)) = cellsN (xs.take p) ++ nl x := by rw [hx, cellsN_app, cellsN_one]
  rw [e7]
  refine own_touch (F := [w1.heap.size]) o6 ((Touch.refl _ _).setCell (Or.inl (by simp)) _) (fun b hb e => ?_)
  have := (o6.lt b hb).1
  simp at e
  omega
def MdQ (w : World) (c : Cf) (now : Int) (xs : List En) (pm v : Value) (w' : World) : Prop := RN 88 w' v xs ∧ Touch [] w w' ∧ (((ofP c now xs).2 ≠ 0 ∧ pm = .pointer none) ∨ ((ofP c now xs).2 = 0 ∧ ∃ m F, pm = PT m ∧ Mq w' m F c now xs ∧ ∀ i ∈ F, w.heap.size ≤ i))
set_option maxHeartbeats 4000000 in
theorem made_ {w : World} {c : Cf} {now : Int} {xs : List En} {v : Value} (wc : Wc c) (hl : xs.length ≤ 2199023255488) (hv : RA w v xs) (hok : ∀ x ∈ xs, Ok x.1) : Calls Tryz.prog 9 #[.agg (wcs c now v)] w fun e w' => ∃ pm u, e = .returned (.tuple #[pm, mv c now u, .bool (decide ((ofP c now xs).2 = 0))]) ∧ MdQ w c now xs pm u w' := by
  obtain ⟨a, cp, rfl, hnc, hat⟩ := id hv
  obtain ⟨n, hn'⟩ : ∃ n, n = xs.length := ⟨_, rfl⟩
  rw [← hn'] at hv ⊢
  have HN := hid hn'
  have HN7 : Hid (n ≤ 2199023255488) := hid (by omega)
  have HG : Hid (0 < n → ∃ g off, a = some ⟨g, off, none⟩) := hid (fun hp => by obtain ⟨g, off, e, _⟩ := hat (by omega); exact ⟨g, off, e⟩)
  obtain ⟨V1, hV1⟩ : ∃ V1, V1 = w.alloc (.cells #[.int .i64 c.t, .int .i64 c.n, .int .i64 c.s, .int .i64 c.e, .int .i64 c.f, .int .i64 c.b, .int .i64 c.d, .int .i64 now, .slice a n cp] 26) := ⟨_, rfl⟩
  obtain ⟨V, hV⟩ : ∃ V, V = V1.alloc (.cells #[.int .i64 0, .int .i64 0, .int .i64 0, .int .i64 0, .int .i64 0, .int .i64 0, .int .i64 0, .int .i64 0, .slice none 0 0] 32) := ⟨_, rfl⟩
  have T1 : Touch [] w V1 := by rw [hV1]; exact (Touch.refl _ _).alloc _
  have T2 : Touch [] V1 V := by rw [hV]; exact (Touch.refl _ _).alloc _
  have hb1 : V.heap[w.heap.size]? = some (.cells #[.int .i64 c.t, .int .i64 c.n, .int .i64 c.s, .int .i64 c.e, .int .i64 c.f, .int .i64 c.b, .int .i64 c.d, .int .i64 now, .slice a n cp] 26 (0, 0)) := T2.keep (by rw [hV1]; exact heap_alloc_new w _) (by simp)
  have hb2 : V.heap[V1.heap.size]? = some (.cells #[.int .i64 0, .int .i64 0, .int .i64 0, .int .i64 0, .int .i64 0, .int .i64 0, .int .i64 0, .int .i64 0, .slice none 0 0] 32 (0, 0)) := by rw [hV]; exact heap_alloc_new V1 _
  have eb : V1.heap.size = w.heap.size + 1 := by rw [hV1]; simp
  rw [eb] at hb2
  have HT := hid (T1.trans' T2)
  have HB1 := hid hb1
  have HB2 := hid hb2
  have HOF := hid (og15 V c now xs (.slice a n cp) wc (by omega) (RA.keep hv (T1.trans' T2)) hok)
  have HR := hid (fun w1 (t1 : Touch [] V w1) => RA.keep hv ((T1.trans' T2).trans' t1))
  have hVs : V = (w.alloc (.cells #[.int .i64 c.t, .int .i64 c.n, .int .i64 c.s, .int .i64 c.e, .int .i64 c.f, .int .i64 c.b, .int .i64 c.d, .int .i64 now, .slice a n cp] 26)).alloc (.cells #[.int .i64 0, .int .i64 0, .int .i64 0, .int .i64 0, .int .i64 0, .int .i64 0, .int .i64 0, .int .i64 0, .slice none 0 0] 32) := by rw [hV, hV1]
  have p0 := cell_of (n := 0) hb1 rfl
  have p1 := cell_of (n := 1) hb1 rfl
  have p2 := cell_of (n := 2) hb1 rfl
  have p3 := cell_of (n := 3) hb1 rfl
  have p4 := cell_of (n := 4) hb1 rfl
  have p5 := cell_of (n := 5) hb1 rfl
  have p6 := cell_of (n := 6) hb1 rfl
  have p7 := cell_of (n := 7) hb1 rfl
  have p8 := cell_of (n := 8) hb1 rfl
  unfold wcs cv at *
  clear hv hat hnc hb1 hb2 T1 T2 hn' hok wc hl hV hV1 eb
  go_enter Tryz.func9, Tryz.ntmps9
  go_upto_region 1 with fail
  rw [← hVs]
  clear hVs
  go_upto_region 2 with (go_at_call 31; refine HOF.out.mono ?_; rintro e w1 ⟨pm, rfl, hA⟩)
  have t1 : Touch [] V w1 := by rcases hA with ⟨_, _, t⟩ | ⟨_, _, _, _, _, _, _, t⟩ <;> exact t
  clear p0 p1 p2 p3 p4 p5 p6 p7 p8
  have hb1 := t1.keep HB1.out (by simp)
  have HW1 := hid t1
  have p0 := cell_of (n := 0) hb1 rfl
  have p1 := cell_of (n := 1) hb1 rfl
  have p2 := cell_of (n := 2) hb1 rfl
  have p3 := cell_of (n := 3) hb1 rfl
  have p4 := cell_of (n := 4) hb1 rfl
  have p5 := cell_of (n := 5) hb1 rfl
  have p6 := cell_of (n := 6) hb1 rfl
  have p7 := cell_of (n := 7) hb1 rfl
  have p8 := cell_of (n := 8) hb1 rfl
  obtain ⟨W0, hW0⟩ : ∃ W0, W0 = w1.alloc (.cells #[.int .i64 c.t, .int .i64 c.n, .int .i64 c.s, .int .i64 c.e, .int .i64 c.f, .int .i64 c.b, .int .i64 c.d, .int .i64 now, .slice none 0 0] 32) := ⟨_, rfl⟩
  have tW0 : Touch [] w1 W0 := by rw [hW0]; exact (Touch.refl _ _).alloc _
  have p8' := cell_of (n := 8) (tW0.keep hb1 (by simp)) rfl
  have HI0 : Hid (MdI w1 c now xs 0 (.slice none 0 0) W0) := hid ⟨tW0, by rw [hW0]; exact heap_alloc_new w1 _, ⟨rfl, Or.inl ⟨rfl, rfl⟩⟩⟩
  have HA := hid hA
  obtain ⟨e1, he1⟩ : ∃ e1, e1 = (ofP c now xs).1 := ⟨_, rfl⟩
  obtain ⟨er, her⟩ : ∃ er, er = (ofP c now xs).2 := ⟨_, rfl⟩
  have HER := hid her
  rw [← he1, ← her]
  clear hA hb1 t1 tW0 he1 her HOF
  go_upto_region 3 with fail
  rw [← hW0]
  clear hW0 p0 p1 p2 p3 p4 p5 p6 p7 p8
  go_wp2_with fail
  go_loopw [10, 30] (fun _ i wr => ∃ (p : Nat) (a' : Option Addr) (cp' : Nat), i = .int .i64 p ∧ p ≤ n ∧ Hid (MdI w1 c now xs p (.slice a' p cp') wr)) (fun _ i _ => n - (intOf i).toNat)
  case atStart => exact ⟨0, none, 0, rfl, Nat.zero_le _, HI0⟩
  case round =>
    clear HI0 p8'
    obtain ⟨p, a', cp', rfl, hp, HI⟩ := hrel
    by_cases hlt : p < n
    · have zp : (p : Int) < (n : Int) := by omega
      have hix : p < xs.length := by have := HN.out; omega
      obtain ⟨g, off, rfl⟩ := HG.out (by omega)
      have hat := (HR.out _ (HW1.out.trans' HI.out.t)).at1 (by omega)
      have r0 := hat.cell p 0 hix (by omega) rfl
      have r1 := hat.cell p 1 hix (by omega) rfl
      have r2 := hat.cell p 2 hix (by omega) rfl
      have r3 := hat.cell p 3 hix (by omega) rfl
      have r4 := hat.cell p 4 hix (by omega) rfl
      have r5 := hat.cell p 5 hix (by omega) rfl
      have r6 := hat.cell p 6 hix (by omega) rfl
      rw [Nat.add_zero] at r0
      simp only [← Nat.add_assoc] at r1 r2 r3 r4 r5 r6
      have HTK : Hid (xs.take (p + 1) = xs.take p ++ [xs[p]]) := hid (List.take_succ_eq_append_getElem hix)
      have wp1 : IntKind.i64.wrap ((p : Int) + 1) = (p : Int) + 1 := by rw [IntKind.wrap_i64]; have := HN7.out; omega
      have HNk := hid (And.intro hp hlt)
      generalize xs[p] = x at *
      obtain ⟨W1, hW1⟩ : ∃ W1, W1 = wr.alloc (.cells #[.int .u16 x.1.1, .string x.1.2, .int .i64 x.2.1.1, .int .i64 x.2.1.2.1, .int .i64 x.2.1.2.2.1, .int .i64 x.2.1.2.2.2, .int .i64 x.2.2] 60) := ⟨_, rfl⟩
      have tW : Touch [] wr W1 := by rw [hW1]; exact (Touch.refl _ _).alloc _
      have hbx : W1.heap[wr.heap.size]? = some (.cells #[.int .u16 x.1.1, .string x.1.2, .int .i64 x.2.1.1, .int .i64 x.2.1.2.1, .int .i64 x.2.1.2.2.1, .int .i64 x.2.1.2.2.2, .int .i64 x.2.2] 60 (0, 0)) := by rw [hW1]; exact heap_alloc_new wr _
      have HGV := hid (fun w => given_ w x)
      unfold nv at HGV
      have hy1 := tW.keep HI.out.y (by simp)
      have HS3 : Hid (∀ w', Touch [] W1.drew w' → w'.heap[w1.heap.size]? = some (.cells #[.int .i64 c.t, .int .i64 c.n, .int .i64 c.s, .int .i64 c.e, .int .i64 c.f, .int .i64 c.b, .int .i64 c.d, .int .i64 now, .slice a' p cp'] 32 (0, 0)) ∧ w'.heap[wr.heap.size]? = some (.cells #[.int .u16 x.1.1, .string x.1.2, .int .i64 x.2.1.1, .int .i64 x.2.1.2.1, .int .i64 x.2.1.2.2.1, .int .i64 x.2.1.2.2.2, .int .i64 x.2.2] 60 (0, 0))) := hid (fun w' t' => ⟨t'.keep (a := W1.drew) hy1 (by simp), t'.keep (a := W1.drew) hbx (by simp)⟩)
      have HOW : Hid (∀ w', Touch [] W1.drew w' → w'.ownsRow (w1.heap.size + 1) 88 7 (.slice a' p cp') p (cellsN (xs.take p)) ∧ w1.heap.size + 1 ≤ w'.heap.size) := hid (fun w' t' => ⟨own_touch HI.out.o (tW.drew.trans' t') (fun _ _ e => by cases e), by
        have := block_lt (t'.keep (a := W1.drew) hy1 (by simp)); omega⟩)
      have HST : Hid (∀ w4, Touch [] W1.drew w4 → ∀ a6 c6 w6, w6.ownsRow (w1.heap.size + 1) 88 7 (.slice a6 (p + 1) c6) (p + 1) (cellsN (xs.take p) ++ nl x) → w4.grownBy w6 (Value.slice a' p cp').ownBlock → MdI w1 c now xs (p + 1) (.slice a6 (p + 1) c6) (w6.setCell ⟨w1.heap.size, 8, none⟩ (.slice a6 (p + 1) c6)) ∧ (w6.heap[w1.heap.size]? = some (.cells #[.int .i64 c.t, .int .i64 c.n, .int .i64 c.s, .int .i64 c.e, .int .i64 c.f, .int .i64 c.b, .int .i64 c.d, .int .i64 now, .slice a' p cp'] 32 (0, 0)) ∧ w6.heap[wr.heap.size]? = some (.cells #[.int .u16 x.1.1, .string x.1.2, .int .i64 x.2.1.1, .int .i64 x.2.1.2.1, .int .i64 x.2.1.2.2.1, .int .i64 x.2.1.2.2.2, .int .i64 x.2.2] 60 (0, 0)))) := hid (fun w4 t4 a6 c6 w6 o6 g6 => ⟨(HI.out.step (tW.drew.trans' t4) HTK.out o6 g6).1, (HI.out.step (tW.drew.trans' t4) HTK.out o6 g6).2, ((Touch.refl (Value.slice a' p cp').ownBlock.toList w4).grown g6 (fun q hq => Or.inl (by simp [hq]))).keep (t4.keep (a := W1.drew) hbx (by simp)) (fun e => by have := (HI.out.o.lt _ (by simpa using e)).2; omega)⟩)
      clear hat hp hlt tW hix
      go_upto_region 6 with fail
      rw [← hW1]
      clear hW1 r0 r1 r2 r3 r4 r5 r6
      have k0 := HS3.out _ (Touch.refl _ _)
      refine wp_region_L (S := fun w' => w'.heap[w1.heap.size]? = some (.cells #[.int .i64 c.t, .int .i64 c.n, .int .i64 c.s, .int .i64 c.e, .int .i64 c.f, .int .i64 c.b, .int .i64 c.d, .int .i64 now, .slice a' p cp'] 32 (0, 0)) ∧ w'.heap[wr.heap.size]? = some (.cells #[.int .u16 x.1.1, .string x.1.2, .int .i64 x.2.1.1, .int .i64 x.2.1.2.1, .int .i64 x.2.1.2.2.1, .int .i64 x.2.1.2.2.2, .int .i64 x.2.2] 60 (0, 0))) (st := 7) (by kernel_rfl) ?_
      have Y8 : ∀ w' : World, (w'.heap[w1.heap.size]? = some (.cells #[.int .i64 c.t, .int .i64 c.n, .int .i64 c.s, .int .i64 c.e, .int .i64 c.f, .int .i64 c.b, .int .i64 c.d, .int .i64 now, .slice a' p cp'] 32 (0, 0)) ∧ w'.heap[wr.heap.size]? = some (.cells #[.int .u16 x.1.1, .string x.1.2, .int .i64 x.2.1.1, .int .i64 x.2.1.2.1, .int .i64 x.2.1.2.2.1, .int .i64 x.2.1.2.2.2, .int .i64 x.2.2] 60 (0, 0))) → w'.cell? ⟨w1.heap.size, 8, none⟩ = some (.slice a' p cp') := fun w' h => cell_at h.1 rfl
      have X0 : ∀ w' : World, (w'.heap[w1.heap.size]? = some (.cells #[.int .i64 c.t, .int .i64 c.n, .int .i64 c.s, .int .i64 c.e, .int .i64 c.f, .int .i64 c.b, .int .i64 c.d, .int .i64 now, .slice a' p cp'] 32 (0, 0)) ∧ w'.heap[wr.heap.size]? = some (.cells #[.int .u16 x.1.1, .string x.1.2, .int .i64 x.2.1.1, .int .i64 x.2.1.2.1, .int .i64 x.2.1.2.2.1, .int .i64 x.2.1.2.2.2, .int .i64 x.2.2] 60 (0, 0))) → w'.cell? ⟨wr.heap.size, 0, none⟩ = some (.int .u16 x.1.1) := fun w' h => cell_at h.2 rfl
      have X1 : ∀ w' : World, (w'.heap[w1.heap.size]? = some (.cells #[.int .i64 c.t, .int .i64 c.n, .int .i64 c.s, .int .i64 c.e, .int .i64 c.f, .int .i64 c.b, .int .i64 c.d, .int .i64 now, .slice a' p cp'] 32 (0, 0)) ∧ w'.heap[wr.heap.size]? = some (.cells #[.int .u16 x.1.1, .string x.1.2, .int .i64 x.2.1.1, .int .i64 x.2.1.2.1, .int .i64 x.2.1.2.2.1, .int .i64 x.2.1.2.2.2, .int .i64 x.2.2] 60 (0, 0))) → w'.cell? ⟨wr.heap.size, 1, none⟩ = some (.string x.1.2) := fun w' h => cell_at h.2 rfl
      have X2 : ∀ w' : World, (w'.heap[w1.heap.size]? = some (.cells #[.int .i64 c.t, .int .i64 c.n, .int .i64 c.s, .int .i64 c.e, .int .i64 c.f, .int .i64 c.b, .int .i64 c.d, .int .i64 now, .slice a' p cp'] 32 (0, 0)) ∧ w'.heap[wr.heap.size]? = some (.cells #[.int .u16 x.1.1, .string x.1.2, .int .i64 x.2.1.1, .int .i64 x.2.1.2.1, .int .i64 x.2.1.2.2.1, .int .i64 x.2.1.2.2.2, .int .i64 x.2.2] 60 (0, 0))) → w'.cell? ⟨wr.heap.size, 2, none⟩ = some (.int .i64 x.2.1.1) := fun w' h => cell_at h.2 rfl
      have X3 : ∀ w' : World, (w'.heap[w1.heap.size]? = some (.cells #[.int .i64 c.t, .int .i64 c.n, .int .i64 c.s, .int .i64 c.e, .int .i64 c.f, .int .i64 c.b, .int .i64 c.d, .int .i64 now, .slice a' p cp'] 32 (0, 0)) ∧ w'.heap[wr.heap.size]? = some (.cells #[.int .u16 x.1.1, .string x.1.2, .int .i64 x.2.1.1, .int .i64 x.2.1.2.1, .int .i64 x.2.1.2.2.1, .int .i64 x.2.1.2.2.2, .int .i64 x.2.2] 60 (0, 0))) → w'.cell? ⟨wr.heap.size, 3, none⟩ = some (.int .i64 x.2.1.2.1) := fun w' h => cell_at h.2 rfl
      have X4 : ∀ w' : World, (w'.heap[w1.heap.size]? = some (.cells #[.int .i64 c.t, .int .i64 c.n, .int .i64 c.s, .int .i64 c.e, .int .i64 c.f, .int .i64 c.b, .int .i64 c.d, .int .i64 now, .slice a' p cp'] 32 (0, 0)) ∧ w'.heap[wr.heap.size]? = some (.cells #[.int .u16 x.1.1, .string x.1.2, .int .i64 x.2.1.1, .int .i64 x.2.1.2.1, .int .i64 x.2.1.2.2.1, .int .i64 x.2.1.2.2.2, .int .i64 x.2.2] 60 (0, 0))) → w'.cell? ⟨wr.heap.size, 4, none⟩ = some (.int .i64 x.2.1.2.2.1) := fun w' h => cell_at h.2 rfl
      have X5 : ∀ w' : World, (w'.heap[w1.heap.size]? = some (.cells #[.int .i64 c.t, .int .i64 c.n, .int .i64 c.s, .int .i64 c.e, .int .i64 c.f, .int .i64 c.b, .int .i64 c.d, .int .i64 now, .slice a' p cp'] 32 (0, 0)) ∧ w'.heap[wr.heap.size]? = some (.cells #[.int .u16 x.1.1, .string x.1.2, .int .i64 x.2.1.1, .int .i64 x.2.1.2.1, .int .i64 x.2.1.2.2.1, .int .i64 x.2.1.2.2.2, .int .i64 x.2.2] 60 (0, 0))) → w'.cell? ⟨wr.heap.size, 5, none⟩ = some (.int .i64 x.2.1.2.2.2) := fun w' h => cell_at h.2 rfl
      have X6 : ∀ w' : World, (w'.heap[w1.heap.size]? = some (.cells #[.int .i64 c.t, .int .i64 c.n, .int .i64 c.s, .int .i64 c.e, .int .i64 c.f, .int .i64 c.b, .int .i64 c.d, .int .i64 now, .slice a' p cp'] 32 (0, 0)) ∧ w'.heap[wr.heap.size]? = some (.cells #[.int .u16 x.1.1, .string x.1.2, .int .i64 x.2.1.1, .int .i64 x.2.1.2.1, .int .i64 x.2.1.2.2.1, .int .i64 x.2.1.2.2.2, .int .i64 x.2.2] 60 (0, 0))) → w'.cell? ⟨wr.heap.size, 6, none⟩ = some (.int .i64 x.2.2) := fun w' h => cell_at h.2 rfl
      generalize W1.drew = Wd at *
      clear hbx hy1
      refine wpL_take (i := 0) (v := (.pointer (some ⟨(w1.heap.size), 8, none⟩))) (some 34) rfl rfl (by kernel_rfl) (by kernel_rfl) (by kernel_rfl) (by kernel_rfl) (by kernel_rfl) (by decide) (fun _ _ _ h => h) (Or.inl ⟨by rfl, fun w' hS => (by go_simp)⟩) k0 ?_
      try simp only [Go.Act.put, List.setIfInBounds_toArray, List.set_cons_zero, List.set_cons_succ]
      refine wpL_take (i := 1) (v := (Value.slice a' p cp')) (some 35) rfl rfl (by kernel_rfl) (by kernel_rfl) (by kernel_rfl) (by kernel_rfl) (by kernel_rfl) (by decide) (fun _ _ _ h => h) (Or.inl ⟨by rfl, fun w' hS => (by have z0 := Y8 _ hS; go_simp)⟩) k0 ?_
      try simp only [Go.Act.put, List.setIfInBounds_toArray, List.set_cons_zero, List.set_cons_succ]
      refine wpL_take (i := 2) (v := (.agg #[.int .u16 x.1.1, .string x.1.2, .int .i64 x.2.1.1, .int .i64 x.2.1.2.1, .int .i64 x.2.1.2.2.1, .int .i64 x.2.1.2.2.2, .int .i64 x.2.2])) (some 36) rfl rfl (by kernel_rfl) (by kernel_rfl) (by kernel_rfl) (by kernel_rfl) (by kernel_rfl) (by decide) (fun _ _ _ h => h) (Or.inl ⟨by rfl, fun w' hS => (by have z0 := X0 _ hS; have z1 := X1 _ hS; have z2 := X2 _ hS; have z3 := X3 _ hS; have z4 := X4 _ hS; have z5 := X5 _ hS; have z6 := X6 _ hS; go_simp)⟩) k0 ?_
      try simp only [Go.Act.put, List.setIfInBounds_toArray, List.set_cons_zero, List.set_cons_succ]
      refine wpL_ready (rs := [3]) (by kernel_rfl) (by simp) (AllL.cons (o := { dst := some 37, op := Op.call { callee := Callee.value (Operand.func 32), args := #[Operand.tmp 36], argTypes := #[60] }, type := 88, pos := _, after := #[{ on := 2, ground := Ground.data }], guard := none }) rfl (fun K' hK => ?_) AllL.nil)
      rw [if_pos (by rfl)]
      go_simp
      refine (HGV.out _).mono ?_
      rintro e w3 ⟨rfl, t3⟩
      have k3 := HS3.out _ t3
      refine hK.out _ _ (fun _ => k3) ?_
      clear hK
      try simp only [Go.Act.put, List.setIfInBounds_toArray, List.set_cons_zero, List.set_cons_succ]
      refine wpL_ready (rs := [4]) (by kernel_rfl) (by simp) (AllL.cons (o := { dst := some 38, op := Op.buildSlice 30 1 #[(0, Operand.tmp 37)], type := 30, pos := _, after := #[{ on := 3, ground := Ground.data }], guard := none }) rfl (fun K' hK => ?_) AllL.nil)
      rw [if_pos (by rfl)]
      go_simp
      have t4 := t3.alloc (.cells #[.int .u16 x.1.1, .string x.1.2, .int .i64 x.2.1.1, .int .i64 x.2.1.2.1, .int .i64 x.2.1.2.2.1, .int .i64 x.2.1.2.2.2, .int .i64 x.2.2] 88)
      have k4 := HS3.out _ t4
      refine hK.out _ _ (fun _ => k4) ?_
      clear hK
      try simp only [Go.Act.put, List.setIfInBounds_toArray, List.set_cons_zero, List.set_cons_succ]
      refine wpL_ready (rs := [5]) (by kernel_rfl) (by simp) (AllL.cons (o := { dst := some 39, op := Op.call { callee := Callee.builtin Builtin.append, args := #[Operand.tmp 35, Operand.tmp 38], argTypes := #[30, 30] }, type := 30, pos := _, after := #[{ on := 1, ground := Ground.data }, { on := 4, ground := Ground.data }, { on := 3, ground := Ground.chain }], guard := none }) rfl (fun K' hK => ?_) AllL.nil)
      rw [if_pos (by rfl)]
      obtain ⟨o4, s4⟩ := HOW.out _ t4
      refine wp_append_rs _ _ 30 88 rfl (.agg #[.int .u16 0, .string ⟨#[]⟩, .int .i64 0, .int .i64 0, .int .i64 0, .int .i64 0, .int .i64 0]) 7 64 infoK Tryz.underlying30 rfl (by decide) (w1.heap.size + 1) (.slice a' p cp') p (cellsN (xs.take p)) rfl o4 (.slice (some ⟨w3.heap.size, 0, none⟩) 1 1) 1 _ rfl (Rs.new w3 #[.int .u16 x.1.1, .string x.1.2, .int .i64 x.2.1.1, .int .i64 x.2.1.2.1, .int .i64 x.2.1.2.2.1, .int .i64 x.2.1.2.2.2, .int .i64 x.2.2] 88 7 rfl) (cellsN_oneB x) (by unfold maxLen; have := HN7.out; have := HNk.out; omega) (by have := HN7.out; have := HNk.out; omega) s4 ?_
      intro v6 w6 o6 g6 _
      obtain ⟨a6, c6, e6, _⟩ := (Rs.of_own o6).form
      subst e6
      have Q6 := HST.out _ t4 a6 c6 w6 o6 g6
      have k6 := Q6.2
      have Q7 := hid Q6.1
      clear o6 g6 o4 s4 Q6
      refine hK.out _ _ (fun _ => k6) ?_
      clear hK
      try simp only [Go.Act.put, List.setIfInBounds_toArray, List.set_cons_zero, List.set_cons_succ]
      refine wpL_take (i := 6) (v := (.pointer (some ⟨(w1.heap.size), 8, none⟩))) (some 40) rfl rfl (by kernel_rfl) (by kernel_rfl) (by kernel_rfl) (by kernel_rfl) (by kernel_rfl) (by decide) (fun _ _ _ h => h) (Or.inl ⟨by rfl, fun w' hS => (by go_simp)⟩) k6 ?_
      try simp only [Go.Act.put, List.setIfInBounds_toArray, List.set_cons_zero, List.set_cons_succ]
      refine wpL_ready (rs := [7]) (by kernel_rfl) (by simp) (AllL.cons (o := { dst := none, op := Op.store 30 (Operand.tmp 40) (Operand.tmp 39), type := 0, pos := _, after := #[{ on := 6, ground := Ground.data }, { on := 5, ground := Ground.data }, { on := 5, ground := Ground.chain }, { on := 0, ground := Ground.phase }, { on := 1, ground := Ground.phase }, { on := 2, ground := Ground.phase }, { on := 3, ground := Ground.phase }, { on := 4, ground := Ground.phase }, { on := 5, ground := Ground.phase }], guard := none }) rfl (fun K' hK => ?_) AllL.nil)
      rw [if_pos (by rfl)]
      have q1 := cell_of (n := 8) k6.1 rfl
      have q2 : w6.frozen? ⟨w1.heap.size, 8, none⟩ = false := Joins.unfrozen_of_block k6.1 _
      go_simp
      clear q1 q2
      refine hK.out _ _ (fun h => absurd h (by decide)) ?_
      clear hK
      try simp only [Go.Act.put, List.setIfInBounds_toArray, List.set_cons_zero, List.set_cons_succ]
      refine wpL_done (by kernel_rfl) ?_ _
      go_wp2_with fail
      go_roundw
      case rel => exact ⟨p + 1, a6, c6, by go_num, by have := HNk.out; omega, Q7⟩
      case measure => simp [intOf]; have := HNk.out; omega
    · have zp : ¬ (p : Int) < (n : Int) := by omega
      go_upto_region 8 with fail
      obtain ⟨Wd, hWd⟩ : ∃ Wd, Wd = wr.drew := ⟨_, rfl⟩
      have td : Touch [] wr Wd := by rw [hWd]; exact (Touch.refl _ _).drew
      have hyd : Wd.heap[w1.heap.size]? = some (.cells #[.int .i64 c.t, .int .i64 c.n, .int .i64 c.s, .int .i64 c.e, .int .i64 c.f, .int .i64 c.b, .int .i64 c.d, .int .i64 now, .slice a' p cp'] 32 (0, 0)) := td.keep HI.out.y (by simp)
      have hb2 : Wd.heap[w.heap.size + 1]? = some (.cells #[.int .i64 0, .int .i64 0, .int .i64 0, .int .i64 0, .int .i64 0, .int .i64 0, .int .i64 0, .int .i64 0, .slice none 0 0] 32 (0, 0)) := ((HW1.out.trans' HI.out.t).trans' td).keep HB2.out (by simp)
      have JF : ∀ k, Wd.frozen? ⟨w.heap.size + 1, k, none⟩ = false := fun k => froz_at hb2 k
      have J0 := cell_of (n := 0) hb2 rfl
      have J1 := cell_of (n := 1) hb2 rfl
      have J2 := cell_of (n := 2) hb2 rfl
      have J3 := cell_of (n := 3) hb2 rfl
      have J4 := cell_of (n := 4) hb2 rfl
      have J5 := cell_of (n := 5) hb2 rfl
      have J6 := cell_of (n := 6) hb2 rfl
      have J7 := cell_of (n := 7) hb2 rfl
      have J8 := cell_of (n := 8) hb2 rfl
      have HQ9 : Hid (∀ W9, W9 = (((((((((Wd).setCell ⟨w.heap.size + 1, 0, none⟩ (.int .i64 c.t)).setCell ⟨w.heap.size + 1, 1, none⟩ (.int .i64 c.n)).setCell ⟨w.heap.size + 1, 2, none⟩ (.int .i64 c.s)).setCell ⟨w.heap.size + 1, 3, none⟩ (.int .i64 c.e)).setCell ⟨w.heap.size + 1, 4, none⟩ (.int .i64 c.f)).setCell ⟨w.heap.size + 1, 5, none⟩ (.int .i64 c.b)).setCell ⟨w.heap.size + 1, 6, none⟩ (.int .i64 c.d)).setCell ⟨w.heap.size + 1, 7, none⟩ (.int .i64 now)).setCell ⟨w.heap.size + 1, 8, none⟩ (.slice a' p cp') → W9.heap[w.heap.size + 1]? = some (.cells #[.int .i64 c.t, .int .i64 c.n, .int .i64 c.s, .int .i64 c.e, .int .i64 c.f, .int .i64 c.b, .int .i64 c.d, .int .i64 now, .slice a' p cp'] 32 (0, 0)) ∧ MdQ w c now xs pm (.slice a' p cp') W9) := hid (fun W9 h9 => by
        have TD : Touch [w.heap.size + 1] Wd Wd := Touch.refl _ _
        have t9 : Touch [w.heap.size + 1] Wd W9 := by rw [h9]; exact (((((((((TD.setCell (p := ⟨w.heap.size + 1, 0, none⟩) (Or.inl (by simp)) (.int .i64 c.t)).setCell (p := ⟨w.heap.size + 1, 1, none⟩) (Or.inl (by simp)) (.int .i64 c.n)).setCell (p := ⟨w.heap.size + 1, 2, none⟩) (Or.inl (by simp)) (.int .i64 c.s)).setCell (p := ⟨w.heap.size + 1, 3, none⟩) (Or.inl (by simp)) (.int .i64 c.e)).setCell (p := ⟨w.heap.size + 1, 4, none⟩) (Or.inl (by simp)) (.int .i64 c.f)).setCell (p := ⟨w.heap.size + 1, 5, none⟩) (Or.inl (by simp)) (.int .i64 c.b)).setCell (p := ⟨w.heap.size + 1, 6, none⟩) (Or.inl (by simp)) (.int .i64 c.d)).setCell (p := ⟨w.heap.size + 1, 7, none⟩) (Or.inl (by simp)) (.int .i64 now)).setCell (p := ⟨w.heap.size + 1, 8, none⟩) (Or.inl (by simp)) (.slice a' p cp'))
        have hsz : w.heap.size ≤ w.heap.size + 1 := Nat.le_succ _
        have tv : Touch [] w W9 := (HT.out.trans' ((HW1.out.trans' HI.out.t).trans' td)).trans t9 (fun i hi => by simp at hi; subst hi; exact Or.inr hsz)
        refine ⟨by rw [h9]; exact (bset (i := 8) (bset (i := 7) (bset (i := 6) (bset (i := 5) (bset (i := 4) (bset (i := 3) (bset (i := 2) (bset (i := 1) (bset (i := 0) hb2 (.int .i64 c.t)) (.int .i64 c.n)) (.int .i64 c.s)) (.int .i64 c.e)) (.int .i64 c.f)) (.int .i64 c.b)) (.int .i64 c.d)) (.int .i64 now)) (.slice a' p cp')), ?_, tv, ?_⟩
        · have o9 := own_touch HI.out.o ((Touch.mono td (G := [w.heap.size + 1]) (by simp)).trans' t9) (fun q hq e => by
            have h1 := (HI.out.o.lt q hq).1
            have h2 := block_lt (HW1.out.keep HB2.out (by simp))
            simp at e
            omega)
          have e : xs.take p = xs := List.take_of_length_le (by have := HN.out; omega)
          rw [e] at o9
          have e2 : p = xs.length := by have := HN.out; omega
          rw [e2] at o9 ⊢
          exact RN.own o9
        · rcases HA.out with ⟨q1, q2, _⟩ | ⟨q1, q2, m, F, q3, q4, q5, _⟩
          · exact Or.inl ⟨q1, q2⟩
          · have hVs : w.heap.size + 1 < V.heap.size := block_lt HB2.out
            refine Or.inr ⟨q1, m, F, q3, (q4.keep0 (HI.out.t.trans' td)).keep t9 (fun k hk e => ?_), fun i hi => ?_⟩
            · have := q5 k hk
              simp at e
              omega
            · have := q5 i hi
              omega)
      have HPM : Hid ((er ≠ 0 ∧ pm = .pointer none) ∨ (er = 0 ∧ ∃ m, pm = PT m)) := hid (by
        rw [HER.out]
        rcases HA.out with ⟨q1, q2, _⟩ | ⟨q1, q2, m, F, q3, _⟩
        · exact Or.inl ⟨q1, q2⟩
        · exact Or.inr ⟨q1, m, q3⟩)
      have HD : Hid (decide ((ofP c now xs).2 = 0) = decide (er = 0)) := hid (by rw [HER.out])
      clear td hb2
      rcases HPM.out with ⟨he, rfl⟩ | ⟨rfl, m, rfl⟩
      · rw [decide_eq_false he] at HD
        have he' : (er == 0) = false := by simpa using he
        clear HPM
        have s0 : Wd.heap[w1.heap.size]? = some (.cells #[.int .i64 c.t, .int .i64 c.n, .int .i64 c.s, .int .i64 c.e, .int .i64 c.f, .int .i64 c.b, .int .i64 c.d, .int .i64 now, .slice a' p cp'] 32 (0, 0)) := hyd
        have Z0 : ∀ w' : World, w'.heap[w1.heap.size]? = some (.cells #[.int .i64 c.t, .int .i64 c.n, .int .i64 c.s, .int .i64 c.e, .int .i64 c.f, .int .i64 c.b, .int .i64 c.d, .int .i64 now, .slice a' p cp'] 32 (0, 0)) → w'.cell? ⟨w1.heap.size, 0, none⟩ = some (.int .i64 c.t) := fun w' h => cell_at h rfl
        have Z1 : ∀ w' : World, w'.heap[w1.heap.size]? = some (.cells #[.int .i64 c.t, .int .i64 c.n, .int .i64 c.s, .int .i64 c.e, .int .i64 c.f, .int .i64 c.b, .int .i64 c.d, .int .i64 now, .slice a' p cp'] 32 (0, 0)) → w'.cell? ⟨w1.heap.size, 1, none⟩ = some (.int .i64 c.n) := fun w' h => cell_at h rfl
        have Z2 : ∀ w' : World, w'.heap[w1.heap.size]? = some (.cells #[.int .i64 c.t, .int .i64 c.n, .int .i64 c.s, .int .i64 c.e, .int .i64 c.f, .int .i64 c.b, .int .i64 c.d, .int .i64 now, .slice a' p cp'] 32 (0, 0)) → w'.cell? ⟨w1.heap.size, 2, none⟩ = some (.int .i64 c.s) := fun w' h => cell_at h rfl
        have Z3 : ∀ w' : World, w'.heap[w1.heap.size]? = some (.cells #[.int .i64 c.t, .int .i64 c.n, .int .i64 c.s, .int .i64 c.e, .int .i64 c.f, .int .i64 c.b, .int .i64 c.d, .int .i64 now, .slice a' p cp'] 32 (0, 0)) → w'.cell? ⟨w1.heap.size, 3, none⟩ = some (.int .i64 c.e) := fun w' h => cell_at h rfl
        have Z4 : ∀ w' : World, w'.heap[w1.heap.size]? = some (.cells #[.int .i64 c.t, .int .i64 c.n, .int .i64 c.s, .int .i64 c.e, .int .i64 c.f, .int .i64 c.b, .int .i64 c.d, .int .i64 now, .slice a' p cp'] 32 (0, 0)) → w'.cell? ⟨w1.heap.size, 4, none⟩ = some (.int .i64 c.f) := fun w' h => cell_at h rfl
        have Z5 : ∀ w' : World, w'.heap[w1.heap.size]? = some (.cells #[.int .i64 c.t, .int .i64 c.n, .int .i64 c.s, .int .i64 c.e, .int .i64 c.f, .int .i64 c.b, .int .i64 c.d, .int .i64 now, .slice a' p cp'] 32 (0, 0)) → w'.cell? ⟨w1.heap.size, 5, none⟩ = some (.int .i64 c.b) := fun w' h => cell_at h rfl
        have Z6 : ∀ w' : World, w'.heap[w1.heap.size]? = some (.cells #[.int .i64 c.t, .int .i64 c.n, .int .i64 c.s, .int .i64 c.e, .int .i64 c.f, .int .i64 c.b, .int .i64 c.d, .int .i64 now, .slice a' p cp'] 32 (0, 0)) → w'.cell? ⟨w1.heap.size, 6, none⟩ = some (.int .i64 c.d) := fun w' h => cell_at h rfl
        have Z7 : ∀ w' : World, w'.heap[w1.heap.size]? = some (.cells #[.int .i64 c.t, .int .i64 c.n, .int .i64 c.s, .int .i64 c.e, .int .i64 c.f, .int .i64 c.b, .int .i64 c.d, .int .i64 now, .slice a' p cp'] 32 (0, 0)) → w'.cell? ⟨w1.heap.size, 7, none⟩ = some (.int .i64 now) := fun w' h => cell_at h rfl
        have Z8 : ∀ w' : World, w'.heap[w1.heap.size]? = some (.cells #[.int .i64 c.t, .int .i64 c.n, .int .i64 c.s, .int .i64 c.e, .int .i64 c.f, .int .i64 c.b, .int .i64 c.d, .int .i64 now, .slice a' p cp'] 32 (0, 0)) → w'.cell? ⟨w1.heap.size, 8, none⟩ = some (.slice a' p cp') := fun w' h => cell_at h rfl
        refine wp_region_L (S := fun w' => w'.heap[w1.heap.size]? = some (.cells #[.int .i64 c.t, .int .i64 c.n, .int .i64 c.s, .int .i64 c.e, .int .i64 c.f, .int .i64 c.b, .int .i64 c.d, .int .i64 now, .slice a' p cp'] 32 (0, 0))) (st := 9) (by kernel_rfl) ?_
        rw [← hWd]
        clear hWd hyd
        refine wpL_take (i := 0) (v := (.pointer none)) (some 42) rfl rfl (by kernel_rfl) (by kernel_rfl) (by kernel_rfl) (by kernel_rfl) (by kernel_rfl) (by decide) (fun _ _ _ h => h) (Or.inl ⟨by rfl, fun w' hS => (by go_simp)⟩) s0 ?_
        try simp only [Go.Act.put, List.setIfInBounds_toArray, List.set_cons_zero, List.set_cons_succ]
        refine wpL_take (i := 1) (v := (.agg #[.int .i64 c.t, .int .i64 c.n, .int .i64 c.s, .int .i64 c.e, .int .i64 c.f, .int .i64 c.b, .int .i64 c.d, .int .i64 now, .slice a' p cp'])) (some 43) rfl rfl (by kernel_rfl) (by kernel_rfl) (by kernel_rfl) (by kernel_rfl) (by kernel_rfl) (by decide) (fun _ _ _ h => h) (Or.inl ⟨by rfl, fun w' hS => (by have z0 := Z0 _ hS; have z1 := Z1 _ hS; have z2 := Z2 _ hS; have z3 := Z3 _ hS; have z4 := Z4 _ hS; have z5 := Z5 _ hS; have z6 := Z6 _ hS; have z7 := Z7 _ hS; have z8 := Z8 _ hS; go_simp)⟩) s0 ?_
        try simp only [Go.Act.put, List.setIfInBounds_toArray, List.set_cons_zero, List.set_cons_succ]
        refine wpL_takeY (i := 2) (v := (.int .i64 er)) (some 44) rfl rfl (by kernel_rfl) (by kernel_rfl) (by kernel_rfl) (by decide) (fun _ _ _ h => h) (Or.inl ⟨by rfl, fun w' hS => (by go_simp)⟩) (fun _ => s0) ?_
        try simp only [Go.Act.put, List.setIfInBounds_toArray, List.set_cons_zero, List.set_cons_succ]
        refine wpL_takeY (i := 3) (v := (.bool false)) (some 45) rfl rfl (by kernel_rfl) (by kernel_rfl) (by kernel_rfl) (by decide) (fun _ _ _ h => h) (Or.inl ⟨by rfl, fun w' hS => (by go_simp)⟩) (fun _ => s0) ?_
        try simp only [Go.Act.put, List.setIfInBounds_toArray, List.set_cons_zero, List.set_cons_succ]
        refine wpL_takeY (i := 4) (v := (.bool false)) (some 46) rfl rfl (by kernel_rfl) (by kernel_rfl) (by kernel_rfl) (by decide) (fun _ _ _ h => h) (Or.inl ⟨by rfl, fun w' hS => (by go_simp)⟩) (fun _ => s0) ?_
        try simp only [Go.Act.put, List.setIfInBounds_toArray, List.set_cons_zero, List.set_cons_succ]
        refine wpL_takeY (i := 5) (v := undef) (some 47) rfl rfl (by kernel_rfl) (by kernel_rfl) (by kernel_rfl) (by decide) (fun _ _ _ h => h) (Or.inr ⟨by rfl, rfl⟩) (fun _ => s0) ?_
        try simp only [Go.Act.put, List.setIfInBounds_toArray, List.set_cons_zero, List.set_cons_succ]
        refine wpL_takeY (i := 6) (v := undef) (some 48) rfl rfl (by kernel_rfl) (by kernel_rfl) (by kernel_rfl) (by decide) (fun _ _ _ h => h) (Or.inr ⟨by rfl, rfl⟩) (fun _ => s0) ?_
        try simp only [Go.Act.put, List.setIfInBounds_toArray, List.set_cons_zero, List.set_cons_succ]
        refine wpL_takeY (i := 7) (v := (.bool false)) (some 49) rfl rfl (by kernel_rfl) (by kernel_rfl) (by kernel_rfl) (by decide) (fun _ _ _ h => h) (Or.inl ⟨by rfl, fun w' hS => (by go_simp)⟩) (fun _ => s0) ?_
        try simp only [Go.Act.put, List.setIfInBounds_toArray, List.set_cons_zero, List.set_cons_succ]
        refine wpL_take (i := 8) (v := (.pointer none)) (some 2) rfl rfl (by kernel_rfl) (by kernel_rfl) (by kernel_rfl) (by kernel_rfl) (by kernel_rfl) (by decide) (fun _ _ _ h => h) (Or.inl ⟨by rfl, fun w' hS => (by go_simp)⟩) s0 ?_
        try simp only [Go.Act.put, List.setIfInBounds_toArray, List.set_cons_zero, List.set_cons_succ]
        refine wpL_ready (rs := [9]) (by kernel_rfl) (by simp) (AllL.cons (o := { dst := none, op := Op.store 32 (Operand.tmp 3) (Operand.tmp 43), type := 0, pos := _, after := #[{ on := 1, ground := Ground.data }, { on := 8, ground := Ground.chain }, { on := 0, ground := Ground.phase }, { on := 1, ground := Ground.phase }, { on := 2, ground := Ground.textOnly Departure.lateStores }, { on := 3, ground := Ground.textOnly Departure.lateStores }, { on := 4, ground := Ground.textOnly Departure.lateStores }, { on := 5, ground := Ground.textOnly Departure.lateStores }, { on := 6, ground := Ground.textOnly Departure.lateStores }, { on := 7, ground := Ground.textOnly Departure.lateStores }, { on := 8, ground := Ground.phase }], guard := none }) rfl (fun K' hK => ?_) AllL.nil)
        rw [if_pos (by rfl)]
        have j0 := J0
        have j1 := J1
        have j2 := J2
        have j3 := J3
        have j4 := J4
        have j5 := J5
        have j6 := J6
        have j7 := J7
        have j8 := J8
        have f0 := JF 0
        have f1 := JF 1
        have f2 := JF 2
        have f3 := JF 3
        have f4 := JF 4
        have f5 := JF 5
        have f6 := JF 6
        have f7 := JF 7
        have f8 := JF 8
        go_simp
        clear j0 f0 j1 f1 j2 f2 j3 f3 j4 f4 j5 f5 j6 f6 j7 f7 j8 f8
        refine hK.out _ _ (fun h => absurd h (by decide)) ?_
        clear hK
        try simp only [Go.Act.put, List.setIfInBounds_toArray, List.set_cons_zero, List.set_cons_succ]
        refine wpL_takeY (i := 10) (v := (.bool false)) (some 4) rfl rfl (by kernel_rfl) (by kernel_rfl) (by kernel_rfl) (by decide) (fun _ _ _ h => h) (Or.inl ⟨by rfl, fun w' hS => (by go_simp)⟩) (fun h => absurd h (by decide)) ?_
        try simp only [Go.Act.put, List.setIfInBounds_toArray, List.set_cons_zero, List.set_cons_succ]
        refine wpL_done (by kernel_rfl) ?_ _
        obtain ⟨W9, hW9⟩ : ∃ W9, W9 = (((((((((Wd).setCell ⟨w.heap.size + 1, 0, none⟩ (.int .i64 c.t)).setCell ⟨w.heap.size + 1, 1, none⟩ (.int .i64 c.n)).setCell ⟨w.heap.size + 1, 2, none⟩ (.int .i64 c.s)).setCell ⟨w.heap.size + 1, 3, none⟩ (.int .i64 c.e)).setCell ⟨w.heap.size + 1, 4, none⟩ (.int .i64 c.f)).setCell ⟨w.heap.size + 1, 5, none⟩ (.int .i64 c.b)).setCell ⟨w.heap.size + 1, 6, none⟩ (.int .i64 c.d)).setCell ⟨w.heap.size + 1, 7, none⟩ (.int .i64 now)).setCell ⟨w.heap.size + 1, 8, none⟩ (.slice a' p cp') := ⟨_, rfl⟩
        rw [← hW9]
        have hq := HQ9.out W9 hW9
        clear hW9
        have y0 := cell_of (n := 0) hq.1 rfl
        have y1 := cell_of (n := 1) hq.1 rfl
        have y2 := cell_of (n := 2) hq.1 rfl
        have y3 := cell_of (n := 3) hq.1 rfl
        have y4 := cell_of (n := 4) hq.1 rfl
        have y5 := cell_of (n := 5) hq.1 rfl
        have y6 := cell_of (n := 6) hq.1 rfl
        have y7 := cell_of (n := 7) hq.1 rfl
        have y8 := cell_of (n := 8) hq.1 rfl
        go_wp2_with fail
        exact bodyPost_ret (v := .tuple #[.pointer none, .agg #[.int .i64 c.t, .int .i64 c.n, .int .i64 c.s, .int .i64 c.e, .int .i64 c.f, .int .i64 c.b, .int .i64 c.d, .int .i64 now, .slice a' p cp'], .bool false]) (by simp [results, Tryz.results9, go_sem, y0, y1, y2, y3, y4, y5, y6, y7, y8]) rfl ⟨_, _, by rw [HD.out]; rfl, hq.2⟩
      · have HD : Hid (decide ((ofP c now xs).2 = 0) = true) := hid (by rw [HD.out]; rfl)
        clear HPM
        unfold PT
        have s0 : Wd.heap[w1.heap.size]? = some (.cells #[.int .i64 c.t, .int .i64 c.n, .int .i64 c.s, .int .i64 c.e, .int .i64 c.f, .int .i64 c.b, .int .i64 c.d, .int .i64 now, .slice a' p cp'] 32 (0, 0)) := hyd
        have Z0 : ∀ w' : World, w'.heap[w1.heap.size]? = some (.cells #[.int .i64 c.t, .int .i64 c.n, .int .i64 c.s, .int .i64 c.e, .int .i64 c.f, .int .i64 c.b, .int .i64 c.d, .int .i64 now, .slice a' p cp'] 32 (0, 0)) → w'.cell? ⟨w1.heap.size, 0, none⟩ = some (.int .i64 c.t) := fun w' h => cell_at h rfl
        have Z1 : ∀ w' : World, w'.heap[w1.heap.size]? = some (.cells #[.int .i64 c.t, .int .i64 c.n, .int .i64 c.s, .int .i64 c.e, .int .i64 c.f, .int .i64 c.b, .int .i64 c.d, .int .i64 now, .slice a' p cp'] 32 (0, 0)) → w'.cell? ⟨w1.heap.size, 1, none⟩ = some (.int .i64 c.n) := fun w' h => cell_at h rfl
        have Z2 : ∀ w' : World, w'.heap[w1.heap.size]? = some (.cells #[.int .i64 c.t, .int .i64 c.n, .int .i64 c.s, .int .i64 c.e, .int .i64 c.f, .int .i64 c.b, .int .i64 c.d, .int .i64 now, .slice a' p cp'] 32 (0, 0)) → w'.cell? ⟨w1.heap.size, 2, none⟩ = some (.int .i64 c.s) := fun w' h => cell_at h rfl
        have Z3 : ∀ w' : World, w'.heap[w1.heap.size]? = some (.cells #[.int .i64 c.t, .int .i64 c.n, .int .i64 c.s, .int .i64 c.e, .int .i64 c.f, .int .i64 c.b, .int .i64 c.d, .int .i64 now, .slice a' p cp'] 32 (0, 0)) → w'.cell? ⟨w1.heap.size, 3, none⟩ = some (.int .i64 c.e) := fun w' h => cell_at h rfl
        have Z4 : ∀ w' : World, w'.heap[w1.heap.size]? = some (.cells #[.int .i64 c.t, .int .i64 c.n, .int .i64 c.s, .int .i64 c.e, .int .i64 c.f, .int .i64 c.b, .int .i64 c.d, .int .i64 now, .slice a' p cp'] 32 (0, 0)) → w'.cell? ⟨w1.heap.size, 4, none⟩ = some (.int .i64 c.f) := fun w' h => cell_at h rfl
        have Z5 : ∀ w' : World, w'.heap[w1.heap.size]? = some (.cells #[.int .i64 c.t, .int .i64 c.n, .int .i64 c.s, .int .i64 c.e, .int .i64 c.f, .int .i64 c.b, .int .i64 c.d, .int .i64 now, .slice a' p cp'] 32 (0, 0)) → w'.cell? ⟨w1.heap.size, 5, none⟩ = some (.int .i64 c.b) := fun w' h => cell_at h rfl
        have Z6 : ∀ w' : World, w'.heap[w1.heap.size]? = some (.cells #[.int .i64 c.t, .int .i64 c.n, .int .i64 c.s, .int .i64 c.e, .int .i64 c.f, .int .i64 c.b, .int .i64 c.d, .int .i64 now, .slice a' p cp'] 32 (0, 0)) → w'.cell? ⟨w1.heap.size, 6, none⟩ = some (.int .i64 c.d) := fun w' h => cell_at h rfl
        have Z7 : ∀ w' : World, w'.heap[w1.heap.size]? = some (.cells #[.int .i64 c.t, .int .i64 c.n, .int .i64 c.s, .int .i64 c.e, .int .i64 c.f, .int .i64 c.b, .int .i64 c.d, .int .i64 now, .slice a' p cp'] 32 (0, 0)) → w'.cell? ⟨w1.heap.size, 7, none⟩ = some (.int .i64 now) := fun w' h => cell_at h rfl
        have Z8 : ∀ w' : World, w'.heap[w1.heap.size]? = some (.cells #[.int .i64 c.t, .int .i64 c.n, .int .i64 c.s, .int .i64 c.e, .int .i64 c.f, .int .i64 c.b, .int .i64 c.d, .int .i64 now, .slice a' p cp'] 32 (0, 0)) → w'.cell? ⟨w1.heap.size, 8, none⟩ = some (.slice a' p cp') := fun w' h => cell_at h rfl
        refine wp_region_L (S := fun w' => w'.heap[w1.heap.size]? = some (.cells #[.int .i64 c.t, .int .i64 c.n, .int .i64 c.s, .int .i64 c.e, .int .i64 c.f, .int .i64 c.b, .int .i64 c.d, .int .i64 now, .slice a' p cp'] 32 (0, 0))) (st := 9) (by kernel_rfl) ?_
        rw [← hWd]
        clear hWd hyd
        refine wpL_take (i := 0) (v := (.pointer (some ⟨m, 0, none⟩))) (some 42) rfl rfl (by kernel_rfl) (by kernel_rfl) (by kernel_rfl) (by kernel_rfl) (by kernel_rfl) (by decide) (fun _ _ _ h => h) (Or.inl ⟨by rfl, fun w' hS => (by go_simp)⟩) s0 ?_
        try simp only [Go.Act.put, List.setIfInBounds_toArray, List.set_cons_zero, List.set_cons_succ]
        refine wpL_take (i := 1) (v := (.agg #[.int .i64 c.t, .int .i64 c.n, .int .i64 c.s, .int .i64 c.e, .int .i64 c.f, .int .i64 c.b, .int .i64 c.d, .int .i64 now, .slice a' p cp'])) (some 43) rfl rfl (by kernel_rfl) (by kernel_rfl) (by kernel_rfl) (by kernel_rfl) (by kernel_rfl) (by decide) (fun _ _ _ h => h) (Or.inl ⟨by rfl, fun w' hS => (by have z0 := Z0 _ hS; have z1 := Z1 _ hS; have z2 := Z2 _ hS; have z3 := Z3 _ hS; have z4 := Z4 _ hS; have z5 := Z5 _ hS; have z6 := Z6 _ hS; have z7 := Z7 _ hS; have z8 := Z8 _ hS; go_simp)⟩) s0 ?_
        try simp only [Go.Act.put, List.setIfInBounds_toArray, List.set_cons_zero, List.set_cons_succ]
        refine wpL_takeY (i := 2) (v := (.int .i64 0)) (some 44) rfl rfl (by kernel_rfl) (by kernel_rfl) (by kernel_rfl) (by decide) (fun _ _ _ h => h) (Or.inl ⟨by rfl, fun w' hS => (by go_simp)⟩) (fun _ => s0) ?_
        try simp only [Go.Act.put, List.setIfInBounds_toArray, List.set_cons_zero, List.set_cons_succ]
        refine wpL_takeY (i := 3) (v := (.bool true)) (some 45) rfl rfl (by kernel_rfl) (by kernel_rfl) (by kernel_rfl) (by decide) (fun _ _ _ h => h) (Or.inl ⟨by rfl, fun w' hS => (by go_simp)⟩) (fun _ => s0) ?_
        try simp only [Go.Act.put, List.setIfInBounds_toArray, List.set_cons_zero, List.set_cons_succ]
        refine wpL_takeY (i := 4) (v := (.bool true)) (some 46) rfl rfl (by kernel_rfl) (by kernel_rfl) (by kernel_rfl) (by decide) (fun _ _ _ h => h) (Or.inl ⟨by rfl, fun w' hS => (by go_simp)⟩) (fun _ => s0) ?_
        try simp only [Go.Act.put, List.setIfInBounds_toArray, List.set_cons_zero, List.set_cons_succ]
        refine wpL_takeY (i := 5) (v := (.pointer (some ⟨m, 0, none⟩))) (some 47) rfl rfl (by kernel_rfl) (by kernel_rfl) (by kernel_rfl) (by decide) (fun _ _ _ h => h) (Or.inl ⟨by rfl, fun w' hS => (by go_simp)⟩) (fun _ => s0) ?_
        try simp only [Go.Act.put, List.setIfInBounds_toArray, List.set_cons_zero, List.set_cons_succ]
        refine wpL_takeY (i := 6) (v := (.bool true)) (some 48) rfl rfl (by kernel_rfl) (by kernel_rfl) (by kernel_rfl) (by decide) (fun _ _ _ h => h) (Or.inl ⟨by rfl, fun w' hS => (by go_simp)⟩) (fun _ => s0) ?_
        try simp only [Go.Act.put, List.setIfInBounds_toArray, List.set_cons_zero, List.set_cons_succ]
        refine wpL_takeY (i := 7) (v := (.bool true)) (some 49) rfl rfl (by kernel_rfl) (by kernel_rfl) (by kernel_rfl) (by decide) (fun _ _ _ h => h) (Or.inl ⟨by rfl, fun w' hS => (by go_simp)⟩) (fun _ => s0) ?_
        try simp only [Go.Act.put, List.setIfInBounds_toArray, List.set_cons_zero, List.set_cons_succ]
        refine wpL_take (i := 8) (v := (.pointer (some ⟨m, 0, none⟩))) (some 2) rfl rfl (by kernel_rfl) (by kernel_rfl) (by kernel_rfl) (by kernel_rfl) (by kernel_rfl) (by decide) (fun _ _ _ h => h) (Or.inl ⟨by rfl, fun w' hS => (by go_simp)⟩) s0 ?_
        try simp only [Go.Act.put, List.setIfInBounds_toArray, List.set_cons_zero, List.set_cons_succ]
        refine wpL_ready (rs := [9]) (by kernel_rfl) (by simp) (AllL.cons (o := { dst := none, op := Op.store 32 (Operand.tmp 3) (Operand.tmp 43), type := 0, pos := _, after := #[{ on := 1, ground := Ground.data }, { on := 8, ground := Ground.chain }, { on := 0, ground := Ground.phase }, { on := 1, ground := Ground.phase }, { on := 2, ground := Ground.textOnly Departure.lateStores }, { on := 3, ground := Ground.textOnly Departure.lateStores }, { on := 4, ground := Ground.textOnly Departure.lateStores }, { on := 5, ground := Ground.textOnly Departure.lateStores }, { on := 6, ground := Ground.textOnly Departure.lateStores }, { on := 7, ground := Ground.textOnly Departure.lateStores }, { on := 8, ground := Ground.phase }], guard := none }) rfl (fun K' hK => ?_) AllL.nil)
        rw [if_pos (by rfl)]
        have j0 := J0
        have j1 := J1
        have j2 := J2
        have j3 := J3
        have j4 := J4
        have j5 := J5
        have j6 := J6
        have j7 := J7
        have j8 := J8
        have f0 := JF 0
        have f1 := JF 1
        have f2 := JF 2
        have f3 := JF 3
        have f4 := JF 4
        have f5 := JF 5
        have f6 := JF 6
        have f7 := JF 7
        have f8 := JF 8
        go_simp
        clear j0 f0 j1 f1 j2 f2 j3 f3 j4 f4 j5 f5 j6 f6 j7 f7 j8 f8
        refine hK.out _ _ (fun h => absurd h (by decide)) ?_
        clear hK
        try simp only [Go.Act.put, List.setIfInBounds_toArray, List.set_cons_zero, List.set_cons_succ]
        refine wpL_takeY (i := 10) (v := (.bool true)) (some 4) rfl rfl (by kernel_rfl) (by kernel_rfl) (by kernel_rfl) (by decide) (fun _ _ _ h => h) (Or.inl ⟨by rfl, fun w' hS => (by go_simp)⟩) (fun h => absurd h (by decide)) ?_
        try simp only [Go.Act.put, List.setIfInBounds_toArray, List.set_cons_zero, List.set_cons_succ]
        refine wpL_done (by kernel_rfl) ?_ _
        obtain ⟨W9, hW9⟩ : ∃ W9, W9 = (((((((((Wd).setCell ⟨w.heap.size + 1, 0, none⟩ (.int .i64 c.t)).setCell ⟨w.heap.size + 1, 1, none⟩ (.int .i64 c.n)).setCell ⟨w.heap.size + 1, 2, none⟩ (.int .i64 c.s)).setCell ⟨w.heap.size + 1, 3, none⟩ (.int .i64 c.e)).setCell ⟨w.heap.size + 1, 4, none⟩ (.int .i64 c.f)).setCell ⟨w.heap.size + 1, 5, none⟩ (.int .i64 c.b)).setCell ⟨w.heap.size + 1, 6, none⟩ (.int .i64 c.d)).setCell ⟨w.heap.size + 1, 7, none⟩ (.int .i64 now)).setCell ⟨w.heap.size + 1, 8, none⟩ (.slice a' p cp') := ⟨_, rfl⟩
        rw [← hW9]
        have hq := HQ9.out W9 hW9
        clear hW9
        have y0 := cell_of (n := 0) hq.1 rfl
        have y1 := cell_of (n := 1) hq.1 rfl
        have y2 := cell_of (n := 2) hq.1 rfl
        have y3 := cell_of (n := 3) hq.1 rfl
        have y4 := cell_of (n := 4) hq.1 rfl
        have y5 := cell_of (n := 5) hq.1 rfl
        have y6 := cell_of (n := 6) hq.1 rfl
        have y7 := cell_of (n := 7) hq.1 rfl
        have y8 := cell_of (n := 8) hq.1 rfl
        go_wp2_with fail
        exact bodyPost_ret (v := .tuple #[.pointer (some ⟨m, 0, none⟩), .agg #[.int .i64 c.t, .int .i64 c.n, .int .i64 c.s, .int .i64 c.e, .int .i64 c.f, .int .i64 c.b, .int .i64 c.d, .int .i64 now, .slice a' p cp'], .bool true]) (by simp [results, Tryz.results9, go_sem, y0, y1, y2, y3, y4, y5, y6, y7, y8]) rfl ⟨_, _, by rw [HD.out]; rfl, hq.2⟩
end Go.Proofs.YtpefbmheblfbeaaGreat.Sn
/- A whole (a configuration, a time and a slice of entries) as an argument, opened; no conditions. -/
namespace Go.Proofs.YtpefbmheblfbeaaGreat.Sn
open Go.ChangeShapes Go.WideShapes Go.ChangeAt Go.RowKit Me
set_option linter.unusedVariables false
theorem add_plainA (b off k : Nat) : (⟨b, off, none⟩ : Addr).add k = ⟨b, off + k, none⟩ := by simp [Addr.add]
theorem cells39 : Tryz.prog.cellsOf 54 = 2 := by kernel_rfl
theorem cells56 : Tryz.prog.cellsOf 60 = 7 := by kernel_rfl
theorem cellsW : Tryz.prog.cellsOf 26 = 9 := by kernel_rfl
theorem cells50 : Tryz.prog.cellsOf 24 = 1 := by kernel_rfl
set_option maxRecDepth 100000 in
theorem fields56 {H : Type} {enc : TypeId × Value → H} {W : World} {base fuel : Nat} {spare : Nat → Bool} {held : Bool} {cs : List Value} {x : DataW H × List MemPlace} (h : DataW.trod enc Tryz.prog W base spare held fuel 60 cs = some x) (hl : cs.length = 7) :
    ∃ q : En, cs = [.int .u16 q.1.1, .string q.1.2, .int .i64 q.2.1.1, .int .i64 q.2.1.2.1, .int .i64 q.2.1.2.2.1, .int .i64 q.2.1.2.2.2, .int .i64 q.2.2] ∧ Ok q.1 ∧ Wo q.2.1 ∧ W64 q.2.2 := by
  obtain ⟨ys, k, hk, hxy, _, hyl, hfe⟩ := DataW.trod_struct Tryz.underlying60 h
  match cs, hl with
  | [v0, v1, v2, v3, v4, v5, v6], _ =>
    have hy : ys.length = 3 := hyl
    match ys, hy with
    | [y0, y1, y2], _ =>
      have g0 := hfe 0 _ rfl
      have g1 := hfe 1 _ rfl
      have g2 := hfe 2 _ rfl
      simp [cells2, cells39, cells43] at g0 g1 g2
      obtain ⟨zs, k2, hk2, _, _, hzl, hfz⟩ := DataW.trod_struct Tryz.underlying54 g0
      have hz : zs.length = 2 := hzl
      match zs, hz with
      | [z0, z1], _ =>
        have f0 := hfz 0 _ rfl
        have f1 := hfz 1 _ rfl
        simp [cells37, cells9] at f0 f1
        obtain ⟨D, d1, _, wd⟩ := DataW.trod_int Tryz.underlying52 f0
        obtain ⟨s, e1, _, ws⟩ := DataW.trod_string Tryz.underlying9 f1
        obtain ⟨o, o1, wo⟩ := fields43 g1 rfl
        obtain ⟨A, a1, _, wa⟩ := DataW.trod_int Tryz.underlying2 g2
        simp only [List.cons.injEq, and_true] at a1 d1 e1 o1
        obtain ⟨o1, o2, o3, o4⟩ := o1
        subst a1 d1 e1 o1 o2 o3 o4
        exact ⟨((D, s), o, A), rfl, ⟨wd, ws⟩, wo, wa⟩
set_option maxRecDepth 100000 in
theorem open_ents {H : Type} {enc : TypeId × Value → H} {W : World} {fuel : Nat} {v : Value} {y : DataW H × List MemPlace} (hf : DataW.trod enc Tryz.prog W 0 (fun _ => true) true fuel 24 [v] = some y) :
    ∃ xs : List En, RA W v xs ∧ (∀ x ∈ xs, Ok x.1 ∧ Wo x.2.1 ∧ W64 x.2.2) ∧ (xs = [] ∨ ∃ elems spare, y.1 = .slice elems spare ∧ elems.length = xs.length) := by
  rcases Deep.open_slice Tryz.underlying24 hf with ⟨hcs, _⟩ | ⟨x, len, c, m, n, D, Pl, hcs, _, hl, hm, hmm, hx, hall⟩
  · simp only [List.cons.injEq, and_true] at hcs
    subst hcs
    exact ⟨[], ⟨none, 0, rfl, Nat.le_refl _, fun h => absurd h (Nat.lt_irrefl 0)⟩, fun x hx => by simp at hx, Or.inl rfl⟩
  · simp only [List.cons.injEq, and_true] at hcs
    subst hcs
    simp only [if_true] at hmm
    subst hmm
    subst hx
    rw [cells56] at hall
    have each : ∀ i, i < m → ∃ q : En, W.cell? (x.add (i * 7)) = some (.int .u16 q.1.1) ∧ W.cell? (x.add (i * 7 + 1)) = some (.string q.1.2) ∧ W.cell? (x.add (i * 7 + 2)) = some (.int .i64 q.2.1.1) ∧ W.cell? (x.add (i * 7 + 3)) = some (.int .i64 q.2.1.2.1) ∧ W.cell? (x.add (i * 7 + 4)) = some (.int .i64 q.2.1.2.2.1) ∧ W.cell? (x.add (i * 7 + 5)) = some (.int .i64 q.2.1.2.2.2) ∧ W.cell? (x.add (i * 7 + 6)) = some (.int .i64 q.2.2) ∧ Ok q.1 ∧ Wo q.2.1 ∧ W64 q.2.2 := fun i hi => by
      obtain ⟨cs', h1, h2⟩ := hall i hi
      obtain ⟨_, hlen, hcell⟩ := World.cells?_some h1
      obtain ⟨q, rfl, wq⟩ := fields56 h2 hlen
      have e0 := hcell 0 (by omega)
      have e1 := hcell 1 (by omega)
      have e2 := hcell 2 (by omega)
      have e3 := hcell 3 (by omega)
      have e4 := hcell 4 (by omega)
      have e5 := hcell 5 (by omega)
      have e6 := hcell 6 (by omega)
      rw [Deep.add_add] at e0 e1 e2 e3 e4 e5 e6
      exact ⟨q, by simpa using e0, by simpa using e1, by simpa using e2, by simpa using e3, by simpa using e4, by simpa using e5, by simpa using e6, wq⟩
    haveI : Inhabited En := ⟨((0, ⟨#[]⟩), oz, 0)⟩
    obtain ⟨q, hq⟩ := Deep.choose_lt each
    rcases Nat.eq_zero_or_pos len with e | e
    · subst e
      exact ⟨[], ⟨_, _, rfl, Nat.zero_le _, fun h => absurd h (Nat.lt_irrefl 0)⟩, fun x hx => by simp at hx, Or.inl rfl⟩
    · have hsp : x.spot = none := by
        have h0 := (hq 0 (by omega)).1
        rw [show x.add (0 * 7) = x by simp [Addr.add]] at h0
        unfold World.cell? at h0
        split at h0
        · split at h0
          · cases h0
          · rename_i hs
            cases hh : x.spot with
            | none => rfl
            | some z => rw [hh] at hs; exact absurd rfl hs
        · cases h0
      obtain ⟨b, off, r⟩ := x
      obtain rfl : r = none := hsp
      have hlen : ((List.range len).map q).length = len := by simp
      refine ⟨(List.range len).map q, ⟨some ⟨b, off, none⟩, m, by rw [hlen], by rw [hlen]; exact hl, fun _ => ⟨b, off, rfl, ?_, fun i hi j hj => ?_⟩⟩, fun y hy => ?_, Or.inr ⟨_, _, rfl, by simp⟩⟩
      · rcases Nat.lt_or_ge b W.heap.size with h | h
        · exact h
        · have h0 := (hq 0 (by omega)).1
          simp [World.cell?, add_plainA, Array.getElem?_eq_none h] at h0
      · rw [hlen] at hi
        obtain ⟨h0, h1, h2, h3, h4, h5, h6, _⟩ := hq i (by omega)
        simp only [add_plainA] at h0 h1 h2 h3 h4 h5 h6
        rw [List.getElem_map, List.getElem_range]
        match j, hj with
        | 0, _ => exact h0
        | 1, _ => exact h1
        | 2, _ => exact h2
        | 3, _ => exact h3
        | 4, _ => exact h4
        | 5, _ => exact h5
        | 6, _ => exact h6
      · simp only [List.mem_map, List.mem_range] at hy
        obtain ⟨i, hi, rfl⟩ := hy
        exact (hq i (by omega)).2.2.2.2.2.2.2
set_option maxRecDepth 100000 in
set_option maxHeartbeats 1000000 in
theorem open_whole {H : Type} {enc : TypeId × Value → H} {W : World} {b0 : Nat} {v : Value} {d : DataW H} {p : List MemPlace} (hv : Value.okWide Tryz.prog W .any b0 26 v) (h : DataW.Trod enc Tryz.prog W 0 (fun _ => true) true 26 v d p) :
    ∃ (c : Cf) (now : Int) (u : Value) (xs : List En), v = .agg (wcs c now u) ∧ Wc c ∧ W64 now ∧ RA W u xs ∧ (∀ x ∈ xs, Ok x.1 ∧ Wo x.2.1 ∧ W64 x.2.2) ∧ (xs = [] ∨ ∃ l0 l1 elems spare, d = .agg [l0, l1, .slice elems spare] ∧ elems.length = xs.length) := by
  obtain ⟨cs, rfl, hs⟩ := okWide_struct Tryz.underlying26 hv
  obtain ⟨fuel, hf⟩ := h
  rw [cellsW] at hs
  obtain ⟨ys, k, hk, hxy, _, hyl, hfe⟩ := DataW.trod_struct Tryz.underlying26 hf
  obtain ⟨cl⟩ := cs
  have hs' : cl.length = 9 := by simpa using hs
  match cl, hs' with
  | [v0, v1, v2, v3, v4, v5, v6, v7, v8], _ =>
    have hy : ys.length = 3 := hyl
    match ys, hy with
    | [y0, y1, y2], _ =>
      have g0 := hfe 0 _ rfl
      have g1 := hfe 1 _ rfl
      have g2 := hfe 2 _ rfl
      simp [Value.cells, cells2, cells50, cells23] at g0 g1 g2
      obtain ⟨zs, k2, hk2, _, _, hzl, hfz⟩ := DataW.trod_struct Tryz.underlying23 g0
      have hz : zs.length = 7 := hzl
      match zs, hz with
      | [z0, z1, z2, z3, z4, z5, z6], _ =>
        have f0 := hfz 0 _ rfl
        have f1 := hfz 1 _ rfl
        have f2 := hfz 2 _ rfl
        have f3 := hfz 3 _ rfl
        have f4 := hfz 4 _ rfl
        have f5 := hfz 5 _ rfl
        have f6 := hfz 6 _ rfl
        simp [cells2, cells3] at f0 f1 f2 f3 f4 f5 f6
        obtain ⟨q0, e0, _, w0⟩ := DataW.trod_int Tryz.underlying2 f0
        obtain ⟨q1, e1, _, w1⟩ := DataW.trod_int Tryz.underlying2 f1
        obtain ⟨q2, e2, _, w2⟩ := DataW.trod_int Tryz.underlying2 f2
        obtain ⟨q3, e3, _, w3⟩ := DataW.trod_int Tryz.underlying3 f3
        obtain ⟨q4, e4, _, w4⟩ := DataW.trod_int Tryz.underlying3 f4
        obtain ⟨q5, e5, _, w5⟩ := DataW.trod_int Tryz.underlying3 f5
        obtain ⟨q6, e6, _, w6⟩ := DataW.trod_int Tryz.underlying2 f6
        obtain ⟨q7, e7, _, w7⟩ := DataW.trod_int Tryz.underlying2 g1
        simp only [List.cons.injEq, and_true] at e0 e1 e2 e3 e4 e5 e6 e7
        subst e0 e1 e2 e3 e4 e5 e6 e7
        obtain ⟨xs, s1, s2, s3⟩ := open_ents g2
        refine ⟨⟨q0, q1, q2, q3, q4, q5, q6⟩, q7, v8, xs, rfl, ⟨w0, w1, w2, w3, w4, w5, w6⟩, w7, s1, s2, ?_⟩
        rcases s3 with s3 | ⟨es, sp, e1, e2⟩
        · exact Or.inl s3
        · refine Or.inr ⟨y0.1, y1.1, es, sp, ?_, e2⟩
          have := congrArg Prod.fst hxy
          simp [e1] at this
          exact this
theorem sized_whole {H : Type} {ts : List TypeId} {ds : List (DataW H)} (h : (DataW.weightsEach Tryz.prog ts ds).all (· ≤ reachBytes) = true) {j : Nat} {l0 l1 : DataW H} {es sp : List (DataW H)} (ht : ts[j]? = some 26) (hd : ds[j]? = some (.agg [l0, l1, .slice es sp])) : es.length ≤ 2199023255488 := by
  have hb : Tryz.prog.bytesOf 60 = 64 := by kernel_rfl
  have h1 := List.all_eq_true.1 h _ (DataW.weights_mem_each ht hd ((es.length + sp.length) * Tryz.prog.bytesOf 60) (by
    simp only [DataW.weights, Tryz.underlying26]
    exact DataW.weights_mem_each (j := 2) (t := 24) (d := .slice es sp) rfl rfl _ (by simp [DataW.weights, Tryz.underlying24])))
  rw [hb] at h1
  have h3 : reachBytes = 140737488351232 := rfl
  simp only [decide_eq_true_eq] at h1
  omega
end Go.Proofs.YtpefbmheblfbeaaGreat.Sn
/- What is known of a memo that was made: its numbers are of 64 bits; and when two memos are the same; the conditions are those that each states. -/
namespace Go.Proofs.YtpefbmheblfbeaaGreat.Sn
open Go.RowKit Go.Sort Go.Shelf Me
set_option linter.unusedVariables false
theorem nxE_keeps {c : Cf} {now : Int} {xs : List En} {x : En} (h : nxE c now xs x = 0) : keepsC c x.2.1 = true := by
  unfold nxE at h
  by_cases hp : pairE x.1 x.2.1 ≠ 0
  · rw [if_pos hp] at h; exact absurd h hp
  · rw [if_neg hp] at h
    cases hk : keepsC c x.2.1 with
    | true => rfl
    | false =>
      rw [hk] at h
      simp at h
theorem ofL_ok {c : Cf} {now : Int} : ∀ (xs done : List En) (i : Int), (ofL c now done xs i).2 = 0 → ∀ x ∈ xs, x.1.2.size ≤ 64 ∧ right x.2.1 = true ∧ 0 ≤ x.2.2 ∧ x.2.2 ≤ now ∧ keepsC c x.2.1 = true
  | [], _, _, _, x, hx => by simp at hx
  | y :: r, done, i, h, x, hx => by
    rw [ofL] at h
    by_cases hy : nxE c now done y = 0
    · rw [if_neg (by rw [hy]; simp)] at h
      rcases List.mem_cons.1 hx with rfl | hx
      · obtain ⟨a, ⟨b, b2, b3⟩, _⟩ := nxE_ok hy
        exact ⟨a, b, b2, b3, nxE_keeps hy⟩
      · exact ofL_ok r _ _ h x hx
    · rw [if_pos hy] at h
      exact absurd h hy
theorem w64 {x : Int} (h : W64 x) : -9223372036854775808 ≤ x ∧ x ≤ 9223372036854775807 := by
  simpa [W64, Lit.wf, IntKind.min, IntKind.max, IntKind.signed, IntKind.bits] using h
theorem right_k {c : Cf} {o : O} (h : right o = true) (hk : keepsC c o = true) : (0 ≤ o.2.1 ∧ o.2.1 ≤ 2) ∧ 0 ≤ o.2.2.2 := by
  have h1 : o.2.1 = 0 ∨ o.2.1 = 1 ∨ o.2.1 = 2 := by
    unfold keepsC at hk
    by_cases a : o.2.1 = 0
    · exact Or.inl a
    · by_cases b : o.2.1 = 1
      · exact Or.inr (Or.inl b)
      · by_cases d : o.2.1 = 2
        · exact Or.inr (Or.inr d)
        · simp [a, b, d] at hk
  unfold right at h
  rw [Bool.and_eq_true] at h
  have h2 := h.1
  unfold mayF at h2
  rcases h1 with e | e | e
  · rw [if_pos e] at h2
    simp at h2
    omega
  · rw [if_neg (by omega), if_pos e] at h2
    simp at h2
    omega
  · rw [if_neg (by omega), if_neg (by omega), if_pos e] at h2
    simp at h2
    omega
theorem made_ok {c : Cf} {now : Int} {xs : List En} (h : (ofP c now xs).2 = 0) (wc : Wc c) (wn : W64 now) (hx : ∀ x ∈ xs, Ok x.1 ∧ Wo x.2.1 ∧ W64 x.2.2) : MmOk c now xs ∧ ∀ x ∈ xs, right x.2.1 = true := by
  unfold ofP at h
  by_cases h1 : okC c = false
  · rw [if_pos h1] at h; exact absurd h (by decide)
  rw [if_neg h1] at h
  by_cases h2 : isT now = false
  · rw [if_pos h2] at h; exact absurd h (by decide)
  rw [if_neg h2] at h
  by_cases h3 : c.e < (xs.length : Int)
  · rw [if_pos h3] at h; exact absurd h (by decide)
  rw [if_neg h3] at h
  have ok1 : okC c = true := by simpa using h1
  have ok2 : isT now = true := by simpa using h2
  have hall := ofL_ok xs [] 0 h
  obtain ⟨a1, a2, a3, a4, a5, a6, a7⟩ := wc
  have b1 := w64 a1; have b2 := w64 a2; have b3 := w64 a3; have b4 := w64 a4; have b5 := w64 a5; have b6 := w64 a6; have b7 := w64 a7
  have bn := w64 wn
  unfold okC at ok1
  have ok1 := of_decide_eq_true ok1
  have ht : 0 ≤ now := by unfold isT at ok2; simp at ok2; omega
  refine ⟨⟨⟨⟨by omega, b1.2⟩, ⟨by omega, b2.2⟩, ⟨by omega, b3.2⟩, ⟨by omega, b4.2⟩, ⟨by omega, b5.2⟩, ⟨by omega, b6.2⟩, ⟨by omega, b7.2⟩⟩, ⟨ht, bn.2⟩, fun x hx' => ?_, by omega⟩, fun x hx' => (hall x hx').2.1⟩
  obtain ⟨c1, c2, c3, c4, c5⟩ := hall x hx'
  obtain ⟨⟨d1, _⟩, ⟨d2, d3, d4, d5⟩, d6⟩ := hx x hx'
  obtain ⟨e1, e2⟩ := right_k c2 c5
  have f2 := w64 d2; have f4 := w64 d4; have f5 := w64 d5
  have f1 : 0 ≤ x.1.1 ∧ x.1.1 ≤ 65535 := by simpa [Lit.wf, IntKind.min, IntKind.max, IntKind.signed, IntKind.bits] using d1
  exact ⟨f1.1, f1.2, c1, c3, by omega, f2, f4, e1, ⟨e2, f5.2⟩⟩
theorem toList_iff (a b : ByteArray) : a.toList = b.toList ↔ a = b := by
  constructor
  · intro h
    rw [ByteArray.toList_eq, ByteArray.toList_eq] at h
    exact Go.WideShapes.bytes_inj h
  · intro h; rw [h]
set_option maxHeartbeats 1000000 in
theorem same_ {w : World} {pa pb : Value} {sa sb : ByteArray} {ea eb : Int} (HA : ∀ w', Touch [] w w' → Calls Tryz.prog 10 #[pa] w' fun e w'' => e = .returned (.tuple #[.string sa, .int .i64 ea]) ∧ Touch [] w' w'') (HB : ∀ w', Touch [] w w' → Calls Tryz.prog 10 #[pb] w' fun e w'' => e = .returned (.tuple #[.string sb, .int .i64 eb]) ∧ Touch [] w' w'') :
    Calls Tryz.prog 19 #[pa, pb] w fun e w' => e = .returned (.bool (decide (sa = sb))) ∧ Touch [] w w' := by
  have H1 := hid (HA w (Touch.refl _ _))
  have H2 := hid HB
  clear HA HB
  go_enter Tryz.func19, Tryz.ntmps19
  go_upto_region 2 with (go_at_call 10; refine H1.out.mono ?_; rintro e w1 ⟨rfl, t1⟩)
  clear H1
  go_wp2_with (go_at_call 10; refine (H2.out _ t1).mono ?_; rintro e w2 ⟨rfl, t2⟩)
  go_ret
  exact ⟨ret_bool (by rw [Bool.eq_iff_iff]; simp [toList_iff]), t1.trans' t2⟩
end Go.Proofs.YtpefbmheblfbeaaGreat.Sn
/- Going through bytes part by part, plain; and the contracts of the program's reader for numbers; the conditions are those that each states. -/
namespace Go.Proofs.YtpefbmheblfbeaaGreat.Sn
open Go.RowKit Go.Sort Go.Shelf Me
set_option linter.unusedVariables false
set_option linter.unusedSimpArgs false
structure Rd where
  at_ : Int
  er : Int
def passS (r : Rd) (next : Int) (ok : Bool) : Rd := if r.er ≠ 0 then r else if ok then ⟨next, 0⟩ else ⟨r.at_, 200⟩
def passB (r : Rd) (ok : Bool) : Bool := if r.er ≠ 0 then false else ok
def numR (s : ByteArray) (r : Rd) (least most : Int) : Rd × Int :=
  if r.er ≠ 0 then (r, 0) else match takeAt s r.at_ with
    | some (x, n) => if least ≤ (x : Int) ∧ (x : Int) ≤ most then (⟨r.at_ + n, 0⟩, (x : Int)) else (⟨r.at_, 200⟩, 0)
    | none => (⟨r.at_, 200⟩, 0)
def sigR (s : ByteArray) (r : Rd) : Rd × Int := ((numR s r 0 18446744073709551615).1, uns (numR s r 0 18446744073709551615).2)
theorem takeG_b : ∀ (l : List UInt8) (i x : Nat) (p : Nat × Nat), takeG l i x = some p → i < p.2 ∧ p.2 ≤ i + l.length ∧ (x < 128 ^ i → p.1 < 18446744073709551616)
  | [], i, x, p, h => by rw [takeG_nil] at h; cases h
  | b :: l, i, x, p, h => by
    by_cases hi : i < 10
    · by_cases hb : b.toNat < 128
      · rw [takeG_last hi hb] at h
        cases hl : lastB b.toNat i with
        | false => rw [hl] at h; cases h
        | true =>
          rw [hl, if_pos rfl] at h
          cases h
          refine ⟨Nat.lt_succ_self _, by simp, fun hx => ?_⟩
          have h8 : i ≤ 8 ∨ b.toNat ≤ 1 := by
            by_cases h8 : i ≤ 8
            · exact Or.inl h8
            · have e9 : i = 9 := by omega
              subst e9
              unfold lastB at hl
              rw [if_pos rfl] at hl
              have := of_decide_eq_true hl
              exact Or.inr (by omega)
          exact (or_add hx (by omega) hb h8).2.1
      · rw [takeG_more hi hb] at h
        obtain ⟨q1, q2, q3⟩ := takeG_b l (i + 1) _ p h
        refine ⟨by omega, by rw [List.length_cons]; omega, fun hx => ?_⟩
        by_cases h8 : i ≤ 8
        · exact q3 ((or_add hx (by omega) (Nat.mod_lt _ (by omega)) (Or.inl h8)).2.2 h8)
        · have e9 : i = 9 := by omega
          subst e9
          rw [takeG_ten] at h
          cases h
    · rw [takeG, if_pos (by omega)] at h
      cases h
theorem takeAt_b {s : ByteArray} {at_ : Int} {p : Nat × Nat} (h : takeAt s at_ = some p) : 0 ≤ at_ ∧ 1 ≤ p.2 ∧ at_ + p.2 ≤ s.size ∧ p.1 < 18446744073709551616 := by
  unfold takeAt at h
  by_cases ha : at_ < 0
  · rw [if_pos ha] at h; cases h
  · rw [if_neg ha] at h
    obtain ⟨q1, q2, q3⟩ := takeG_b _ 0 0 p h
    have hl : (s.data.toList.drop at_.toNat).length = s.size - at_.toNat := by rw [List.length_drop, Array.length_toList]; rfl
    rw [hl] at q2
    exact ⟨by omega, q1, by omega, q3 (by omega)⟩
def Rq (w : World) (r : Nat) (s : ByteArray) (x : Rd) : Prop := w.heap[r]? = some (.cells #[.string s, .int .i64 x.at_, .int .i64 x.er] 108 (0, 0))
theorem Rq.keep0 {w w' : World} {r : Nat} {s : ByteArray} {x : Rd} (h : Rq w r s x) (t : Touch [] w w') : Rq w' r s x := t.keep h (by simp)
theorem Rq.lt {w : World} {r : Nat} {s : ByteArray} {x : Rd} (h : Rq w r s x) : r < w.heap.size := block_lt h
set_option maxHeartbeats 1000000 in
theorem pass_ {w : World} {r : Nat} {s : ByteArray} {x : Rd} (h : Rq w r s x) (next : Int) (ok : Bool) : Calls Tryz.prog 92 #[PT r, .int .i64 next, .bool ok] w fun e w' => e = .returned (.bool (passB x ok)) ∧ Rq w' r s (passS x next ok) ∧ Touch [r] w w' := by
  have c1 := cell_of (n := 1) h rfl
  have c2 := cell_of (n := 2) h rfl
  have f1 := froz_at h 1
  have f2 := froz_at h 2
  unfold passB passS PT
  by_cases he : x.er = 0
  · rw [if_neg (by simpa using he), if_neg (by simpa using he)]
    cases ok with
    | true =>
      have HZ : Hid (Rq (w.setCell ⟨r, 1, none⟩ (.int .i64 next)) r s ⟨next, 0⟩) := hid (by have := bset (i := 1) h (.int .i64 next); rw [he] at this; exact this)
      rw [if_pos rfl]
      rw [he] at c2
      go_enter Tryz.func92, Tryz.ntmps92
      go_wp2
      go_ret
      exact ⟨rfl, HZ.out, (Touch.refl _ _).setCell (Or.inl (by simp)) _⟩
    | false =>
      have HZ : Hid (Rq (w.setCell ⟨r, 2, none⟩ (.int .i64 200)) r s ⟨x.at_, 200⟩) := hid (bset (i := 2) h (.int .i64 200))
      rw [if_neg (by simp)]
      rw [he] at c2
      go_enter Tryz.func92, Tryz.ntmps92
      go_wp2
      go_ret
      exact ⟨rfl, HZ.out, (Touch.refl _ _).setCell (Or.inl (by simp)) _⟩
  · rw [if_pos he, if_pos he]
    have hb : (x.er == 0) = false := by simpa using he
    have hb2 : (x.er != 0) = true := by simpa using he
    have H := hid h
    clear h
    go_enter Tryz.func92, Tryz.ntmps92
    go_wp2
    go_ret
    exact ⟨rfl, H.out, Touch.refl _ _⟩
theorem numR_pass (s : ByteArray) (x : Rd) (least most : Int) : ∃ (n nx : Int) (th : Bool), takeV x.at_ (takeAt s x.at_) = .tuple #[.int .u64 n, .int .i64 nx, .bool th] ∧ 0 ≤ n ∧ n < 18446744073709551616 ∧ (numR s x least most).1 = passS x nx (th && (decide (least ≤ n) && decide (n ≤ most))) ∧ (numR s x least most).2 = if passB x (th && (decide (least ≤ n) && decide (n ≤ most))) then n else 0 := by
  cases h : takeAt s x.at_ with
  | none =>
    refine ⟨0, 0, false, rfl, by omega, by omega, ?_, ?_⟩
    · unfold numR passS; rw [h]; split <;> simp
    · unfold numR passB; rw [h]; split <;> simp
  | some p =>
    have hb := takeAt_b h
    refine ⟨p.1, x.at_ + p.2, true, rfl, by omega, by omega, ?_, ?_⟩
    · unfold numR passS
      rw [h]
      by_cases he : x.er ≠ 0
      · rw [if_pos he, if_pos he]
      · rw [if_neg he, if_neg he]
        by_cases hc : least ≤ (p.1 : Int) ∧ (p.1 : Int) ≤ most
        · simp [hc]
        · simp only [hc, if_false]
          rw [if_neg]
          simpa using hc
    · unfold numR passB
      rw [h]
      by_cases he : x.er ≠ 0
      · rw [if_pos he, if_pos he]; simp
      · rw [if_neg he, if_neg he]
        by_cases hc : least ≤ (p.1 : Int) ∧ (p.1 : Int) ≤ most
        · simp [hc]
        · simp only [hc, if_false]
          rw [if_neg]
          simpa using hc
end Go.Proofs.YtpefbmheblfbeaaGreat.Sn
/- The contracts of the program's reader: number, size, time, signed; the text's length is a number of the language's, the reader stands within the text. -/
namespace Go.Proofs.YtpefbmheblfbeaaGreat.Sn
open Go.RowKit Go.Sort Go.Shelf Me
set_option linter.unusedVariables false
set_option linter.unusedSimpArgs false
def Rin (s : ByteArray) (x : Rd) : Prop := 0 ≤ x.at_ ∧ x.at_ ≤ s.size
theorem Rin.num {s : ByteArray} {x : Rd} (h : Rin s x) (a b : Int) : Rin s (numR s x a b).1 := by
  unfold numR
  by_cases he : x.er ≠ 0
  · rw [if_pos he]; exact h
  · rw [if_neg he]
    cases ht : takeAt s x.at_ with
    | none => exact h
    | some p =>
      have hb := takeAt_b ht
      simp only
      split
      · exact ⟨by show 0 ≤ x.at_ + p.2; omega, by show x.at_ + p.2 ≤ s.size; omega⟩
      · exact h
theorem touch_r {w w1 w2 : World} {r : Nat} (t : Touch [] w w1) (k : Touch [r] w1 w2) : Touch [r] w w2 := (t.mono (by simp)).trans' k
set_option maxHeartbeats 4000000 in
theorem number_r {w : World} {r : Nat} {s : ByteArray} {x : Rd} (h : Rq w r s x) (hi : Rin s x) (hs : s.size ≤ 140737488351232) (least most : Int) (l0 : 0 ≤ least) (l1 : least ≤ 9223372036854775807) (m0 : 0 ≤ most) (m1 : most ≤ 9223372036854775807) : Calls Tryz.prog 46 #[PT r, .int .i64 least, .int .i64 most] w fun e w' => e = .returned (.int .i64 (numR s x least most).2) ∧ Rq w' r s (numR s x least most).1 ∧ Touch [r] w w' := by
  obtain ⟨n, nx, th, ht, n0, n1, e1, e2⟩ := numR_pass s x least most
  rw [e1, e2]
  clear e1 e2
  have HT : Hid (∀ w', Calls Tryz.prog 28 #[.string s, .int .i64 x.at_] w' fun e w'' => e = .returned (.tuple #[.int .u64 n, .int .i64 nx, .bool th]) ∧ Touch [] w' w'') := hid (fun w' => (take_ w' s x.at_ (by omega) (by have := hi.1; omega) (by have := hi.2; omega)).mono fun e w'' ⟨h1, h2⟩ => ⟨by rw [h1, ht], by rw [h2]; exact Touch.refl _ _⟩)
  have C0 : ∀ w', Touch [] w w' → w'.cell? ⟨r, 0, none⟩ = some (.string s) := fun w' t => cell_at (t.keep h (by simp)) rfl
  have C1 : ∀ w', Touch [] w w' → w'.cell? ⟨r, 1, none⟩ = some (.int .i64 x.at_) := fun w' t => cell_at (t.keep h (by simp)) rfl
  have HKY : Hid (∀ ok, ok = (th && (decide (least ≤ n) && decide (n ≤ most))) → ∀ w', Touch [] w w' → Calls Tryz.prog 92 #[PT r, .int .i64 nx, .bool ok] w' fun e w'' => e = .returned (.bool (passB x (th && (decide (least ≤ n) && decide (n ≤ most))))) ∧ Rq w'' r s (passS x nx (th && (decide (least ≤ n) && decide (n ≤ most)))) ∧ Touch [r] w' w'') := hid (fun ok e w' t => by rw [← e]; exact pass_ (h.keep0 t) nx ok)
  have HB : Hid (passB x (th && (decide (least ≤ n) && decide (n ≤ most))) = true → n ≤ most) := hid (fun hb => by
    unfold passB at hb
    split at hb
    · cases hb
    · simp at hb; omega)
  generalize passB x (th && (decide (least ≤ n) && decide (n ≤ most))) = B at *
  generalize passS x nx (th && (decide (least ≤ n) && decide (n ≤ most))) = S' at *
  have zz := h.lt
  have wl : IntKind.u64.wrap least = least := by rw [IntKind.wrap_u64]; omega
  have wm : IntKind.u64.wrap most = most := by rw [IntKind.wrap_u64]; omega
  have HM := hid m1
  have HN0 := hid n0
  clear h hi hs ht l1 m1 n0 n1 l0 m0
  unfold PT at *
  go_enter Tryz.func46, Tryz.ntmps46
  go_upto_region 1 with fail
  go_cut [7, 8, 9] from 10 to 22 (fun a b c wx => a = .int .u64 n ∧ b = .int .i64 nx ∧ c = .bool th ∧ Touch [] w wx)
  case first =>
    go_region_held3 (fun w' => Touch [] w w') (first | assumption | exact (Touch.refl _ _).drew | exact Touch.refl _ _ | exact Touch.drew (by assumption))
      (first | (go_at_call 28; refine (HT.out _).mono ?_; rintro e w1 ⟨rfl, t1⟩; have T1 : Touch [] w w1 := Touch.trans' (by assumption) t1; clear t1))
    all_goals
      go_wp2_with fail
      go_meet
      exact ⟨rfl, rfl, rfl, by assumption⟩
  case rest =>
    obtain ⟨rfl, rfl, rfl, TX⟩ := hcut
    clear C0 C1 HT
    cases th with
    | false =>
      have K := hid (HKY.out false (by simp))
      clear HKY
      cases B with
      | false =>
        go_wp2_with (go_at_call 92; refine (K.out _ TX).mono ?_; rintro e w2 ⟨rfl, q2, t2⟩)
        go_ret
        exact ⟨rfl, q2, touch_r TX t2⟩
      | true =>
        have wn : IntKind.i64.wrap n = n := by rw [IntKind.wrap_i64]; have := HB.out rfl; have := HM.out; have := HN0.out; omega
        go_wp2_with (go_at_call 92; refine (K.out _ TX).mono ?_; rintro e w2 ⟨rfl, q2, t2⟩)
        go_ret
        exact ⟨rfl, q2, touch_r TX t2⟩
    | true =>
      by_cases ha : least ≤ n
      · by_cases hb : n ≤ most
        · skip
          have K := hid (HKY.out true (by simp [ha, hb]))
          clear HKY
          cases B with
          | false =>
            go_wp2_with (go_at_call 92; refine (K.out _ TX).mono ?_; rintro e w2 ⟨rfl, q2, t2⟩)
            go_ret
            exact ⟨rfl, q2, touch_r TX t2⟩
          | true =>
            have wn : IntKind.i64.wrap n = n := by rw [IntKind.wrap_i64]; have := HB.out rfl; have := HM.out; have := HN0.out; omega
            go_wp2_with (go_at_call 92; refine (K.out _ TX).mono ?_; rintro e w2 ⟨rfl, q2, t2⟩)
            go_ret
            exact ⟨rfl, q2, touch_r TX t2⟩
        · skip
          have K := hid (HKY.out false (by simp [ha, hb]))
          clear HKY
          cases B with
          | false =>
            go_wp2_with (go_at_call 92; refine (K.out _ TX).mono ?_; rintro e w2 ⟨rfl, q2, t2⟩)
            go_ret
            exact ⟨rfl, q2, touch_r TX t2⟩
          | true =>
            have wn : IntKind.i64.wrap n = n := by rw [IntKind.wrap_i64]; have := HB.out rfl; have := HM.out; have := HN0.out; omega
            go_wp2_with (go_at_call 92; refine (K.out _ TX).mono ?_; rintro e w2 ⟨rfl, q2, t2⟩)
            go_ret
            exact ⟨rfl, q2, touch_r TX t2⟩
      · skip
        have K := hid (HKY.out false (by simp [ha]))
        clear HKY
        cases B with
        | false =>
          go_wp2_with (go_at_call 92; refine (K.out _ TX).mono ?_; rintro e w2 ⟨rfl, q2, t2⟩)
          go_ret
          exact ⟨rfl, q2, touch_r TX t2⟩
        | true =>
          have wn : IntKind.i64.wrap n = n := by rw [IntKind.wrap_i64]; have := HB.out rfl; have := HM.out; have := HN0.out; omega
          go_wp2_with (go_at_call 92; refine (K.out _ TX).mono ?_; rintro e w2 ⟨rfl, q2, t2⟩)
          go_ret
          exact ⟨rfl, q2, touch_r TX t2⟩
set_option maxHeartbeats 1000000 in
theorem size_r {w : World} {r : Nat} {s : ByteArray} {x : Rd} (h : Rq w r s x) (hi : Rin s x) (hs : s.size ≤ 140737488351232) (a b : Int) (a0 : 0 ≤ a) (a1 : a ≤ 9223372036854775807) (b0 : 0 ≤ b) (b1 : b ≤ 9223372036854775807) : Calls Tryz.prog 95 #[PT r, .int .i64 a, .int .i64 b] w fun e w' => e = .returned (.int .i64 (numR s x a b).2) ∧ Rq w' r s (numR s x a b).1 ∧ Touch [r] w w' := by
  have H := hid (number_r h hi hs a b a0 a1 b0 b1)
  generalize numR s x a b = y at *
  unfold PT at *
  clear h hi hs a0 a1 b0 b1
  go_enter Tryz.func95, Tryz.ntmps95
  go_wp2_with (go_at_call 46; refine H.out.mono ?_; rintro e w1 ⟨rfl, q1⟩)
  go_ret
  exact ⟨rfl, q1⟩
end Go.Proofs.YtpefbmheblfbeaaGreat.Sn
/- The contracts of the program's reader: signed, and a configuration; the text's length is a number of the language's, the reader stands within the text. -/
namespace Go.Proofs.YtpefbmheblfbeaaGreat.Sn
open Go.RowKit Go.Sort Go.Shelf Me
set_option linter.unusedVariables false
set_option linter.unusedSimpArgs false
theorem sigR_pass (s : ByteArray) (x : Rd) : ∃ (n nx : Int) (th : Bool), takeV x.at_ (takeAt s x.at_) = .tuple #[.int .u64 n, .int .i64 nx, .bool th] ∧ 0 ≤ n ∧ n < 18446744073709551616 ∧ (sigR s x).1 = passS x nx th ∧ (sigR s x).2 = if passB x th then uns n else 0 := by
  obtain ⟨n, nx, th, h1, h2, h3, h4, h5⟩ := numR_pass s x 0 18446744073709551615
  have e : (th && (decide ((0 : Int) ≤ n) && decide (n ≤ 18446744073709551615))) = th := by rw [decide_eq_true h2, decide_eq_true (by omega)]; simp
  rw [e] at h4 h5
  refine ⟨n, nx, th, h1, h2, h3, h4, ?_⟩
  unfold sigR
  simp only
  rw [h5]
  split
  · rfl
  · rfl
set_option maxHeartbeats 4000000 in
theorem signed_r {w : World} {r : Nat} {s : ByteArray} {x : Rd} (h : Rq w r s x) (hi : Rin s x) (hs : s.size ≤ 140737488351232) : Calls Tryz.prog 132 #[PT r] w fun e w' => e = .returned (.int .i64 (sigR s x).2) ∧ Rq w' r s (sigR s x).1 ∧ Touch [r] w w' := by
  obtain ⟨n, nx, th, ht, n0, n1, e1, e2⟩ := sigR_pass s x
  rw [e1, e2]
  clear e1 e2
  have HT : Hid (∀ w', Calls Tryz.prog 28 #[.string s, .int .i64 x.at_] w' fun e w'' => e = .returned (.tuple #[.int .u64 n, .int .i64 nx, .bool th]) ∧ Touch [] w' w'') := hid (fun w' => (take_ w' s x.at_ (by omega) (by have := hi.1; omega) (by have := hi.2; omega)).mono fun e w'' ⟨h1, h2⟩ => ⟨by rw [h1, ht], by rw [h2]; exact Touch.refl _ _⟩)
  have C0 : ∀ w', Touch [] w w' → w'.cell? ⟨r, 0, none⟩ = some (.string s) := fun w' t => cell_at (t.keep h (by simp)) rfl
  have C1 : ∀ w', Touch [] w w' → w'.cell? ⟨r, 1, none⟩ = some (.int .i64 x.at_) := fun w' t => cell_at (t.keep h (by simp)) rfl
  have HK := hid (fun w' (t : Touch [] w w') => pass_ (h.keep0 t) nx th)
  have HU := hid (fun w => unsign_ w n n0 n1)
  generalize passB x th = B at *
  generalize passS x nx th = S' at *
  have zz := h.lt
  clear h hi hs ht n0 n1
  unfold PT at *
  go_enter Tryz.func132, Tryz.ntmps132
  go_upto_region 1 with fail
  go_cut [3, 4, 5] from 6 to 18 (fun a b c wx => a = .int .u64 n ∧ b = .int .i64 nx ∧ c = .bool th ∧ Touch [] w wx)
  case first =>
    go_region_held3 (fun w' => Touch [] w w') (first | assumption | exact (Touch.refl _ _).drew | exact Touch.refl _ _ | exact Touch.drew (by assumption))
      (first | (go_at_call 28; refine (HT.out _).mono ?_; rintro e w1 ⟨rfl, t1⟩; have T1 : Touch [] w w1 := Touch.trans' (by assumption) t1; clear t1))
    all_goals
      go_wp2_with fail
      go_meet
      exact ⟨rfl, rfl, rfl, by assumption⟩
  case rest =>
    obtain ⟨rfl, rfl, rfl, TX⟩ := hcut
    clear C0 C1 HT
    cases B with
    | false =>
      go_wp2_with (go_at_call 92; refine (HK.out _ TX).mono ?_; rintro e w2 ⟨rfl, q2, t2⟩)
      go_ret
      exact ⟨rfl, q2, touch_r TX t2⟩
    | true =>
      go_wp2_with (first
        | (go_at_call 92; refine (HK.out _ TX).mono ?_; rintro e w2 ⟨rfl, q2, t2⟩)
        | (go_at_call 146; refine (HU.out _).mono ?_; rintro e w3 ⟨rfl, rfl⟩))
      go_ret
      exact ⟨rfl, q2, touch_r TX t2⟩
theorem Rin.sig {s : ByteArray} {x : Rd} (h : Rin s x) : Rin s (sigR s x).1 := h.num _ _
end Go.Proofs.YtpefbmheblfbeaaGreat.Sn
