/- The contract of tell; no conditions but those that it states. -/
import Derived.Test.YtllchnancjgijaaGreatQa09
import Derived.Test.YtllchnancjgijaaGreatQa02
import Derived.Test.YtllchnancjgijaaGreatQa04
import Derived.Test.YtllchnancjgijaaGreatQa06
set_option linter.unusedVariables false
set_option linter.unusedSimpArgs false
set_option maxRecDepth 100000
namespace Go.Proofs.YtllchnancjgijaaGreat
open Go.RowKit Go.Maps Go.ChangeMaps
theorem renX_mn (X : Gp) (k : K) (n : Int) : renX { X with mn := n } k = { renX X k with mn := n } := by
 unfold renX
 simp only
 cases Ta.curOf X.T k with
 | some R => rfl
 | none =>
  simp only
  split <;> rfl
theorem meeX_mn (X : Gp) (k : K) (m n : Int) : meeX { X with mn := n } k m = { meeX X k m with mn := n } := by
 unfold meeX
 split
 ·exact renX_mn X k n
 ·rfl
theorem meeC_mn (X : Gp) (k : K) (m n : Int) (N : Cn) : meeC { X with mn := n } k m N = meeC X k m N := rfl
theorem renX_at (X : Gp) (k : K) : (renX X k).now = X.now ∧ (renX X k).mn = X.mn ∧ (renX X k).en = X.en ∧ (renX X k).c = X.c := by
 unfold renX
 cases Ta.curOf X.T k with
 | some R => exact ⟨rfl, rfl, rfl, rfl⟩
 | none =>
  simp only
  split <;> exact ⟨rfl, rfl, rfl, rfl⟩
theorem meeX_at (X : Gp) (k : K) (m : Int) : (meeX X k m).now = X.now ∧ (meeX X k m).mn = X.mn ∧ (meeX X k m).en = X.en ∧ (meeX X k m).c = X.c := by
 unfold meeX
 split
 ·exact renX_at X k
 ·exact ⟨rfl, rfl, rfl, rfl⟩
theorem st6 {w : World} {b : Nat} {t : TypeId} {z0 z1 z2 z3 z4 z5 : Value} (h : w.heap[b]? = some (.cells #[z0, z1, z2, z3, z4, z5] t (0, 0))) (v0 v1 v2 v3 v4 v5 : Value) :
  ((((((w.setCell ⟨b, 0, none⟩ v0).setCell ⟨b, 1, none⟩ v1).setCell ⟨b, 2, none⟩ v2).setCell ⟨b, 3, none⟩ v3).setCell ⟨b, 4, none⟩ v4).setCell ⟨b, 5, none⟩ v5).heap[b]? = some (.cells #[v0, v1, v2, v3, v4, v5] t (0, 0)) ∧ Touch [b] w ((((((w.setCell ⟨b, 0, none⟩ v0).setCell ⟨b, 1, none⟩ v1).setCell ⟨b, 2, none⟩ v2).setCell ⟨b, 3, none⟩ v3).setCell ⟨b, 4, none⟩ v4).setCell ⟨b, 5, none⟩ v5) := by
 refine ⟨by simp [World.setCell, Array.getElem?_modify, h], ?_⟩
 have hm : b ∈ [b] := by simp
 exact ((((((Touch.refl _ _).setCell (Or.inl hm) _).setCell (Or.inl hm) _).setCell (Or.inl hm) _).setCell (Or.inl hm) _).setCell (Or.inl hm) _).setCell (Or.inl hm) _
section
variable {w : World} {g : Nat} {P : Pt} {F : List Nat} {X : Gp} {N : Cn}
set_option maxHeartbeats 16000000 in
theorem tell_ (h : Gq w g P F X N) (ht : Tm1 X) (k : K) (hk : Ok k) (h64 : k.2.size ≤ 64) (hN : N.t ≤ 2900000000000) (hB : N.b ≤ 6000000000000) : Calls Tryz.prog 45 #[PT g, kv k] w fun e w' => ∃ v, e = .returned (.tuple #[jv (telJ X k) v, .bool (telB X k)]) ∧ Snt w' v (telJ X k).sent ∧ GqE w w' g P F (telX X k) (meeC X k (seenOf X k).1 N) := by
 obtain ⟨V, hV⟩ : ∃ V, V = (w.alloc (Ta.bxK k)).alloc (.cells jz 45) := ⟨_, rfl⟩
 obtain ⟨tv, hb⟩ := Bkj.new w V k hV
 have Q0 : GqE w V.drew g P F X N := GqE.same h tv.drew
 have B0 : Bkj w V.drew k := hb.keep ((Touch.refl [] V).drew).keeps
 obtain ⟨s, hs⟩ : ∃ s, s = seenOf X k := ⟨_, rfl⟩
 have HL : Hid (∀ w1, GqE w w1 g P F X N → Bkj w w1 k → Calls Tryz.prog 88 #[PT P.m, .int .i64 X.now, kv k] w1 fun e w2 => e = .returned (.tuple #[Me.lv s, .int .i64 0]) ∧ GqE w w2 g P F { X with mn := X.now } N ∧ Bkj w w2 k ∧ Keeps w1 w2) := hid (fun w1 Q B => by rw [hs]; exact (look_at Q ht k hk h64).mono (fun e w2 hh => ⟨hh.1, hh.2.1, B.keep hh.2.2, hh.2.2⟩))
 have HM : Hid (∀ w1, GqE w w1 g P F { X with mn := X.now } N → Bkj w w1 k → Calls Tryz.prog 89 #[PT g, kv k, .int .i64 s.1] w1 fun e w2 => ∃ a n c, e = .returned (.tuple #[jv (meeJ X k s.1) (.slice a n c), .bool (meeB X k s.1)]) ∧ Snt w2 (.slice a n c) (meeJ X k s.1).sent ∧ GqE w w2 g P F { meeX X k s.1 with mn := X.now } (meeC X k s.1 N) ∧ Bkj w w2 k ∧ Keeps w1 w2) := hid (fun w1 Q B => by
  obtain ⟨F1, q1, q2⟩ := Q.go
  refine (meet_ q1 k hk hN hB s.1).mono ?_
  rintro e w2 ⟨v, rfl, n2, r2⟩
  obtain ⟨a, n, c, rfl⟩ := n2.2
  rw [meeX_mn, meeC_mn] at r2
  exact ⟨a, n, c, rfl, n2, (q2 _ _ _ r2).1, B.keep (q2 _ _ _ r2).2, (q2 _ _ _ r2).2⟩)
 obtain ⟨e1, e2, e3, e4⟩ := meeX_at X k s.1
 have hse : seenOf { meeX X k s.1 with mn := X.now } k = s := by
  have e5 : seenOf { meeX X k s.1 with mn := X.now } k = Me.lookS (meeX X k s.1).c (meeX X k s.1).now (meeX X k s.1).en k := rfl
  rw [e5, e1, e3, e4]
  exact hs.symm
 have htm : Tm1 { meeX X k s.1 with mn := X.now } := ⟨by simp only [e1]; exact Int.le_refl _, by simp only [e1]; exact ht.b, by simp only [e1]; exact ht.c⟩
 have HT : Hid (∀ w1, GqE w w1 g P F { meeX X k s.1 with mn := X.now } (meeC X k s.1 N) → Bkj w w1 k → Calls Tryz.prog 90 #[PT P.m, .int .i64 X.now, kv k] w1.drew fun e w2 => e = .returned (.tuple #[Me.lv s, .int .i64 0]) ∧ GqE w w2 g P F { meeX X k s.1 with mn := X.now, en := if Me.isUse s.1 then Me.useX X.en k else X.en } (meeC X k s.1 N) ∧ Bkj w w2 k ∧ Keeps w1 w2 ∧ ∀ v xs, Snt w1 v xs → Snt w2 v xs) := hid (fun w1 Q B => by
  have := tell_at (Q.then0 (Touch.refl _ _).drew) htm k hk h64
  rw [hse] at this
  simp only [e1, e3] at this
  refine this.mono ?_
  rintro e w2 ⟨rfl, q, r1, r2⟩
  exact ⟨rfl, by simpa only [e1] using q, (B.keep ((Touch.refl [] w1).drew).keeps).keep r1, (((Touch.refl [] w1).drew).keeps).trans r1, fun v xs hv => r2 v xs ⟨hv.1.keep0 (Touch.refl _ _).drew, hv.2⟩⟩)
 have HF : Hid (∀ w2 w3 v xs Y M, GqE w w2 g P F Y M → Bkj w w2 k → Snt w2 v xs → Touch [w.heap.size + 1] w2 w3 → Snt w3 v xs ∧ GqE w w3 g P F Y M) := hid (fun w2 w3 v xs Y M Q B s T => ⟨s.put B.j (by decide) T, Q.put B.j (by decide) (by omega) T⟩)
 have HF8 : Hid (∀ b8 cs w2 w3 v xs Y M, w.heap.size + 2 ≤ b8 → w2.heap[b8]? = some (.cells cs 45 (0, 0)) → GqE w w2 g P F Y M → Bkj w w2 k → Snt w2 v xs → Touch [b8] w2 w3 → Snt w3 v xs ∧ GqE w w3 g P F Y M ∧ Bkj w w3 k) := hid (fun b8 cs w2 w3 v xs Y M hz hb Q B s T => ⟨s.put hb (by decide) T, Q.put hb (by decide) (by omega) T, ⟨T.keep B.k (by simp; omega), T.keep B.j (by simp; omega)⟩⟩)
 have HN : Hid (∀ w2, Snt w2 (.slice none 0 0) []) := hid (fun w2 => Snt.nil w2)
 have HK : Hid (∀ w2 Y M, GqE w w2 g P F Y M → Y.now = X.now → Bkj w w2 k → Kg w2 g P X.now w.heap.size k ∧ w2.heap[w.heap.size + 1]? = some (.cells jz 45 (0, 0))) := hid (fun w2 Y M Q e B => ⟨by have := B.kg Q; rwa [e] at this, B.j⟩)
 have HQA : Hid (∀ w1 o, GqE w w1 g P F X N → GqE w (w1.alloc o) g P F X N) := hid (fun w1 o Q => Q.then0 ((Touch.refl _ _).alloc o))
 have HBA : Hid (∀ w1 o, Bkj w w1 k → Bkj w (w1.alloc o) k) := hid (fun w1 o B => B.keep ((Touch.refl [] _).alloc o).keeps)
 have HQ0 := hid Q0
 have HB0 := hid B0
 have HVS : Hid (w.heap.size + 2 ≤ V.heap.size) := hid (by have := block_lt hb.j; omega)
 have s0 : Kg V.drew g P X.now w.heap.size k := B0.kg Q0
 have C0 : ∀ w', Kg w' g P X.now w.heap.size k → w'.cell? ⟨g, 0, none⟩ = some (.pointer (some ⟨P.m, 0, none⟩)) := fun _ h => h.gm.c0
 have C4 : ∀ w', Kg w' g P X.now w.heap.size k → w'.cell? ⟨g, 4, none⟩ = some (.int .i64 X.now) := fun _ h => h.gm.c4
 have K0 : ∀ w', Kg w' g P X.now w.heap.size k → w'.cell? ⟨w.heap.size, 0, none⟩ = some (.int .u16 k.1) := fun _ h => h.k0
 have K1 : ∀ w', Kg w' g P X.now w.heap.size k → w'.cell? ⟨w.heap.size, 1, none⟩ = some (.string k.2) := fun _ h => h.k1
 have HP6 : Hid (∀ b6 cs w2 w3 Y M, w.heap.size + 2 ≤ b6 → w2.heap[b6]? = some (.cells cs 173 (0, 0)) → GqE w w2 g P F Y M → Bkj w w2 k → Touch [b6] w2 w3 → GqE w w3 g P F Y M ∧ Bkj w w3 k) := hid (fun b6 cs w2 w3 Y M hz hb Q B T => ⟨Q.put hb (by decide) (by omega) T, ⟨T.keep B.k (by simp; omega), T.keep B.j (by simp; omega)⟩⟩)
 have HW : Hid (∀ w2 : World, GqE w w2 g P F { X with mn := X.now } N → Bkj w w2 k → w.heap.size + 2 ≤ w2.heap.size) := hid (fun w2 Q B => by have := block_lt B.j; omega)
 have en1 : Hid ((meeX X k s.1).now = X.now) := hid e1
 have hJ : telJ X k = if meeB X k s.1 then { meeJ X k s.1 with o := s.2.2 } else Jd.z := by unfold telJ telB; rw [← hs]
 have hB' : telB X k = meeB X k s.1 := by unfold telB; rw [← hs]
 have hX : telX X k = if meeB X k s.1 then { meeX X k s.1 with mn := X.now, en := Me.useX X.en k } else { meeX X k s.1 with mn := X.now } := by unfold telX telB; rw [← hs]
 have hu : meeB X k s.1 = true → (if Me.isUse s.1 then Me.useX X.en k else X.en) = Me.useX X.en k := fun e => by
  unfold meeB at e
  by_cases q1 : s.1 = 1
  ·simp [Me.isUse, q1]
  ·rw [if_neg q1] at e
   by_cases q2 : s.1 = 2
   ·simp [Me.isUse, q2]
   ·rw [if_neg q2] at e; cases e
 rw [hJ, hB', hX, ← hs]
 clear hJ hB' hX h Q0 B0 tv hb hk hN hB ht h64 hse htm e1 e2 e3 e4 hs
 obtain ⟨sh, sa, so⟩ := s
 simp only at *
 generalize meeC X k sh N = M at *
 generalize hYe : meeX X k sh = Y at *
 clear hYe
 unfold Ta.bxK jz at hV
 unfold jz at HK
 unfold jv jcs at *
 unfold Me.lv Me.sv at HL HT
 simp only at HL HT
 unfold kv PT at *
 generalize hJe : meeJ X k sh = J at *
 clear hJe
 cases hb : meeB X k sh with
 | false =>
  rw [hb] at HM
  rw [if_neg (by simp), if_neg (by simp)]
  have e1 : Jd.z.how = 0 := rfl
  have e2 : Jd.z.run = 0 := rfl
  have e3 : Jd.z.bg = false := rfl
  have e4 : Jd.z.o = (0, 0, 0, 0) := rfl
  have e5 : Jd.z.sent = [] := rfl
  rw [e1, e2, e3, e4, e5]
  clear e1 e2 e3 e4 e5 hb hu HT
  go_enter Tryz.func45, Tryz.ntmps45
  go_upto_region 1 with fail
  rw [← hV]
  clear hV
  refine wp_region_H (S := fun w' => Kg w' g P X.now w.heap.size k) (by kernel_rfl) ?_
  refine wpH_take (i := 0) (v := (.pointer (some ⟨g, 0, none⟩))) (some 11) rfl rfl (by kernel_rfl) (by kernel_rfl) (by kernel_rfl) (fun _ _ _ h => h) (Or.inl ⟨by rfl, fun w' hS => (by go_simp)⟩) s0 ?_
  try simp only [Go.Act.put, Zx, Zy, Zz]
  refine wpH_take (i := 1) (v := (.pointer (some ⟨g, 0, none⟩))) (some 12) rfl rfl (by kernel_rfl) (by kernel_rfl) (by kernel_rfl) (fun _ _ _ h => h) (Or.inl ⟨by rfl, fun w' hS => (by go_simp)⟩) s0 ?_
  try simp only [Go.Act.put, Zx, Zy, Zz]
  refine wpH_take (i := 2) (v := (.pointer (some ⟨g, 0, none⟩))) (some 13) rfl rfl (by kernel_rfl) (by kernel_rfl) (by kernel_rfl) (fun _ _ _ h => h) (Or.inl ⟨by rfl, fun w' hS => (by go_simp)⟩) s0 ?_
  try simp only [Go.Act.put, Zx, Zy, Zz]
  refine wpH_take (i := 3) (v := (.pointer (some ⟨g, 0, none⟩))) (some 14) rfl rfl (by kernel_rfl) (by kernel_rfl) (by kernel_rfl) (fun _ _ _ h => h) (Or.inl ⟨by rfl, fun w' hS => (by go_simp)⟩) s0 ?_
  try simp only [Go.Act.put, Zx, Zy, Zz]
  refine wpH_take (i := 4) (v := (.pointer (some ⟨P.m, 0, none⟩))) (some 15) rfl rfl (by kernel_rfl) (by kernel_rfl) (by kernel_rfl) (fun _ _ _ h => h) (Or.inl ⟨by rfl, fun w' hS => (by have z0 := C0 _ hS; go_simp)⟩) s0 ?_
  try simp only [Go.Act.put, Zx, Zy, Zz]
  refine wpH_take (i := 5) (v := (.pointer (some ⟨g, 0, none⟩))) (some 16) rfl rfl (by kernel_rfl) (by kernel_rfl) (by kernel_rfl) (fun _ _ _ h => h) (Or.inl ⟨by rfl, fun w' hS => (by go_simp)⟩) s0 ?_
  try simp only [Go.Act.put, Zx, Zy, Zz]
  refine wpH_take (i := 6) (v := (.pointer (some ⟨g, 0, none⟩))) (some 17) rfl rfl (by kernel_rfl) (by kernel_rfl) (by kernel_rfl) (fun _ _ _ h => h) (Or.inl ⟨by rfl, fun w' hS => (by go_simp)⟩) s0 ?_
  try simp only [Go.Act.put, Zx, Zy, Zz]
  refine wpH_take (i := 7) (v := (.pointer (some ⟨g, 4, none⟩))) (some 18) rfl rfl (by kernel_rfl) (by kernel_rfl) (by kernel_rfl) (fun _ _ _ h => h) (Or.inl ⟨by rfl, fun w' hS => (by go_simp)⟩) s0 ?_
  try simp only [Go.Act.put, Zx, Zy, Zz]
  refine wpH_take (i := 8) (v := (.int .i64 X.now)) (some 19) rfl rfl (by kernel_rfl) (by kernel_rfl) (by kernel_rfl) (fun _ _ _ h => h) (Or.inl ⟨by rfl, fun w' hS => (by have z0 := C4 _ hS; go_simp)⟩) s0 ?_
  try simp only [Go.Act.put, Zx, Zy, Zz]
  refine wpH_take (i := 9) (v := (.agg #[.int .u16 k.1, .string k.2])) (some 20) rfl rfl (by kernel_rfl) (by kernel_rfl) (by kernel_rfl) (fun _ _ _ h => h) (Or.inl ⟨by rfl, fun w' hS => (by have z0 := K0 _ hS; have z1 := K1 _ hS; go_simp)⟩) s0 ?_
  try simp only [Go.Act.put, Zx, Zy, Zz]
  refine wpH_ready (rs := [10, 14]) (by kernel_rfl) (by simp) ?_
  refine AllH.cons (o := { dst := some 21, op := Op.call { callee := Callee.value (Operand.func 88), args := #[Operand.tmp 15, Operand.tmp 19, Operand.tmp 20], argTypes := #[91, 2, 35] }, type := 174, pos := _, after := #[{ on := 4, ground := Ground.data }, { on := 8, ground := Ground.data }, { on := 9, ground := Ground.data }], guard := none }) rfl (fun K' hK => ?_) ?_
  ·rw [if_pos (by rfl)]
   go_simp
   refine (HL.out _ HQ0.out HB0.out).mono ?_
   rintro e w2 ⟨rfl, q2, b2, k2⟩
   obtain ⟨s2, hbj⟩ := HK.out _ _ _ q2 rfl b2
   have Q2 := hid q2
   have B2 := hid b2
   clear q2 b2 k2 hbj
   refine hK.out _ _ s2 ?_
   clear hK
   try simp only [Go.Act.put, Zx, Zy, Zz]
   refine wpH_take (i := 11) (v := (.tuple #[(.agg #[.int .i64 sh, .int .i64 sa, .int .i64 so.1, .int .i64 so.2.1, .int .i64 so.2.2.1, .int .i64 so.2.2.2]), (.int .i64 0)])) (some 10) rfl rfl (by kernel_rfl) (by kernel_rfl) (by kernel_rfl) (fun _ _ _ h => h) (Or.inl ⟨by rfl, fun w' hS => (by go_simp)⟩) s2 ?_
   try simp only [Go.Act.put, Zx, Zy, Zz]
   refine wpH_take (i := 12) (v := (.agg #[.int .i64 sh, .int .i64 sa, .int .i64 so.1, .int .i64 so.2.1, .int .i64 so.2.2.1, .int .i64 so.2.2.2])) (some 22) rfl rfl (by kernel_rfl) (by kernel_rfl) (by kernel_rfl) (fun _ _ _ h => h) (Or.inl ⟨by rfl, fun w' hS => (by go_simp)⟩) s2 ?_
   try simp only [Go.Act.put, Zx, Zy, Zz]
   refine wpH_take (i := 13) (v := (.int .i64 0)) (some 23) rfl rfl (by kernel_rfl) (by kernel_rfl) (by kernel_rfl) (fun _ _ _ h => h) (Or.inl ⟨by rfl, fun w' hS => (by go_simp)⟩) s2 ?_
   try simp only [Go.Act.put, Zx, Zy, Zz]
   refine wpH_call (i := 14) (o := { dst := some 6, op := Op.alloc 173, type := 0, pos := _, after := #[], guard := none }) (by kernel_rfl) rfl (fun K' hK => ?_)
   rw [if_pos (by rfl)]
   go_simp
   refine hK.out _ _ (HK.out _ _ _ (Q2.out.then0 ((Touch.refl _ _).alloc _)) rfl (B2.out.keep ((Touch.refl [] _).alloc _).keeps)).1 ?_
   clear hK
   try simp only [Go.Act.put, Zx, Zy, Zz]
   have hb6 := heap_alloc_new w2 (.cells #[.int .i64 0, .int .i64 0, .int .i64 0, .int .i64 0, .int .i64 0, .int .i64 0] 173)
   have Z6 : Hid (w.heap.size + 2 ≤ w2.heap.size) := hid (HW.out _ Q2.out B2.out)
   refine wpH_call (i := 15) (o := { dst := none, op := Op.store 173 (Operand.tmp 6) (Operand.tmp 22), type := 0, pos := _, after := #[{ on := 14, ground := Ground.data }, { on := 12, ground := Ground.data }, { on := 10, ground := Ground.chain }, { on := 0, ground := Ground.phase }, { on := 1, ground := Ground.phase }, { on := 2, ground := Ground.phase }, { on := 3, ground := Ground.phase }, { on := 4, ground := Ground.phase }, { on := 5, ground := Ground.phase }, { on := 6, ground := Ground.phase }, { on := 7, ground := Ground.phase }, { on := 8, ground := Ground.phase }, { on := 9, ground := Ground.phase }, { on := 10, ground := Ground.phase }, { on := 11, ground := Ground.phase }, { on := 12, ground := Ground.phase }, { on := 13, ground := Ground.textOnly Departure.lateStores }, { on := 14, ground := Ground.phase }], guard := none }) (by kernel_rfl) rfl (fun K' hK => ?_)
   rw [if_pos (by rfl)]
   have x0 := cell_at (j := 0) hb6 rfl
   have x1 := cell_at (j := 1) hb6 rfl
   have x2 := cell_at (j := 2) hb6 rfl
   have x3 := cell_at (j := 3) hb6 rfl
   have x4 := cell_at (j := 4) hb6 rfl
   have x5 := cell_at (j := 5) hb6 rfl
   have xf := froz_at hb6
   go_simp
   obtain ⟨W3, hW3⟩ : ∃ W3, W3 = w2.alloc (.cells #[.int .i64 sh, .int .i64 sa, .int .i64 so.1, .int .i64 so.2.1, .int .i64 so.2.2.1, .int .i64 so.2.2.2] 173) := ⟨_, rfl⟩
   have t6 : Touch [] w2 W3 := by rw [hW3]; exact (Touch.refl _ _).alloc _
   have h6 := heap_alloc_new w2 (.cells #[.int .i64 sh, .int .i64 sa, .int .i64 so.1, .int .i64 so.2.1, .int .i64 so.2.2.1, .int .i64 so.2.2.2] 173)
   rw [← hW3] at h6 ⊢
   have q3 := Q2.out.then0 t6
   have b3 := B2.out.keep t6.keeps
   obtain ⟨s3, -⟩ := HK.out _ _ _ q3 rfl b3
   have Q3 := hid q3
   have B3 := hid b3
   clear hW3 t6 q3 b3 hb6 x0 x1 x2 x3 x4 x5 xf
   refine hK.out _ _ s3 ?_
   clear hK
   try simp only [Go.Act.put, Zx, Zy, Zz]
   refine wpH_take (i := 16) (v := (.int .i64 0)) (some 7) rfl rfl (by kernel_rfl) (by kernel_rfl) (by kernel_rfl) (fun _ _ _ h => h) (Or.inl ⟨by rfl, fun w' hS => (by go_simp)⟩) s3 ?_
   try simp only [Go.Act.put, Zx, Zy, Zz]
   refine wpAnyH_done (by kernel_rfl) ?_ _
   generalize w2.heap.size = b6 at *
   have H6 := hid h6
   have k0 := s3.k0
   have k1 := s3.k1
   have x0 := cell_at (j := 0) h6 rfl
   clear h6
   go_upto_region 3 with (go_at_call 89; refine (HM.out _ Q3.out B3.out).mono ?_; rintro e w4 ⟨a, n, c, rfl, n4, q4, b4, k4⟩; have H6b := hid (k4 _ _ _ _ (by decide) H6.out); have N4 := hid n4; have Q4 := hid q4; have B4 := hid b4; clear n4 q4 b4 k4 k0 k1 x0)
   obtain ⟨W5, hW5⟩ : ∃ W5, W5 = w4.alloc (.cells #[.int .i64 J.how, .int .i64 J.run, .bool J.bg, .int .i64 J.o.1, .int .i64 J.o.2.1, .int .i64 J.o.2.2.1, .int .i64 J.o.2.2.2, .slice a n c] 45) := ⟨_, rfl⟩
   have t5 : Touch [] w4 W5 := by rw [hW5]; exact (Touch.refl _ _).alloc _
   have h8 := heap_alloc_new w4 (.cells #[.int .i64 J.how, .int .i64 J.run, .bool J.bg, .int .i64 J.o.1, .int .i64 J.o.2.1, .int .i64 J.o.2.2.1, .int .i64 J.o.2.2.2, .slice a n c] 45)
   rw [← hW5] at h8 ⊢
   have Q5 := hid (Q4.out.then0 t5)
   have B5 := hid (B4.out.keep t5.keeps)
   have H65 := hid (t5.keep H6b.out (by simp))
   have N5 : Hid (Snt W5 (.slice a n c) J.sent) := hid ⟨N4.out.1.keep0 t5, N4.out.2⟩
   have Z8 : Hid (w.heap.size + 2 ≤ w4.heap.size) := hid (by have := block_lt B4.out.j; omega)
   clear hW5 t5 s2 s3
   obtain ⟨-, hbj⟩ := HK.out _ _ _ Q5.out en1.out B5.out
   clear h8
   have d0 := cell_at (j := 0) hbj rfl
   have d1 := cell_at (j := 1) hbj rfl
   have d2 := cell_at (j := 2) hbj rfl
   have d3 := cell_at (j := 3) hbj rfl
   have d4 := cell_at (j := 4) hbj rfl
   have d5 := cell_at (j := 5) hbj rfl
   have d6 := cell_at (j := 6) hbj rfl
   have d7 := cell_at (j := 7) hbj rfl
   have df := froz_at hbj
   clear hbj
   go_wp2
   exact bodyPost_ret (v := .tuple #[.agg #[.int .i64 0, .int .i64 0, .bool false, .int .i64 0, .int .i64 0, .int .i64 0, .int .i64 0, .slice none 0 0], .bool false]) (by simp [results, Tryz.results45, go_sem, d0, d1, d2, d3, d4, d5, d6, d7]) rfl ⟨_, rfl, HF.out _ _ _ _ _ _ Q5.out B5.out (HN.out _) (((((((((Touch.refl _ _).setCell (Or.inl (by simp)) _).setCell (Or.inl (by simp)) _).setCell (Or.inl (by simp)) _).setCell (Or.inl (by simp)) _).setCell (Or.inl (by simp)) _).setCell (Or.inl (by simp)) _).setCell (Or.inl (by simp)) _).setCell (Or.inl (by simp)) _)⟩
  refine AllH.cons (o := { dst := some 6, op := Op.alloc 173, type := 0, pos := _, after := #[], guard := none }) rfl (fun K' hK => ?_) ?_
  ·rw [if_pos (by rfl)]
   go_simp
   refine hK.out _ _ (HK.out _ _ _ (HQA.out _ _ HQ0.out) rfl (HBA.out _ _ HB0.out)).1 ?_
   clear hK
   try simp only [Go.Act.put, Zx, Zy, Zz]
   refine wpH_call (i := 10) (o := { dst := some 21, op := Op.call { callee := Callee.value (Operand.func 88), args := #[Operand.tmp 15, Operand.tmp 19, Operand.tmp 20], argTypes := #[91, 2, 35] }, type := 174, pos := _, after := #[{ on := 4, ground := Ground.data }, { on := 8, ground := Ground.data }, { on := 9, ground := Ground.data }], guard := none }) (by kernel_rfl) rfl (fun K' hK => ?_)
   rw [if_pos (by rfl)]
   go_simp
   refine (HL.out _ (HQA.out _ _ HQ0.out) (HBA.out _ _ HB0.out)).mono ?_
   rintro e w2 ⟨rfl, q2, b2, k2⟩
   have hb6 : w2.heap[V.heap.size]? = some (.cells #[.int .i64 0, .int .i64 0, .int .i64 0, .int .i64 0, .int .i64 0, .int .i64 0] 173 (0, 0)) := k2 _ _ _ _ (by decide) (heap_alloc_new V.drew _)
   have Z6 : Hid (w.heap.size + 2 ≤ V.heap.size) := HVS
   obtain ⟨s2, hbj⟩ := HK.out _ _ _ q2 rfl b2
   have Q2 := hid q2
   have B2 := hid b2
   clear q2 b2 k2 hbj
   refine hK.out _ _ s2 ?_
   clear hK
   try simp only [Go.Act.put, Zx, Zy, Zz]
   refine wpH_take (i := 11) (v := (.tuple #[(.agg #[.int .i64 sh, .int .i64 sa, .int .i64 so.1, .int .i64 so.2.1, .int .i64 so.2.2.1, .int .i64 so.2.2.2]), (.int .i64 0)])) (some 10) rfl rfl (by kernel_rfl) (by kernel_rfl) (by kernel_rfl) (fun _ _ _ h => h) (Or.inl ⟨by rfl, fun w' hS => (by go_simp)⟩) s2 ?_
   try simp only [Go.Act.put, Zx, Zy, Zz]
   refine wpH_take (i := 12) (v := (.agg #[.int .i64 sh, .int .i64 sa, .int .i64 so.1, .int .i64 so.2.1, .int .i64 so.2.2.1, .int .i64 so.2.2.2])) (some 22) rfl rfl (by kernel_rfl) (by kernel_rfl) (by kernel_rfl) (fun _ _ _ h => h) (Or.inl ⟨by rfl, fun w' hS => (by go_simp)⟩) s2 ?_
   try simp only [Go.Act.put, Zx, Zy, Zz]
   refine wpH_take (i := 13) (v := (.int .i64 0)) (some 23) rfl rfl (by kernel_rfl) (by kernel_rfl) (by kernel_rfl) (fun _ _ _ h => h) (Or.inl ⟨by rfl, fun w' hS => (by go_simp)⟩) s2 ?_
   try simp only [Go.Act.put, Zx, Zy, Zz]
   refine wpH_call (i := 15) (o := { dst := none, op := Op.store 173 (Operand.tmp 6) (Operand.tmp 22), type := 0, pos := _, after := #[{ on := 14, ground := Ground.data }, { on := 12, ground := Ground.data }, { on := 10, ground := Ground.chain }, { on := 0, ground := Ground.phase }, { on := 1, ground := Ground.phase }, { on := 2, ground := Ground.phase }, { on := 3, ground := Ground.phase }, { on := 4, ground := Ground.phase }, { on := 5, ground := Ground.phase }, { on := 6, ground := Ground.phase }, { on := 7, ground := Ground.phase }, { on := 8, ground := Ground.phase }, { on := 9, ground := Ground.phase }, { on := 10, ground := Ground.phase }, { on := 11, ground := Ground.phase }, { on := 12, ground := Ground.phase }, { on := 13, ground := Ground.textOnly Departure.lateStores }, { on := 14, ground := Ground.phase }], guard := none }) (by kernel_rfl) rfl (fun K' hK => ?_)
   rw [if_pos (by rfl)]
   have x0 := cell_at (j := 0) hb6 rfl
   have x1 := cell_at (j := 1) hb6 rfl
   have x2 := cell_at (j := 2) hb6 rfl
   have x3 := cell_at (j := 3) hb6 rfl
   have x4 := cell_at (j := 4) hb6 rfl
   have x5 := cell_at (j := 5) hb6 rfl
   have xf := froz_at hb6
   go_simp
   obtain ⟨W3, hW3⟩ : ∃ W3, W3 = ((((((w2.setCell ⟨V.heap.size, 0, none⟩ (.int .i64 sh)).setCell ⟨V.heap.size, 1, none⟩ (.int .i64 sa)).setCell ⟨V.heap.size, 2, none⟩ (.int .i64 so.1)).setCell ⟨V.heap.size, 3, none⟩ (.int .i64 so.2.1)).setCell ⟨V.heap.size, 4, none⟩ (.int .i64 so.2.2.1)).setCell ⟨V.heap.size, 5, none⟩ (.int .i64 so.2.2.2)) := ⟨_, rfl⟩
   obtain ⟨h6, t6⟩ := st6 hb6 (.int .i64 sh) (.int .i64 sa) (.int .i64 so.1) (.int .i64 so.2.1) (.int .i64 so.2.2.1) (.int .i64 so.2.2.2)
   rw [← hW3] at h6 t6 ⊢
   obtain ⟨q3, b3⟩ := HP6.out _ _ _ _ _ _ Z6.out hb6 Q2.out B2.out t6
   obtain ⟨s3, -⟩ := HK.out _ _ _ q3 rfl b3
   have Q3 := hid q3
   have B3 := hid b3
   clear hW3 t6 q3 b3 hb6 x0 x1 x2 x3 x4 x5 xf
   refine hK.out _ _ s3 ?_
   clear hK
   try simp only [Go.Act.put, Zx, Zy, Zz]
   refine wpH_take (i := 16) (v := (.int .i64 0)) (some 7) rfl rfl (by kernel_rfl) (by kernel_rfl) (by kernel_rfl) (fun _ _ _ h => h) (Or.inl ⟨by rfl, fun w' hS => (by go_simp)⟩) s3 ?_
   try simp only [Go.Act.put, Zx, Zy, Zz]
   refine wpAnyH_done (by kernel_rfl) ?_ _
   generalize V.heap.size = b6 at *
   have H6 := hid h6
   have k0 := s3.k0
   have k1 := s3.k1
   have x0 := cell_at (j := 0) h6 rfl
   clear h6
   go_upto_region 3 with (go_at_call 89; refine (HM.out _ Q3.out B3.out).mono ?_; rintro e w4 ⟨a, n, c, rfl, n4, q4, b4, k4⟩; have H6b := hid (k4 _ _ _ _ (by decide) H6.out); have N4 := hid n4; have Q4 := hid q4; have B4 := hid b4; clear n4 q4 b4 k4 k0 k1 x0)
   obtain ⟨W5, hW5⟩ : ∃ W5, W5 = w4.alloc (.cells #[.int .i64 J.how, .int .i64 J.run, .bool J.bg, .int .i64 J.o.1, .int .i64 J.o.2.1, .int .i64 J.o.2.2.1, .int .i64 J.o.2.2.2, .slice a n c] 45) := ⟨_, rfl⟩
   have t5 : Touch [] w4 W5 := by rw [hW5]; exact (Touch.refl _ _).alloc _
   have h8 := heap_alloc_new w4 (.cells #[.int .i64 J.how, .int .i64 J.run, .bool J.bg, .int .i64 J.o.1, .int .i64 J.o.2.1, .int .i64 J.o.2.2.1, .int .i64 J.o.2.2.2, .slice a n c] 45)
   rw [← hW5] at h8 ⊢
   have Q5 := hid (Q4.out.then0 t5)
   have B5 := hid (B4.out.keep t5.keeps)
   have H65 := hid (t5.keep H6b.out (by simp))
   have N5 : Hid (Snt W5 (.slice a n c) J.sent) := hid ⟨N4.out.1.keep0 t5, N4.out.2⟩
   have Z8 : Hid (w.heap.size + 2 ≤ w4.heap.size) := hid (by have := block_lt B4.out.j; omega)
   clear hW5 t5 s2 s3
   obtain ⟨-, hbj⟩ := HK.out _ _ _ Q5.out en1.out B5.out
   clear h8
   have d0 := cell_at (j := 0) hbj rfl
   have d1 := cell_at (j := 1) hbj rfl
   have d2 := cell_at (j := 2) hbj rfl
   have d3 := cell_at (j := 3) hbj rfl
   have d4 := cell_at (j := 4) hbj rfl
   have d5 := cell_at (j := 5) hbj rfl
   have d6 := cell_at (j := 6) hbj rfl
   have d7 := cell_at (j := 7) hbj rfl
   have df := froz_at hbj
   clear hbj
   go_wp2
   exact bodyPost_ret (v := .tuple #[.agg #[.int .i64 0, .int .i64 0, .bool false, .int .i64 0, .int .i64 0, .int .i64 0, .int .i64 0, .slice none 0 0], .bool false]) (by simp [results, Tryz.results45, go_sem, d0, d1, d2, d3, d4, d5, d6, d7]) rfl ⟨_, rfl, HF.out _ _ _ _ _ _ Q5.out B5.out (HN.out _) (((((((((Touch.refl _ _).setCell (Or.inl (by simp)) _).setCell (Or.inl (by simp)) _).setCell (Or.inl (by simp)) _).setCell (Or.inl (by simp)) _).setCell (Or.inl (by simp)) _).setCell (Or.inl (by simp)) _).setCell (Or.inl (by simp)) _).setCell (Or.inl (by simp)) _)⟩
  exact AllH.nil
 | true =>
  rw [hb] at HM
  rw [hu hb] at HT
  rw [if_pos rfl, if_pos rfl]
  simp only
  clear hb hu
  go_enter Tryz.func45, Tryz.ntmps45
  go_upto_region 1 with fail
  rw [← hV]
  clear hV
  refine wp_region_H (S := fun w' => Kg w' g P X.now w.heap.size k) (by kernel_rfl) ?_
  refine wpH_take (i := 0) (v := (.pointer (some ⟨g, 0, none⟩))) (some 11) rfl rfl (by kernel_rfl) (by kernel_rfl) (by kernel_rfl) (fun _ _ _ h => h) (Or.inl ⟨by rfl, fun w' hS => (by go_simp)⟩) s0 ?_
  try simp only [Go.Act.put, Zx, Zy, Zz]
  refine wpH_take (i := 1) (v := (.pointer (some ⟨g, 0, none⟩))) (some 12) rfl rfl (by kernel_rfl) (by kernel_rfl) (by kernel_rfl) (fun _ _ _ h => h) (Or.inl ⟨by rfl, fun w' hS => (by go_simp)⟩) s0 ?_
  try simp only [Go.Act.put, Zx, Zy, Zz]
  refine wpH_take (i := 2) (v := (.pointer (some ⟨g, 0, none⟩))) (some 13) rfl rfl (by kernel_rfl) (by kernel_rfl) (by kernel_rfl) (fun _ _ _ h => h) (Or.inl ⟨by rfl, fun w' hS => (by go_simp)⟩) s0 ?_
  try simp only [Go.Act.put, Zx, Zy, Zz]
  refine wpH_take (i := 3) (v := (.pointer (some ⟨g, 0, none⟩))) (some 14) rfl rfl (by kernel_rfl) (by kernel_rfl) (by kernel_rfl) (fun _ _ _ h => h) (Or.inl ⟨by rfl, fun w' hS => (by go_simp)⟩) s0 ?_
  try simp only [Go.Act.put, Zx, Zy, Zz]
  refine wpH_take (i := 4) (v := (.pointer (some ⟨P.m, 0, none⟩))) (some 15) rfl rfl (by kernel_rfl) (by kernel_rfl) (by kernel_rfl) (fun _ _ _ h => h) (Or.inl ⟨by rfl, fun w' hS => (by have z0 := C0 _ hS; go_simp)⟩) s0 ?_
  try simp only [Go.Act.put, Zx, Zy, Zz]
  refine wpH_take (i := 5) (v := (.pointer (some ⟨g, 0, none⟩))) (some 16) rfl rfl (by kernel_rfl) (by kernel_rfl) (by kernel_rfl) (fun _ _ _ h => h) (Or.inl ⟨by rfl, fun w' hS => (by go_simp)⟩) s0 ?_
  try simp only [Go.Act.put, Zx, Zy, Zz]
  refine wpH_take (i := 6) (v := (.pointer (some ⟨g, 0, none⟩))) (some 17) rfl rfl (by kernel_rfl) (by kernel_rfl) (by kernel_rfl) (fun _ _ _ h => h) (Or.inl ⟨by rfl, fun w' hS => (by go_simp)⟩) s0 ?_
  try simp only [Go.Act.put, Zx, Zy, Zz]
  refine wpH_take (i := 7) (v := (.pointer (some ⟨g, 4, none⟩))) (some 18) rfl rfl (by kernel_rfl) (by kernel_rfl) (by kernel_rfl) (fun _ _ _ h => h) (Or.inl ⟨by rfl, fun w' hS => (by go_simp)⟩) s0 ?_
  try simp only [Go.Act.put, Zx, Zy, Zz]
  refine wpH_take (i := 8) (v := (.int .i64 X.now)) (some 19) rfl rfl (by kernel_rfl) (by kernel_rfl) (by kernel_rfl) (fun _ _ _ h => h) (Or.inl ⟨by rfl, fun w' hS => (by have z0 := C4 _ hS; go_simp)⟩) s0 ?_
  try simp only [Go.Act.put, Zx, Zy, Zz]
  refine wpH_take (i := 9) (v := (.agg #[.int .u16 k.1, .string k.2])) (some 20) rfl rfl (by kernel_rfl) (by kernel_rfl) (by kernel_rfl) (fun _ _ _ h => h) (Or.inl ⟨by rfl, fun w' hS => (by have z0 := K0 _ hS; have z1 := K1 _ hS; go_simp)⟩) s0 ?_
  try simp only [Go.Act.put, Zx, Zy, Zz]
  refine wpH_ready (rs := [10, 14]) (by kernel_rfl) (by simp) ?_
  refine AllH.cons (o := { dst := some 21, op := Op.call { callee := Callee.value (Operand.func 88), args := #[Operand.tmp 15, Operand.tmp 19, Operand.tmp 20], argTypes := #[91, 2, 35] }, type := 174, pos := _, after := #[{ on := 4, ground := Ground.data }, { on := 8, ground := Ground.data }, { on := 9, ground := Ground.data }], guard := none }) rfl (fun K' hK => ?_) ?_
  ·rw [if_pos (by rfl)]
   go_simp
   refine (HL.out _ HQ0.out HB0.out).mono ?_
   rintro e w2 ⟨rfl, q2, b2, k2⟩
   obtain ⟨s2, hbj⟩ := HK.out _ _ _ q2 rfl b2
   have Q2 := hid q2
   have B2 := hid b2
   clear q2 b2 k2 hbj
   refine hK.out _ _ s2 ?_
   clear hK
   try simp only [Go.Act.put, Zx, Zy, Zz]
   refine wpH_take (i := 11) (v := (.tuple #[(.agg #[.int .i64 sh, .int .i64 sa, .int .i64 so.1, .int .i64 so.2.1, .int .i64 so.2.2.1, .int .i64 so.2.2.2]), (.int .i64 0)])) (some 10) rfl rfl (by kernel_rfl) (by kernel_rfl) (by kernel_rfl) (fun _ _ _ h => h) (Or.inl ⟨by rfl, fun w' hS => (by go_simp)⟩) s2 ?_
   try simp only [Go.Act.put, Zx, Zy, Zz]
   refine wpH_take (i := 12) (v := (.agg #[.int .i64 sh, .int .i64 sa, .int .i64 so.1, .int .i64 so.2.1, .int .i64 so.2.2.1, .int .i64 so.2.2.2])) (some 22) rfl rfl (by kernel_rfl) (by kernel_rfl) (by kernel_rfl) (fun _ _ _ h => h) (Or.inl ⟨by rfl, fun w' hS => (by go_simp)⟩) s2 ?_
   try simp only [Go.Act.put, Zx, Zy, Zz]
   refine wpH_take (i := 13) (v := (.int .i64 0)) (some 23) rfl rfl (by kernel_rfl) (by kernel_rfl) (by kernel_rfl) (fun _ _ _ h => h) (Or.inl ⟨by rfl, fun w' hS => (by go_simp)⟩) s2 ?_
   try simp only [Go.Act.put, Zx, Zy, Zz]
   refine wpH_call (i := 14) (o := { dst := some 6, op := Op.alloc 173, type := 0, pos := _, after := #[], guard := none }) (by kernel_rfl) rfl (fun K' hK => ?_)
   rw [if_pos (by rfl)]
   go_simp
   refine hK.out _ _ (HK.out _ _ _ (Q2.out.then0 ((Touch.refl _ _).alloc _)) rfl (B2.out.keep ((Touch.refl [] _).alloc _).keeps)).1 ?_
   clear hK
   try simp only [Go.Act.put, Zx, Zy, Zz]
   have hb6 := heap_alloc_new w2 (.cells #[.int .i64 0, .int .i64 0, .int .i64 0, .int .i64 0, .int .i64 0, .int .i64 0] 173)
   have Z6 : Hid (w.heap.size + 2 ≤ w2.heap.size) := hid (HW.out _ Q2.out B2.out)
   refine wpH_call (i := 15) (o := { dst := none, op := Op.store 173 (Operand.tmp 6) (Operand.tmp 22), type := 0, pos := _, after := #[{ on := 14, ground := Ground.data }, { on := 12, ground := Ground.data }, { on := 10, ground := Ground.chain }, { on := 0, ground := Ground.phase }, { on := 1, ground := Ground.phase }, { on := 2, ground := Ground.phase }, { on := 3, ground := Ground.phase }, { on := 4, ground := Ground.phase }, { on := 5, ground := Ground.phase }, { on := 6, ground := Ground.phase }, { on := 7, ground := Ground.phase }, { on := 8, ground := Ground.phase }, { on := 9, ground := Ground.phase }, { on := 10, ground := Ground.phase }, { on := 11, ground := Ground.phase }, { on := 12, ground := Ground.phase }, { on := 13, ground := Ground.textOnly Departure.lateStores }, { on := 14, ground := Ground.phase }], guard := none }) (by kernel_rfl) rfl (fun K' hK => ?_)
   rw [if_pos (by rfl)]
   have x0 := cell_at (j := 0) hb6 rfl
   have x1 := cell_at (j := 1) hb6 rfl
   have x2 := cell_at (j := 2) hb6 rfl
   have x3 := cell_at (j := 3) hb6 rfl
   have x4 := cell_at (j := 4) hb6 rfl
   have x5 := cell_at (j := 5) hb6 rfl
   have xf := froz_at hb6
   go_simp
   obtain ⟨W3, hW3⟩ : ∃ W3, W3 = w2.alloc (.cells #[.int .i64 sh, .int .i64 sa, .int .i64 so.1, .int .i64 so.2.1, .int .i64 so.2.2.1, .int .i64 so.2.2.2] 173) := ⟨_, rfl⟩
   have t6 : Touch [] w2 W3 := by rw [hW3]; exact (Touch.refl _ _).alloc _
   have h6 := heap_alloc_new w2 (.cells #[.int .i64 sh, .int .i64 sa, .int .i64 so.1, .int .i64 so.2.1, .int .i64 so.2.2.1, .int .i64 so.2.2.2] 173)
   rw [← hW3] at h6 ⊢
   have q3 := Q2.out.then0 t6
   have b3 := B2.out.keep t6.keeps
   obtain ⟨s3, -⟩ := HK.out _ _ _ q3 rfl b3
   have Q3 := hid q3
   have B3 := hid b3
   clear hW3 t6 q3 b3 hb6 x0 x1 x2 x3 x4 x5 xf
   refine hK.out _ _ s3 ?_
   clear hK
   try simp only [Go.Act.put, Zx, Zy, Zz]
   refine wpH_take (i := 16) (v := (.int .i64 0)) (some 7) rfl rfl (by kernel_rfl) (by kernel_rfl) (by kernel_rfl) (fun _ _ _ h => h) (Or.inl ⟨by rfl, fun w' hS => (by go_simp)⟩) s3 ?_
   try simp only [Go.Act.put, Zx, Zy, Zz]
   refine wpAnyH_done (by kernel_rfl) ?_ _
   generalize w2.heap.size = b6 at *
   have H6 := hid h6
   have k0 := s3.k0
   have k1 := s3.k1
   have x0 := cell_at (j := 0) h6 rfl
   clear h6
   go_upto_region 3 with (go_at_call 89; refine (HM.out _ Q3.out B3.out).mono ?_; rintro e w4 ⟨a, n, c, rfl, n4, q4, b4, k4⟩; have H6b := hid (k4 _ _ _ _ (by decide) H6.out); have N4 := hid n4; have Q4 := hid q4; have B4 := hid b4; clear n4 q4 b4 k4 k0 k1 x0)
   obtain ⟨W5, hW5⟩ : ∃ W5, W5 = w4.alloc (.cells #[.int .i64 J.how, .int .i64 J.run, .bool J.bg, .int .i64 J.o.1, .int .i64 J.o.2.1, .int .i64 J.o.2.2.1, .int .i64 J.o.2.2.2, .slice a n c] 45) := ⟨_, rfl⟩
   have t5 : Touch [] w4 W5 := by rw [hW5]; exact (Touch.refl _ _).alloc _
   have h8 := heap_alloc_new w4 (.cells #[.int .i64 J.how, .int .i64 J.run, .bool J.bg, .int .i64 J.o.1, .int .i64 J.o.2.1, .int .i64 J.o.2.2.1, .int .i64 J.o.2.2.2, .slice a n c] 45)
   rw [← hW5] at h8 ⊢
   have Q5 := hid (Q4.out.then0 t5)
   have B5 := hid (B4.out.keep t5.keeps)
   have H65 := hid (t5.keep H6b.out (by simp))
   have N5 : Hid (Snt W5 (.slice a n c) J.sent) := hid ⟨N4.out.1.keep0 t5, N4.out.2⟩
   have Z8 : Hid (w.heap.size + 2 ≤ w4.heap.size) := hid (by have := block_lt B4.out.j; omega)
   clear hW5 t5 s2 s3
   obtain ⟨s5, -⟩ := HK.out _ _ _ Q5.out en1.out B5.out
   go_upto_region 5 with fail
   have s5' : Kg W5.drew g P X.now w.heap.size k := ⟨⟨s5.gm.c0, s5.gm.c1, s5.gm.c2, s5.gm.c3, s5.gm.c4, s5.gm.f4⟩, s5.k0, s5.k1⟩
   refine wp_region_H (S := fun w' => Kg w' g P X.now w.heap.size k) (by kernel_rfl) ?_
   refine wpH_take (i := 0) (v := (.pointer (some ⟨g, 0, none⟩))) (some 35) rfl rfl (by kernel_rfl) (by kernel_rfl) (by kernel_rfl) (fun _ _ _ h => h) (Or.inl ⟨by rfl, fun w' hS => (by go_simp)⟩) s5' ?_
   try simp only [Go.Act.put, Zx, Zy, Zz]
   refine wpH_take (i := 1) (v := (.pointer (some ⟨g, 0, none⟩))) (some 36) rfl rfl (by kernel_rfl) (by kernel_rfl) (by kernel_rfl) (fun _ _ _ h => h) (Or.inl ⟨by rfl, fun w' hS => (by go_simp)⟩) s5' ?_
   try simp only [Go.Act.put, Zx, Zy, Zz]
   refine wpH_take (i := 2) (v := (.pointer (some ⟨g, 0, none⟩))) (some 37) rfl rfl (by kernel_rfl) (by kernel_rfl) (by kernel_rfl) (fun _ _ _ h => h) (Or.inl ⟨by rfl, fun w' hS => (by go_simp)⟩) s5' ?_
   try simp only [Go.Act.put, Zx, Zy, Zz]
   refine wpH_take (i := 3) (v := (.pointer (some ⟨g, 0, none⟩))) (some 38) rfl rfl (by kernel_rfl) (by kernel_rfl) (by kernel_rfl) (fun _ _ _ h => h) (Or.inl ⟨by rfl, fun w' hS => (by go_simp)⟩) s5' ?_
   try simp only [Go.Act.put, Zx, Zy, Zz]
   refine wpH_take (i := 4) (v := (.pointer (some ⟨P.m, 0, none⟩))) (some 39) rfl rfl (by kernel_rfl) (by kernel_rfl) (by kernel_rfl) (fun _ _ _ h => h) (Or.inl ⟨by rfl, fun w' hS => (by have z0 := C0 _ hS; go_simp)⟩) s5' ?_
   try simp only [Go.Act.put, Zx, Zy, Zz]
   refine wpH_take (i := 5) (v := (.pointer (some ⟨g, 0, none⟩))) (some 40) rfl rfl (by kernel_rfl) (by kernel_rfl) (by kernel_rfl) (fun _ _ _ h => h) (Or.inl ⟨by rfl, fun w' hS => (by go_simp)⟩) s5' ?_
   try simp only [Go.Act.put, Zx, Zy, Zz]
   refine wpH_take (i := 6) (v := (.pointer (some ⟨g, 0, none⟩))) (some 41) rfl rfl (by kernel_rfl) (by kernel_rfl) (by kernel_rfl) (fun _ _ _ h => h) (Or.inl ⟨by rfl, fun w' hS => (by go_simp)⟩) s5' ?_
   try simp only [Go.Act.put, Zx, Zy, Zz]
   refine wpH_take (i := 7) (v := (.pointer (some ⟨g, 4, none⟩))) (some 42) rfl rfl (by kernel_rfl) (by kernel_rfl) (by kernel_rfl) (fun _ _ _ h => h) (Or.inl ⟨by rfl, fun w' hS => (by go_simp)⟩) s5' ?_
   try simp only [Go.Act.put, Zx, Zy, Zz]
   refine wpH_take (i := 8) (v := (.int .i64 X.now)) (some 43) rfl rfl (by kernel_rfl) (by kernel_rfl) (by kernel_rfl) (fun _ _ _ h => h) (Or.inl ⟨by rfl, fun w' hS => (by have z0 := C4 _ hS; go_simp)⟩) s5' ?_
   try simp only [Go.Act.put, Zx, Zy, Zz]
   refine wpH_take (i := 9) (v := (.agg #[.int .u16 k.1, .string k.2])) (some 44) rfl rfl (by kernel_rfl) (by kernel_rfl) (by kernel_rfl) (fun _ _ _ h => h) (Or.inl ⟨by rfl, fun w' hS => (by have z0 := K0 _ hS; have z1 := K1 _ hS; go_simp)⟩) s5' ?_
   try simp only [Go.Act.put, Zx, Zy, Zz]
   refine wpH_call (i := 10) (o := { dst := some 45, op := Op.call { callee := Callee.value (Operand.func 90), args := #[Operand.tmp 39, Operand.tmp 43, Operand.tmp 44], argTypes := #[91, 2, 35] }, type := 174, pos := _, after := #[{ on := 4, ground := Ground.data }, { on := 8, ground := Ground.data }, { on := 9, ground := Ground.data }], guard := none }) (by kernel_rfl) rfl (fun K' hK => ?_)
   rw [if_pos (by rfl)]
   go_simp
   refine (HT.out _ Q5.out B5.out).mono ?_
   rintro e w6 ⟨rfl, q6, b6', k6, n6⟩
   have h8 := k6 _ _ _ _ (by decide) h8
   have h66 := k6 _ _ _ _ (by decide) H65.out
   obtain ⟨s6, hbj⟩ := HK.out _ _ _ q6 en1.out b6'
   have N6 := hid (n6 _ _ N5.out)
   have Q6 := hid q6
   have B6 := hid b6'
   clear q6 b6' k6 n6
   refine hK.out _ _ s6 ?_
   clear hK
   try simp only [Go.Act.put, Zx, Zy, Zz]
   refine wpAnyH_done (by kernel_rfl) ?_ _
   obtain ⟨-, hbj⟩ := HK.out _ _ _ Q6.out en1.out B6.out
   have H8 := hid h8
   have y0 := cell_at (j := 0) h8 rfl
   have y1 := cell_at (j := 1) h8 rfl
   have y2 := cell_at (j := 2) h8 rfl
   have y3 := cell_at (j := 3) h8 rfl
   have y4 := cell_at (j := 4) h8 rfl
   have y5 := cell_at (j := 5) h8 rfl
   have y6 := cell_at (j := 6) h8 rfl
   have y7 := cell_at (j := 7) h8 rfl
   have yf := froz_at h8
   have x2 := cell_at (j := 2) h66 rfl
   have x3 := cell_at (j := 3) h66 rfl
   have x4 := cell_at (j := 4) h66 rfl
   have x5 := cell_at (j := 5) h66 rfl
   have z8 : w4.heap.size ≠ w.heap.size + 1 := by have := Z8.out; omega
   have z8b : w.heap.size + 1 ≠ w4.heap.size := fun e => z8 e.symm
   clear h8 h66 s6 s5 C0 C4 K0 K1 s0
   have d0 := cell_at (j := 0) hbj rfl
   have d1 := cell_at (j := 1) hbj rfl
   have d2 := cell_at (j := 2) hbj rfl
   have d3 := cell_at (j := 3) hbj rfl
   have d4 := cell_at (j := 4) hbj rfl
   have d5 := cell_at (j := 5) hbj rfl
   have d6 := cell_at (j := 6) hbj rfl
   have d7 := cell_at (j := 7) hbj rfl
   have df := froz_at hbj
   clear hbj
   go_wp2
   obtain ⟨n7, q7, b7⟩ := HF8.out _ _ _ ((((w6.setCell ⟨w4.heap.size, 3, none⟩ (.int .i64 so.1)).setCell ⟨w4.heap.size, 4, none⟩ (.int .i64 so.2.1)).setCell ⟨w4.heap.size, 5, none⟩ (.int .i64 so.2.2.1)).setCell ⟨w4.heap.size, 6, none⟩ (.int .i64 so.2.2.2)) _ _ _ _ Z8.out H8.out Q6.out B6.out N6.out (((((Touch.refl _ _).setCell (Or.inl (by simp)) _).setCell (Or.inl (by simp)) _).setCell (Or.inl (by simp)) _).setCell (Or.inl (by simp)) _)
   exact bodyPost_ret (v := .tuple #[.agg #[.int .i64 J.how, .int .i64 J.run, .bool J.bg, .int .i64 so.1, .int .i64 so.2.1, .int .i64 so.2.2.1, .int .i64 so.2.2.2, .slice a n c], .bool true]) (by simp [results, Tryz.results45, go_sem, d0, d1, d2, d3, d4, d5, d6, d7]) rfl ⟨_, rfl, HF.out _ _ _ _ _ _ q7 b7 n7 (((((((((Touch.refl _ _).setCell (Or.inl (by simp)) _).setCell (Or.inl (by simp)) _).setCell (Or.inl (by simp)) _).setCell (Or.inl (by simp)) _).setCell (Or.inl (by simp)) _).setCell (Or.inl (by simp)) _).setCell (Or.inl (by simp)) _).setCell (Or.inl (by simp)) _)⟩
  refine AllH.cons (o := { dst := some 6, op := Op.alloc 173, type := 0, pos := _, after := #[], guard := none }) rfl (fun K' hK => ?_) ?_
  ·rw [if_pos (by rfl)]
   go_simp
   refine hK.out _ _ (HK.out _ _ _ (HQA.out _ _ HQ0.out) rfl (HBA.out _ _ HB0.out)).1 ?_
   clear hK
   try simp only [Go.Act.put, Zx, Zy, Zz]
   refine wpH_call (i := 10) (o := { dst := some 21, op := Op.call { callee := Callee.value (Operand.func 88), args := #[Operand.tmp 15, Operand.tmp 19, Operand.tmp 20], argTypes := #[91, 2, 35] }, type := 174, pos := _, after := #[{ on := 4, ground := Ground.data }, { on := 8, ground := Ground.data }, { on := 9, ground := Ground.data }], guard := none }) (by kernel_rfl) rfl (fun K' hK => ?_)
   rw [if_pos (by rfl)]
   go_simp
   refine (HL.out _ (HQA.out _ _ HQ0.out) (HBA.out _ _ HB0.out)).mono ?_
   rintro e w2 ⟨rfl, q2, b2, k2⟩
   have hb6 : w2.heap[V.heap.size]? = some (.cells #[.int .i64 0, .int .i64 0, .int .i64 0, .int .i64 0, .int .i64 0, .int .i64 0] 173 (0, 0)) := k2 _ _ _ _ (by decide) (heap_alloc_new V.drew _)
   have Z6 : Hid (w.heap.size + 2 ≤ V.heap.size) := HVS
   obtain ⟨s2, hbj⟩ := HK.out _ _ _ q2 rfl b2
   have Q2 := hid q2
   have B2 := hid b2
   clear q2 b2 k2 hbj
   refine hK.out _ _ s2 ?_
   clear hK
   try simp only [Go.Act.put, Zx, Zy, Zz]
   refine wpH_take (i := 11) (v := (.tuple #[(.agg #[.int .i64 sh, .int .i64 sa, .int .i64 so.1, .int .i64 so.2.1, .int .i64 so.2.2.1, .int .i64 so.2.2.2]), (.int .i64 0)])) (some 10) rfl rfl (by kernel_rfl) (by kernel_rfl) (by kernel_rfl) (fun _ _ _ h => h) (Or.inl ⟨by rfl, fun w' hS => (by go_simp)⟩) s2 ?_
   try simp only [Go.Act.put, Zx, Zy, Zz]
   refine wpH_take (i := 12) (v := (.agg #[.int .i64 sh, .int .i64 sa, .int .i64 so.1, .int .i64 so.2.1, .int .i64 so.2.2.1, .int .i64 so.2.2.2])) (some 22) rfl rfl (by kernel_rfl) (by kernel_rfl) (by kernel_rfl) (fun _ _ _ h => h) (Or.inl ⟨by rfl, fun w' hS => (by go_simp)⟩) s2 ?_
   try simp only [Go.Act.put, Zx, Zy, Zz]
   refine wpH_take (i := 13) (v := (.int .i64 0)) (some 23) rfl rfl (by kernel_rfl) (by kernel_rfl) (by kernel_rfl) (fun _ _ _ h => h) (Or.inl ⟨by rfl, fun w' hS => (by go_simp)⟩) s2 ?_
   try simp only [Go.Act.put, Zx, Zy, Zz]
   refine wpH_call (i := 15) (o := { dst := none, op := Op.store 173 (Operand.tmp 6) (Operand.tmp 22), type := 0, pos := _, after := #[{ on := 14, ground := Ground.data }, { on := 12, ground := Ground.data }, { on := 10, ground := Ground.chain }, { on := 0, ground := Ground.phase }, { on := 1, ground := Ground.phase }, { on := 2, ground := Ground.phase }, { on := 3, ground := Ground.phase }, { on := 4, ground := Ground.phase }, { on := 5, ground := Ground.phase }, { on := 6, ground := Ground.phase }, { on := 7, ground := Ground.phase }, { on := 8, ground := Ground.phase }, { on := 9, ground := Ground.phase }, { on := 10, ground := Ground.phase }, { on := 11, ground := Ground.phase }, { on := 12, ground := Ground.phase }, { on := 13, ground := Ground.textOnly Departure.lateStores }, { on := 14, ground := Ground.phase }], guard := none }) (by kernel_rfl) rfl (fun K' hK => ?_)
   rw [if_pos (by rfl)]
   have x0 := cell_at (j := 0) hb6 rfl
   have x1 := cell_at (j := 1) hb6 rfl
   have x2 := cell_at (j := 2) hb6 rfl
   have x3 := cell_at (j := 3) hb6 rfl
   have x4 := cell_at (j := 4) hb6 rfl
   have x5 := cell_at (j := 5) hb6 rfl
   have xf := froz_at hb6
   go_simp
   obtain ⟨W3, hW3⟩ : ∃ W3, W3 = ((((((w2.setCell ⟨V.heap.size, 0, none⟩ (.int .i64 sh)).setCell ⟨V.heap.size, 1, none⟩ (.int .i64 sa)).setCell ⟨V.heap.size, 2, none⟩ (.int .i64 so.1)).setCell ⟨V.heap.size, 3, none⟩ (.int .i64 so.2.1)).setCell ⟨V.heap.size, 4, none⟩ (.int .i64 so.2.2.1)).setCell ⟨V.heap.size, 5, none⟩ (.int .i64 so.2.2.2)) := ⟨_, rfl⟩
   obtain ⟨h6, t6⟩ := st6 hb6 (.int .i64 sh) (.int .i64 sa) (.int .i64 so.1) (.int .i64 so.2.1) (.int .i64 so.2.2.1) (.int .i64 so.2.2.2)
   rw [← hW3] at h6 t6 ⊢
   obtain ⟨q3, b3⟩ := HP6.out _ _ _ _ _ _ Z6.out hb6 Q2.out B2.out t6
   obtain ⟨s3, -⟩ := HK.out _ _ _ q3 rfl b3
   have Q3 := hid q3
   have B3 := hid b3
   clear hW3 t6 q3 b3 hb6 x0 x1 x2 x3 x4 x5 xf
   refine hK.out _ _ s3 ?_
   clear hK
   try simp only [Go.Act.put, Zx, Zy, Zz]
   refine wpH_take (i := 16) (v := (.int .i64 0)) (some 7) rfl rfl (by kernel_rfl) (by kernel_rfl) (by kernel_rfl) (fun _ _ _ h => h) (Or.inl ⟨by rfl, fun w' hS => (by go_simp)⟩) s3 ?_
   try simp only [Go.Act.put, Zx, Zy, Zz]
   refine wpAnyH_done (by kernel_rfl) ?_ _
   generalize V.heap.size = b6 at *
   have H6 := hid h6
   have k0 := s3.k0
   have k1 := s3.k1
   have x0 := cell_at (j := 0) h6 rfl
   clear h6
   go_upto_region 3 with (go_at_call 89; refine (HM.out _ Q3.out B3.out).mono ?_; rintro e w4 ⟨a, n, c, rfl, n4, q4, b4, k4⟩; have H6b := hid (k4 _ _ _ _ (by decide) H6.out); have N4 := hid n4; have Q4 := hid q4; have B4 := hid b4; clear n4 q4 b4 k4 k0 k1 x0)
   obtain ⟨W5, hW5⟩ : ∃ W5, W5 = w4.alloc (.cells #[.int .i64 J.how, .int .i64 J.run, .bool J.bg, .int .i64 J.o.1, .int .i64 J.o.2.1, .int .i64 J.o.2.2.1, .int .i64 J.o.2.2.2, .slice a n c] 45) := ⟨_, rfl⟩
   have t5 : Touch [] w4 W5 := by rw [hW5]; exact (Touch.refl _ _).alloc _
   have h8 := heap_alloc_new w4 (.cells #[.int .i64 J.how, .int .i64 J.run, .bool J.bg, .int .i64 J.o.1, .int .i64 J.o.2.1, .int .i64 J.o.2.2.1, .int .i64 J.o.2.2.2, .slice a n c] 45)
   rw [← hW5] at h8 ⊢
   have Q5 := hid (Q4.out.then0 t5)
   have B5 := hid (B4.out.keep t5.keeps)
   have H65 := hid (t5.keep H6b.out (by simp))
   have N5 : Hid (Snt W5 (.slice a n c) J.sent) := hid ⟨N4.out.1.keep0 t5, N4.out.2⟩
   have Z8 : Hid (w.heap.size + 2 ≤ w4.heap.size) := hid (by have := block_lt B4.out.j; omega)
   clear hW5 t5 s2 s3
   obtain ⟨s5, -⟩ := HK.out _ _ _ Q5.out en1.out B5.out
   go_upto_region 5 with fail
   have s5' : Kg W5.drew g P X.now w.heap.size k := ⟨⟨s5.gm.c0, s5.gm.c1, s5.gm.c2, s5.gm.c3, s5.gm.c4, s5.gm.f4⟩, s5.k0, s5.k1⟩
   refine wp_region_H (S := fun w' => Kg w' g P X.now w.heap.size k) (by kernel_rfl) ?_
   refine wpH_take (i := 0) (v := (.pointer (some ⟨g, 0, none⟩))) (some 35) rfl rfl (by kernel_rfl) (by kernel_rfl) (by kernel_rfl) (fun _ _ _ h => h) (Or.inl ⟨by rfl, fun w' hS => (by go_simp)⟩) s5' ?_
   try simp only [Go.Act.put, Zx, Zy, Zz]
   refine wpH_take (i := 1) (v := (.pointer (some ⟨g, 0, none⟩))) (some 36) rfl rfl (by kernel_rfl) (by kernel_rfl) (by kernel_rfl) (fun _ _ _ h => h) (Or.inl ⟨by rfl, fun w' hS => (by go_simp)⟩) s5' ?_
   try simp only [Go.Act.put, Zx, Zy, Zz]
   refine wpH_take (i := 2) (v := (.pointer (some ⟨g, 0, none⟩))) (some 37) rfl rfl (by kernel_rfl) (by kernel_rfl) (by kernel_rfl) (fun _ _ _ h => h) (Or.inl ⟨by rfl, fun w' hS => (by go_simp)⟩) s5' ?_
   try simp only [Go.Act.put, Zx, Zy, Zz]
   refine wpH_take (i := 3) (v := (.pointer (some ⟨g, 0, none⟩))) (some 38) rfl rfl (by kernel_rfl) (by kernel_rfl) (by kernel_rfl) (fun _ _ _ h => h) (Or.inl ⟨by rfl, fun w' hS => (by go_simp)⟩) s5' ?_
   try simp only [Go.Act.put, Zx, Zy, Zz]
   refine wpH_take (i := 4) (v := (.pointer (some ⟨P.m, 0, none⟩))) (some 39) rfl rfl (by kernel_rfl) (by kernel_rfl) (by kernel_rfl) (fun _ _ _ h => h) (Or.inl ⟨by rfl, fun w' hS => (by have z0 := C0 _ hS; go_simp)⟩) s5' ?_
   try simp only [Go.Act.put, Zx, Zy, Zz]
   refine wpH_take (i := 5) (v := (.pointer (some ⟨g, 0, none⟩))) (some 40) rfl rfl (by kernel_rfl) (by kernel_rfl) (by kernel_rfl) (fun _ _ _ h => h) (Or.inl ⟨by rfl, fun w' hS => (by go_simp)⟩) s5' ?_
   try simp only [Go.Act.put, Zx, Zy, Zz]
   refine wpH_take (i := 6) (v := (.pointer (some ⟨g, 0, none⟩))) (some 41) rfl rfl (by kernel_rfl) (by kernel_rfl) (by kernel_rfl) (fun _ _ _ h => h) (Or.inl ⟨by rfl, fun w' hS => (by go_simp)⟩) s5' ?_
   try simp only [Go.Act.put, Zx, Zy, Zz]
   refine wpH_take (i := 7) (v := (.pointer (some ⟨g, 4, none⟩))) (some 42) rfl rfl (by kernel_rfl) (by kernel_rfl) (by kernel_rfl) (fun _ _ _ h => h) (Or.inl ⟨by rfl, fun w' hS => (by go_simp)⟩) s5' ?_
   try simp only [Go.Act.put, Zx, Zy, Zz]
   refine wpH_take (i := 8) (v := (.int .i64 X.now)) (some 43) rfl rfl (by kernel_rfl) (by kernel_rfl) (by kernel_rfl) (fun _ _ _ h => h) (Or.inl ⟨by rfl, fun w' hS => (by have z0 := C4 _ hS; go_simp)⟩) s5' ?_
   try simp only [Go.Act.put, Zx, Zy, Zz]
   refine wpH_take (i := 9) (v := (.agg #[.int .u16 k.1, .string k.2])) (some 44) rfl rfl (by kernel_rfl) (by kernel_rfl) (by kernel_rfl) (fun _ _ _ h => h) (Or.inl ⟨by rfl, fun w' hS => (by have z0 := K0 _ hS; have z1 := K1 _ hS; go_simp)⟩) s5' ?_
   try simp only [Go.Act.put, Zx, Zy, Zz]
   refine wpH_call (i := 10) (o := { dst := some 45, op := Op.call { callee := Callee.value (Operand.func 90), args := #[Operand.tmp 39, Operand.tmp 43, Operand.tmp 44], argTypes := #[91, 2, 35] }, type := 174, pos := _, after := #[{ on := 4, ground := Ground.data }, { on := 8, ground := Ground.data }, { on := 9, ground := Ground.data }], guard := none }) (by kernel_rfl) rfl (fun K' hK => ?_)
   rw [if_pos (by rfl)]
   go_simp
   refine (HT.out _ Q5.out B5.out).mono ?_
   rintro e w6 ⟨rfl, q6, b6', k6, n6⟩
   have h8 := k6 _ _ _ _ (by decide) h8
   have h66 := k6 _ _ _ _ (by decide) H65.out
   obtain ⟨s6, hbj⟩ := HK.out _ _ _ q6 en1.out b6'
   have N6 := hid (n6 _ _ N5.out)
   have Q6 := hid q6
   have B6 := hid b6'
   clear q6 b6' k6 n6
   refine hK.out _ _ s6 ?_
   clear hK
   try simp only [Go.Act.put, Zx, Zy, Zz]
   refine wpAnyH_done (by kernel_rfl) ?_ _
   obtain ⟨-, hbj⟩ := HK.out _ _ _ Q6.out en1.out B6.out
   have H8 := hid h8
   have y0 := cell_at (j := 0) h8 rfl
   have y1 := cell_at (j := 1) h8 rfl
   have y2 := cell_at (j := 2) h8 rfl
   have y3 := cell_at (j := 3) h8 rfl
   have y4 := cell_at (j := 4) h8 rfl
   have y5 := cell_at (j := 5) h8 rfl
   have y6 := cell_at (j := 6) h8 rfl
   have y7 := cell_at (j := 7) h8 rfl
   have yf := froz_at h8
   have x2 := cell_at (j := 2) h66 rfl
   have x3 := cell_at (j := 3) h66 rfl
   have x4 := cell_at (j := 4) h66 rfl
   have x5 := cell_at (j := 5) h66 rfl
   have z8 : w4.heap.size ≠ w.heap.size + 1 := by have := Z8.out; omega
   have z8b : w.heap.size + 1 ≠ w4.heap.size := fun e => z8 e.symm
   clear h8 h66 s6 s5 C0 C4 K0 K1 s0
   have d0 := cell_at (j := 0) hbj rfl
   have d1 := cell_at (j := 1) hbj rfl
   have d2 := cell_at (j := 2) hbj rfl
   have d3 := cell_at (j := 3) hbj rfl
   have d4 := cell_at (j := 4) hbj rfl
   have d5 := cell_at (j := 5) hbj rfl
   have d6 := cell_at (j := 6) hbj rfl
   have d7 := cell_at (j := 7) hbj rfl
   have df := froz_at hbj
   clear hbj
   go_wp2
   obtain ⟨n7, q7, b7⟩ := HF8.out _ _ _ ((((w6.setCell ⟨w4.heap.size, 3, none⟩ (.int .i64 so.1)).setCell ⟨w4.heap.size, 4, none⟩ (.int .i64 so.2.1)).setCell ⟨w4.heap.size, 5, none⟩ (.int .i64 so.2.2.1)).setCell ⟨w4.heap.size, 6, none⟩ (.int .i64 so.2.2.2)) _ _ _ _ Z8.out H8.out Q6.out B6.out N6.out (((((Touch.refl _ _).setCell (Or.inl (by simp)) _).setCell (Or.inl (by simp)) _).setCell (Or.inl (by simp)) _).setCell (Or.inl (by simp)) _)
   exact bodyPost_ret (v := .tuple #[.agg #[.int .i64 J.how, .int .i64 J.run, .bool J.bg, .int .i64 so.1, .int .i64 so.2.1, .int .i64 so.2.2.1, .int .i64 so.2.2.2, .slice a n c], .bool true]) (by simp [results, Tryz.results45, go_sem, d0, d1, d2, d3, d4, d5, d6, d7]) rfl ⟨_, rfl, HF.out _ _ _ _ _ _ q7 b7 n7 (((((((((Touch.refl _ _).setCell (Or.inl (by simp)) _).setCell (Or.inl (by simp)) _).setCell (Or.inl (by simp)) _).setCell (Or.inl (by simp)) _).setCell (Or.inl (by simp)) _).setCell (Or.inl (by simp)) _).setCell (Or.inl (by simp)) _).setCell (Or.inl (by simp)) _)⟩
  exact AllH.nil
end
end Go.Proofs.YtllchnancjgijaaGreat
/- The contracts of wait and of Join; no conditions but those that each states. -/
namespace Go.Proofs.YtllchnancjgijaaGreat
open Go.RowKit Go.Maps Go.ChangeMaps
section
variable {w : World} {g : Nat} {P : Pt} {F : List Nat} {X : Gp} {N : Cn}
set_option maxHeartbeats 16000000 in
theorem wait_ (h : Gq w g P F X N) (k : K) (hk : Ok k) {x t : Int} (hx : W64 x) (ht : W64 t) (hN : N.t ≤ 2900000000000) (hB : N.b ≤ 6000000000000) (hS : N.s ≤ 4400000000000) : Calls Tryz.prog 46 #[PT g, kv k, .int .i64 x, .int .i64 t] w fun e w' => ∃ v, e = .returned (jv (waiJ X k x) v) ∧ Snt w' v (waiJ X k x).sent ∧ GqE w w' g P F (waiX X k x t) (waiC X k x N) := by
 obtain ⟨V, hV⟩ : ∃ V, V = (w.alloc (Ta.bxK k)).alloc (.cells jz 45) := ⟨_, rfl⟩
 obtain ⟨tv, hb⟩ := Bkj.new w V k hV
 have Q0 : GqE w V.drew g P F X N := GqE.same h tv.drew
 have B0 : Bkj w V.drew k := hb.keep ((Touch.refl [] V).drew).keeps
 have hbg : W64 (X.T.bg + 1) := by
  have := h.iv.2.1.bg
  exact W64.mk (by omega) (by omega)
 have hR : ∀ R, Ta.curOf X.T k = some R → W64 R.run := fun R hc => by
  obtain ⟨⟨S, hm⟩, -, -⟩ := Ta.curOf_some hc
  have h1 := h.iv.2.1.rng _ hm
  have h2 := h.iv.2.1.bg
  simp only at h1
  exact W64.mk (by omega) (by omega)
 have HC : Hid (Calls Tryz.prog 91 #[PT P.t, kv k] V.drew fun e w2 => e = .returned (.tuple #[.int .i64 (((Ta.curOf X.T k).map Ta.Rn.run).getD 0), .bool (Ta.curOf X.T k).isSome]) ∧ GqE w w2 g P F X N ∧ Bkj w w2 k) := hid ((cur_at Q0 k hk).mono (fun e w2 hh => ⟨hh.1, hh.2.1, B0.keep hh.2.2⟩))
 have HB : Hid (∀ w1, GqE w w1 g P F X N → Bkj w w1 k → Calls Tryz.prog 94 #[PT P.t, kv k, .int .i64 x, .bool false] w1.drew fun e w2 => e = .returned (.tuple #[.int .i64 (Ta.tBegN X.T k x false), .int .i64 (Ta.tBegE X.T k x false)]) ∧ GqE w w2 g P F (runX X k x false) { N with t := N.t + 1 } ∧ Bkj w w2 k) := hid (fun w1 Q B => (beg_at (Q.then0 (Touch.refl _ _).drew) (by omega) k hk hx false).mono (fun e w2 hh => ⟨hh.1, hh.2.1, (B.keep ((Touch.refl [] w1).drew).keeps).keep hh.2.2⟩))
 have HJ : Hid (∀ R, Ta.curOf X.T k = some R → ∀ w1, GqE w w1 g P F X N → Bkj w w1 k → Calls Tryz.prog 92 #[PT P.t, .int .i64 R.run, .int .i64 x] w1 fun e w2 => (∃ E : Int, e = .returned (.int .i64 E)) ∧ GqE w w2 g P F { X with T := Ta.tJoin X.T R.run x } { N with t := N.t + 1 } ∧ Bkj w w2 k) := hid (fun R hc w1 Q B => (tjoin_at Q (by omega) (hR R hc) hx).mono (fun e w2 hh => ⟨⟨_, hh.1⟩, hh.2.1, B.keep hh.2.2⟩))
 have HS : Hid (∀ w1 r Y, W64 r → GqE w w1 g P F Y { N with t := N.t + 1 } → Bkj w w1 k → Calls Tryz.prog 93 #[PT g, .int .i64 x, .int .i64 r, .int .i64 t] w1 fun e w2 => e = .returned (.tuple #[]) ∧ GqE w w2 g P F (sitX Y x r t) ⟨N.t + 1, N.b, N.s + 1⟩ ∧ Bkj w w2 k) := hid (fun w1 r Y hr Q B => (sit_at Q ⟨hx, hr, ht⟩ hS).mono (fun e w2 hh => ⟨hh.1, hh.2.1, B.keep hh.2.2⟩))
 have HG : Hid (∀ w1, GqE w w1 g P F (sitX (runX X k x false) x (X.T.bg + 1) t) ⟨N.t + 1, N.b, N.s + 1⟩ → Bkj w w1 k → Calls Tryz.prog 95 #[PT g, .int .i64 5, .int .i64 (X.T.bg + 1)] w1 fun e w2 => ∃ a n c, e = .returned (jv (begJ X 5 (X.T.bg + 1)) (.slice a n c)) ∧ Snt w2 (.slice a n c) (begJ X 5 (X.T.bg + 1)).sent ∧ GqE w w2 g P F (begX (sitX (runX X k x false) x (X.T.bg + 1) t) (X.T.bg + 1)) ⟨N.t + 1, N.b + 1, N.s + 1⟩ ∧ Bkj w w2 k) := hid (fun w1 Q B => by
  refine (begun_at Q hbg hB).mono ?_
  rintro e w2 ⟨v, e1, e2, e3, e4⟩
  obtain ⟨a, n, c, rfl⟩ := e2.2
  exact ⟨a, n, c, e1, e2, e3, B.keep e4⟩)
 have HF : Hid (∀ w2 w3 v xs Y M, GqE w w2 g P F Y M → Bkj w w2 k → Snt w2 v xs → Touch [w.heap.size + 1] w2 w3 → Snt w3 v xs ∧ GqE w w3 g P F Y M) := hid (fun w2 w3 v xs Y M Q B s T => ⟨s.put B.j (by decide) T, Q.put B.j (by decide) (by omega) T⟩)
 have HN : Hid (∀ w2, Snt w2 (.slice none 0 0) []) := hid (fun w2 => Snt.nil w2)
 have HK : Hid (∀ w2 Y M, GqE w w2 g P F Y M → Y.now = X.now → Bkj w w2 k → Kg w2 g P X.now w.heap.size k ∧ w2.heap[w.heap.size + 1]? = some (.cells jz 45 (0, 0))) := hid (fun w2 Y M Q e B => ⟨by have := B.kg Q; rwa [e] at this, B.j⟩)
 have HBG := hid hbg
 have HR := hid hR
 have s0 : Kg V.drew g P X.now w.heap.size k := B0.kg Q0
 have C1 : ∀ w', Kg w' g P X.now w.heap.size k → w'.cell? ⟨g, 1, none⟩ = some (.pointer (some ⟨P.t, 0, none⟩)) := fun _ h => h.gm.c1
 have K0 : ∀ w', Kg w' g P X.now w.heap.size k → w'.cell? ⟨w.heap.size, 0, none⟩ = some (.int .u16 k.1) := fun _ h => h.k0
 have K1 : ∀ w', Kg w' g P X.now w.heap.size k → w'.cell? ⟨w.heap.size, 1, none⟩ = some (.string k.2) := fun _ h => h.k1
 clear h Q0 B0 tv hb hk hN hB hS hbg hx ht hR
 unfold waiJ waiX waiC
 unfold Ta.bxK jz at hV
 unfold jz at HK
 unfold jv jcs at *
 unfold kv PT at *
 cases hc : Ta.curOf X.T k with
 | some R =>
  have HJ2 := hid (HJ.out R hc)
  have HRR := hid (HR.out R hc)
  rw [hc] at HC
  simp only [Option.map_some, Option.getD_some, Option.isSome_some] at HC ⊢
  clear HB HG hc HJ HR HBG
  go_enter Tryz.func46, Tryz.ntmps46
  go_upto_region 1 with fail
  rw [← hV]
  clear hV
  refine wp_region_H (S := fun w' => Kg w' g P X.now w.heap.size k) (by kernel_rfl) ?_
  refine wpH_take (i := 0) (v := (.pointer (some ⟨g, 0, none⟩))) (some 14) rfl rfl (by kernel_rfl) (by kernel_rfl) (by kernel_rfl) (fun _ _ _ h => h) (Or.inl ⟨by rfl, fun w' hS => (by go_simp)⟩) s0 ?_
  try simp only [Go.Act.put, Zx, Zy, Zz]
  refine wpH_take (i := 1) (v := (.pointer (some ⟨g, 0, none⟩))) (some 15) rfl rfl (by kernel_rfl) (by kernel_rfl) (by kernel_rfl) (fun _ _ _ h => h) (Or.inl ⟨by rfl, fun w' hS => (by go_simp)⟩) s0 ?_
  try simp only [Go.Act.put, Zx, Zy, Zz]
  refine wpH_take (i := 2) (v := (.pointer (some ⟨g, 0, none⟩))) (some 16) rfl rfl (by kernel_rfl) (by kernel_rfl) (by kernel_rfl) (fun _ _ _ h => h) (Or.inl ⟨by rfl, fun w' hS => (by go_simp)⟩) s0 ?_
  try simp only [Go.Act.put, Zx, Zy, Zz]
  refine wpH_take (i := 3) (v := (.pointer (some ⟨g, 1, none⟩))) (some 17) rfl rfl (by kernel_rfl) (by kernel_rfl) (by kernel_rfl) (fun _ _ _ h => h) (Or.inl ⟨by rfl, fun w' hS => (by go_simp)⟩) s0 ?_
  try simp only [Go.Act.put, Zx, Zy, Zz]
  refine wpH_take (i := 4) (v := (.pointer (some ⟨P.t, 0, none⟩))) (some 18) rfl rfl (by kernel_rfl) (by kernel_rfl) (by kernel_rfl) (fun _ _ _ h => h) (Or.inl ⟨by rfl, fun w' hS => (by have z0 := C1 _ hS; go_simp)⟩) s0 ?_
  try simp only [Go.Act.put, Zx, Zy, Zz]
  refine wpH_take (i := 5) (v := (.agg #[.int .u16 k.1, .string k.2])) (some 19) rfl rfl (by kernel_rfl) (by kernel_rfl) (by kernel_rfl) (fun _ _ _ h => h) (Or.inl ⟨by rfl, fun w' hS => (by have z0 := K0 _ hS; have z1 := K1 _ hS; go_simp)⟩) s0 ?_
  try simp only [Go.Act.put, Zx, Zy, Zz]
  refine wpH_call (i := 6) (o := { dst := some 20, op := Op.call { callee := Callee.value (Operand.func 91), args := #[Operand.tmp 18, Operand.tmp 19], argTypes := #[103, 35] }, type := 118, pos := _, after := #[{ on := 4, ground := Ground.data }, { on := 5, ground := Ground.data }], guard := none }) (by kernel_rfl) rfl (fun K' hK => ?_)
  rw [if_pos (by rfl)]
  go_simp
  refine HC.out.mono ?_
  rintro e w2 ⟨rfl, q2, b2⟩
  obtain ⟨s2, hbj⟩ := HK.out _ _ _ q2 rfl b2
  have Q2 := hid q2
  have B2 := hid b2
  clear q2 b2
  refine hK.out _ _ s2 ?_
  clear hK
  try simp only [Go.Act.put, Zx, Zy, Zz]
  refine wpH_take (i := 7) (v := (.tuple #[(.int .i64 R.run), (.bool true)])) (some 13) rfl rfl (by kernel_rfl) (by kernel_rfl) (by kernel_rfl) (fun _ _ _ h => h) (Or.inl ⟨by rfl, fun w' hS => (by go_simp)⟩) s2 ?_
  try simp only [Go.Act.put, Zx, Zy, Zz]
  refine wpH_take (i := 8) (v := (.int .i64 R.run)) (some 21) rfl rfl (by kernel_rfl) (by kernel_rfl) (by kernel_rfl) (fun _ _ _ h => h) (Or.inl ⟨by rfl, fun w' hS => (by go_simp)⟩) s2 ?_
  try simp only [Go.Act.put, Zx, Zy, Zz]
  refine wpH_take (i := 9) (v := (.bool true)) (some 22) rfl rfl (by kernel_rfl) (by kernel_rfl) (by kernel_rfl) (fun _ _ _ h => h) (Or.inl ⟨by rfl, fun w' hS => (by go_simp)⟩) s2 ?_
  try simp only [Go.Act.put, Zx, Zy, Zz]
  refine wpH_take (i := 10) (v := (.int .i64 R.run)) (some 9) rfl rfl (by kernel_rfl) (by kernel_rfl) (by kernel_rfl) (fun _ _ _ h => h) (Or.inl ⟨by rfl, fun w' hS => (by go_simp)⟩) s2 ?_
  try simp only [Go.Act.put, Zx, Zy, Zz]
  refine wpH_take (i := 11) (v := (.bool true)) (some 10) rfl rfl (by kernel_rfl) (by kernel_rfl) (by kernel_rfl) (fun _ _ _ h => h) (Or.inl ⟨by rfl, fun w' hS => (by go_simp)⟩) s2 ?_
  try simp only [Go.Act.put, Zx, Zy, Zz]
  refine wpAnyH_done (by kernel_rfl) ?_ _
  have c1 := s2.gm.c1
  clear C1 K0 K1 s0 s2 hbj
  go_wp2_with (first
   | (go_at_call 92; refine (HJ2.out _ Q2.out B2.out).mono ?_; rintro e w3 ⟨⟨E, rfl⟩, q3, b3⟩; have Q3 := hid q3; have B3 := hid b3; clear q3 b3 c1)
   | (go_at_call 93; refine (HS.out _ _ _ HRR.out Q3.out B3.out).mono ?_; rintro e w4 ⟨rfl, q4, b4⟩; obtain ⟨-, hbj⟩ := HK.out _ _ _ q4 rfl b4; have Q4 := hid q4; have B4 := hid b4; clear q4 b4; have d0 := cell_at (j := 0) hbj rfl; have d1 := cell_at (j := 1) hbj rfl; have d2 := cell_at (j := 2) hbj rfl; have d3 := cell_at (j := 3) hbj rfl; have d4 := cell_at (j := 4) hbj rfl; have d5 := cell_at (j := 5) hbj rfl; have d6 := cell_at (j := 6) hbj rfl; have d7 := cell_at (j := 7) hbj rfl; have df := froz_at hbj; clear hbj))
  exact bodyPost_ret (v := .agg #[.int .i64 3, .int .i64 R.run, .bool false, .int .i64 0, .int .i64 0, .int .i64 0, .int .i64 0, .slice none 0 0]) (by simp [results, Tryz.results46, go_sem, d0, d1, d2, d3, d4, d5, d6, d7]) rfl ⟨_, rfl, HF.out _ _ _ _ _ _ Q4.out B4.out (HN.out _) (((((((((Touch.refl _ _).setCell (Or.inl (by simp)) _).setCell (Or.inl (by simp)) _).setCell (Or.inl (by simp)) _).setCell (Or.inl (by simp)) _).setCell (Or.inl (by simp)) _).setCell (Or.inl (by simp)) _).setCell (Or.inl (by simp)) _).setCell (Or.inl (by simp)) _)⟩
 | none =>
  rw [hc] at HC
  simp only [Option.map_none, Option.getD_none, Option.isSome_none] at HC ⊢
  clear hc HJ HR
  by_cases hz : Ta.tBegE X.T k x false = 0
  ·rw [if_pos hz, if_pos hz, if_pos hz]
   have hn : Ta.tBegN X.T k x false = X.T.bg + 1 := by unfold Ta.tBegN; rw [if_pos hz]
   rw [hz, hn] at HB
   clear hz hn
   have e1 : (begJ X 5 (X.T.bg + 1)).how = 5 := rfl
   have e2 : (begJ X 5 (X.T.bg + 1)).run = X.T.bg + 1 := rfl
   have e3 : (begJ X 5 (X.T.bg + 1)).bg = true := rfl
   have e4 : (begJ X 5 (X.T.bg + 1)).o = (0, 0, 0, 0) := rfl
   rw [e1, e2, e3, e4] at HG
   rw [e1, e2, e3, e4]
   clear e1 e2 e3 e4
   simp only at HG ⊢
   generalize (begJ X 5 (X.T.bg + 1)).sent = ss at *
   generalize hY : begX (sitX (runX X k x false) x (X.T.bg + 1) t) (X.T.bg + 1) = Y at *
   have hY2 : Y.now = X.now := by rw [← hY]; rfl
   have HK2 := hid (fun w2 Q B => (HK.out w2 Y ⟨N.t + 1, N.b + 1, N.s + 1⟩ Q hY2 B).2)
   clear hY hY2
   generalize X.T.bg + 1 = r at *
   go_enter Tryz.func46, Tryz.ntmps46
   go_upto_region 1 with fail
   rw [← hV]
   clear hV
   refine wp_region_H (S := fun w' => Kg w' g P X.now w.heap.size k) (by kernel_rfl) ?_
   refine wpH_take (i := 0) (v := (.pointer (some ⟨g, 0, none⟩))) (some 14) rfl rfl (by kernel_rfl) (by kernel_rfl) (by kernel_rfl) (fun _ _ _ h => h) (Or.inl ⟨by rfl, fun w' hS => (by go_simp)⟩) s0 ?_
   try simp only [Go.Act.put, Zx, Zy, Zz]
   refine wpH_take (i := 1) (v := (.pointer (some ⟨g, 0, none⟩))) (some 15) rfl rfl (by kernel_rfl) (by kernel_rfl) (by kernel_rfl) (fun _ _ _ h => h) (Or.inl ⟨by rfl, fun w' hS => (by go_simp)⟩) s0 ?_
   try simp only [Go.Act.put, Zx, Zy, Zz]
   refine wpH_take (i := 2) (v := (.pointer (some ⟨g, 0, none⟩))) (some 16) rfl rfl (by kernel_rfl) (by kernel_rfl) (by kernel_rfl) (fun _ _ _ h => h) (Or.inl ⟨by rfl, fun w' hS => (by go_simp)⟩) s0 ?_
   try simp only [Go.Act.put, Zx, Zy, Zz]
   refine wpH_take (i := 3) (v := (.pointer (some ⟨g, 1, none⟩))) (some 17) rfl rfl (by kernel_rfl) (by kernel_rfl) (by kernel_rfl) (fun _ _ _ h => h) (Or.inl ⟨by rfl, fun w' hS => (by go_simp)⟩) s0 ?_
   try simp only [Go.Act.put, Zx, Zy, Zz]
   refine wpH_take (i := 4) (v := (.pointer (some ⟨P.t, 0, none⟩))) (some 18) rfl rfl (by kernel_rfl) (by kernel_rfl) (by kernel_rfl) (fun _ _ _ h => h) (Or.inl ⟨by rfl, fun w' hS => (by have z0 := C1 _ hS; go_simp)⟩) s0 ?_
   try simp only [Go.Act.put, Zx, Zy, Zz]
   refine wpH_take (i := 5) (v := (.agg #[.int .u16 k.1, .string k.2])) (some 19) rfl rfl (by kernel_rfl) (by kernel_rfl) (by kernel_rfl) (fun _ _ _ h => h) (Or.inl ⟨by rfl, fun w' hS => (by have z0 := K0 _ hS; have z1 := K1 _ hS; go_simp)⟩) s0 ?_
   try simp only [Go.Act.put, Zx, Zy, Zz]
   refine wpH_call (i := 6) (o := { dst := some 20, op := Op.call { callee := Callee.value (Operand.func 91), args := #[Operand.tmp 18, Operand.tmp 19], argTypes := #[103, 35] }, type := 118, pos := _, after := #[{ on := 4, ground := Ground.data }, { on := 5, ground := Ground.data }], guard := none }) (by kernel_rfl) rfl (fun K' hK => ?_)
   rw [if_pos (by rfl)]
   go_simp
   refine HC.out.mono ?_
   rintro e w2 ⟨rfl, q2, b2⟩
   obtain ⟨s2, hbj⟩ := HK.out _ _ _ q2 rfl b2
   have Q2 := hid q2
   have B2 := hid b2
   clear q2 b2
   refine hK.out _ _ s2 ?_
   clear hK
   try simp only [Go.Act.put, Zx, Zy, Zz]
   refine wpH_take (i := 7) (v := (.tuple #[(.int .i64 0), (.bool false)])) (some 13) rfl rfl (by kernel_rfl) (by kernel_rfl) (by kernel_rfl) (fun _ _ _ h => h) (Or.inl ⟨by rfl, fun w' hS => (by go_simp)⟩) s2 ?_
   try simp only [Go.Act.put, Zx, Zy, Zz]
   refine wpH_take (i := 8) (v := (.int .i64 0)) (some 21) rfl rfl (by kernel_rfl) (by kernel_rfl) (by kernel_rfl) (fun _ _ _ h => h) (Or.inl ⟨by rfl, fun w' hS => (by go_simp)⟩) s2 ?_
   try simp only [Go.Act.put, Zx, Zy, Zz]
   refine wpH_take (i := 9) (v := (.bool false)) (some 22) rfl rfl (by kernel_rfl) (by kernel_rfl) (by kernel_rfl) (fun _ _ _ h => h) (Or.inl ⟨by rfl, fun w' hS => (by go_simp)⟩) s2 ?_
   try simp only [Go.Act.put, Zx, Zy, Zz]
   refine wpH_take (i := 10) (v := (.int .i64 0)) (some 9) rfl rfl (by kernel_rfl) (by kernel_rfl) (by kernel_rfl) (fun _ _ _ h => h) (Or.inl ⟨by rfl, fun w' hS => (by go_simp)⟩) s2 ?_
   try simp only [Go.Act.put, Zx, Zy, Zz]
   refine wpH_take (i := 11) (v := (.bool false)) (some 10) rfl rfl (by kernel_rfl) (by kernel_rfl) (by kernel_rfl) (fun _ _ _ h => h) (Or.inl ⟨by rfl, fun w' hS => (by go_simp)⟩) s2 ?_
   try simp only [Go.Act.put, Zx, Zy, Zz]
   refine wpAnyH_done (by kernel_rfl) ?_ _
   clear hbj
   go_upto_region 6 with fail
   have s2' : Kg w2.drew g P X.now w.heap.size k := ⟨⟨s2.gm.c0, s2.gm.c1, s2.gm.c2, s2.gm.c3, s2.gm.c4, s2.gm.f4⟩, s2.k0, s2.k1⟩
   refine wp_region_H (S := fun w' => Kg w' g P X.now w.heap.size k) (by kernel_rfl) ?_
   refine wpH_take (i := 0) (v := (.pointer (some ⟨g, 0, none⟩))) (some 40) rfl rfl (by kernel_rfl) (by kernel_rfl) (by kernel_rfl) (fun _ _ _ h => h) (Or.inl ⟨by rfl, fun w' hS => (by go_simp)⟩) s2' ?_
   try simp only [Go.Act.put, Zx, Zy, Zz]
   refine wpH_take (i := 1) (v := (.pointer (some ⟨g, 0, none⟩))) (some 41) rfl rfl (by kernel_rfl) (by kernel_rfl) (by kernel_rfl) (fun _ _ _ h => h) (Or.inl ⟨by rfl, fun w' hS => (by go_simp)⟩) s2' ?_
   try simp only [Go.Act.put, Zx, Zy, Zz]
   refine wpH_take (i := 2) (v := (.pointer (some ⟨g, 0, none⟩))) (some 42) rfl rfl (by kernel_rfl) (by kernel_rfl) (by kernel_rfl) (fun _ _ _ h => h) (Or.inl ⟨by rfl, fun w' hS => (by go_simp)⟩) s2' ?_
   try simp only [Go.Act.put, Zx, Zy, Zz]
   refine wpH_take (i := 3) (v := (.pointer (some ⟨g, 1, none⟩))) (some 43) rfl rfl (by kernel_rfl) (by kernel_rfl) (by kernel_rfl) (fun _ _ _ h => h) (Or.inl ⟨by rfl, fun w' hS => (by go_simp)⟩) s2' ?_
   try simp only [Go.Act.put, Zx, Zy, Zz]
   refine wpH_take (i := 4) (v := (.pointer (some ⟨P.t, 0, none⟩))) (some 44) rfl rfl (by kernel_rfl) (by kernel_rfl) (by kernel_rfl) (fun _ _ _ h => h) (Or.inl ⟨by rfl, fun w' hS => (by have z0 := C1 _ hS; go_simp)⟩) s2' ?_
   try simp only [Go.Act.put, Zx, Zy, Zz]
   refine wpH_take (i := 5) (v := (.agg #[.int .u16 k.1, .string k.2])) (some 45) rfl rfl (by kernel_rfl) (by kernel_rfl) (by kernel_rfl) (fun _ _ _ h => h) (Or.inl ⟨by rfl, fun w' hS => (by have z0 := K0 _ hS; have z1 := K1 _ hS; go_simp)⟩) s2' ?_
   try simp only [Go.Act.put, Zx, Zy, Zz]
   refine wpH_take (i := 6) (v := (.int .i64 x)) (some 46) rfl rfl (by kernel_rfl) (by kernel_rfl) (by kernel_rfl) (fun _ _ _ h => h) (Or.inl ⟨by rfl, fun w' hS => (by go_simp)⟩) s2' ?_
   try simp only [Go.Act.put, Zx, Zy, Zz]
   refine wpH_call (i := 7) (o := { dst := some 47, op := Op.call { callee := Callee.value (Operand.func 94), args := #[Operand.tmp 44, Operand.tmp 45, Operand.tmp 46, Operand.const (Value.bool false)], argTypes := #[103, 35, 3, 4] }, type := 168, pos := _, after := #[{ on := 4, ground := Ground.data }, { on := 5, ground := Ground.data }, { on := 6, ground := Ground.data }], guard := none }) (by kernel_rfl) rfl (fun K' hK => ?_)
   rw [if_pos (by rfl)]
   go_simp
   refine (HB.out _ Q2.out B2.out).mono ?_
   rintro e w3 ⟨rfl, q3, b3⟩
   obtain ⟨s3, hbj⟩ := HK.out _ _ _ q3 rfl b3
   have Q3 := hid q3
   have B3 := hid b3
   clear q3 b3
   refine hK.out _ _ s3 ?_
   clear hK
   try simp only [Go.Act.put, Zx, Zy, Zz]
   refine wpH_take (i := 8) (v := (.tuple #[(.int .i64 r), (.int .i64 0)])) (some 39) rfl rfl (by kernel_rfl) (by kernel_rfl) (by kernel_rfl) (fun _ _ _ h => h) (Or.inl ⟨by rfl, fun w' hS => (by go_simp)⟩) s3 ?_
   try simp only [Go.Act.put, Zx, Zy, Zz]
   refine wpH_take (i := 9) (v := (.int .i64 r)) (some 48) rfl rfl (by kernel_rfl) (by kernel_rfl) (by kernel_rfl) (fun _ _ _ h => h) (Or.inl ⟨by rfl, fun w' hS => (by go_simp)⟩) s3 ?_
   try simp only [Go.Act.put, Zx, Zy, Zz]
   refine wpH_take (i := 10) (v := (.int .i64 0)) (some 49) rfl rfl (by kernel_rfl) (by kernel_rfl) (by kernel_rfl) (fun _ _ _ h => h) (Or.inl ⟨by rfl, fun w' hS => (by go_simp)⟩) s3 ?_
   try simp only [Go.Act.put, Zx, Zy, Zz]
   refine wpH_take (i := 11) (v := (.int .i64 r)) (some 11) rfl rfl (by kernel_rfl) (by kernel_rfl) (by kernel_rfl) (fun _ _ _ h => h) (Or.inl ⟨by rfl, fun w' hS => (by go_simp)⟩) s3 ?_
   try simp only [Go.Act.put, Zx, Zy, Zz]
   refine wpH_take (i := 12) (v := (.int .i64 0)) (some 12) rfl rfl (by kernel_rfl) (by kernel_rfl) (by kernel_rfl) (fun _ _ _ h => h) (Or.inl ⟨by rfl, fun w' hS => (by go_simp)⟩) s3 ?_
   try simp only [Go.Act.put, Zx, Zy, Zz]
   refine wpAnyH_done (by kernel_rfl) ?_ _
   clear C1 K0 K1 s0 s2 s2' s3 hbj
   go_wp2_with (first
       | (go_at_call 93; refine (HS.out _ _ _ HBG.out Q3.out B3.out).mono ?_; rintro e w4 ⟨rfl, q4, b4⟩; have Q4 := hid q4; have B4 := hid b4; clear q4 b4)
       | (go_at_call 95; refine (HG.out _ Q4.out B4.out).mono ?_; rintro e w5 ⟨va, vn, vc, rfl, n5, q5, b5⟩; have hbj := HK2.out _ q5 b5; have N5 := hid n5; have Q5 := hid q5; have B5 := hid b5; clear n5 q5 b5; have d0 := cell_at (j := 0) hbj rfl; have d1 := cell_at (j := 1) hbj rfl; have d2 := cell_at (j := 2) hbj rfl; have d3 := cell_at (j := 3) hbj rfl; have d4 := cell_at (j := 4) hbj rfl; have d5 := cell_at (j := 5) hbj rfl; have d6 := cell_at (j := 6) hbj rfl; have d7 := cell_at (j := 7) hbj rfl; have df := froz_at hbj; clear hbj))
   exact bodyPost_ret (v := .agg #[.int .i64 5, .int .i64 r, .bool true, .int .i64 0, .int .i64 0, .int .i64 0, .int .i64 0, .slice va vn vc]) (by simp [results, Tryz.results46, go_sem, d0, d1, d2, d3, d4, d5, d6, d7]) rfl ⟨_, rfl, HF.out _ _ _ _ _ _ Q5.out B5.out N5.out (((((((((Touch.refl _ _).setCell (Or.inl (by simp)) _).setCell (Or.inl (by simp)) _).setCell (Or.inl (by simp)) _).setCell (Or.inl (by simp)) _).setCell (Or.inl (by simp)) _).setCell (Or.inl (by simp)) _).setCell (Or.inl (by simp)) _).setCell (Or.inl (by simp)) _)⟩
  ·rw [if_neg hz, if_neg hz, if_neg hz]
   rw [runX_no hz] at HB
   have hz' : (Ta.tBegE X.T k x false != 0) = true := by simp [hz]
   clear HG hz HS HBG
   simp only
   generalize Ta.tBegE X.T k x false = E at *
   generalize Ta.tBegN X.T k x false = r at *
   go_enter Tryz.func46, Tryz.ntmps46
   go_upto_region 1 with fail
   rw [← hV]
   clear hV
   refine wp_region_H (S := fun w' => Kg w' g P X.now w.heap.size k) (by kernel_rfl) ?_
   refine wpH_take (i := 0) (v := (.pointer (some ⟨g, 0, none⟩))) (some 14) rfl rfl (by kernel_rfl) (by kernel_rfl) (by kernel_rfl) (fun _ _ _ h => h) (Or.inl ⟨by rfl, fun w' hS => (by go_simp)⟩) s0 ?_
   try simp only [Go.Act.put, Zx, Zy, Zz]
   refine wpH_take (i := 1) (v := (.pointer (some ⟨g, 0, none⟩))) (some 15) rfl rfl (by kernel_rfl) (by kernel_rfl) (by kernel_rfl) (fun _ _ _ h => h) (Or.inl ⟨by rfl, fun w' hS => (by go_simp)⟩) s0 ?_
   try simp only [Go.Act.put, Zx, Zy, Zz]
   refine wpH_take (i := 2) (v := (.pointer (some ⟨g, 0, none⟩))) (some 16) rfl rfl (by kernel_rfl) (by kernel_rfl) (by kernel_rfl) (fun _ _ _ h => h) (Or.inl ⟨by rfl, fun w' hS => (by go_simp)⟩) s0 ?_
   try simp only [Go.Act.put, Zx, Zy, Zz]
   refine wpH_take (i := 3) (v := (.pointer (some ⟨g, 1, none⟩))) (some 17) rfl rfl (by kernel_rfl) (by kernel_rfl) (by kernel_rfl) (fun _ _ _ h => h) (Or.inl ⟨by rfl, fun w' hS => (by go_simp)⟩) s0 ?_
   try simp only [Go.Act.put, Zx, Zy, Zz]
   refine wpH_take (i := 4) (v := (.pointer (some ⟨P.t, 0, none⟩))) (some 18) rfl rfl (by kernel_rfl) (by kernel_rfl) (by kernel_rfl) (fun _ _ _ h => h) (Or.inl ⟨by rfl, fun w' hS => (by have z0 := C1 _ hS; go_simp)⟩) s0 ?_
   try simp only [Go.Act.put, Zx, Zy, Zz]
   refine wpH_take (i := 5) (v := (.agg #[.int .u16 k.1, .string k.2])) (some 19) rfl rfl (by kernel_rfl) (by kernel_rfl) (by kernel_rfl) (fun _ _ _ h => h) (Or.inl ⟨by rfl, fun w' hS => (by have z0 := K0 _ hS; have z1 := K1 _ hS; go_simp)⟩) s0 ?_
   try simp only [Go.Act.put, Zx, Zy, Zz]
   refine wpH_call (i := 6) (o := { dst := some 20, op := Op.call { callee := Callee.value (Operand.func 91), args := #[Operand.tmp 18, Operand.tmp 19], argTypes := #[103, 35] }, type := 118, pos := _, after := #[{ on := 4, ground := Ground.data }, { on := 5, ground := Ground.data }], guard := none }) (by kernel_rfl) rfl (fun K' hK => ?_)
   rw [if_pos (by rfl)]
   go_simp
   refine HC.out.mono ?_
   rintro e w2 ⟨rfl, q2, b2⟩
   obtain ⟨s2, hbj⟩ := HK.out _ _ _ q2 rfl b2
   have Q2 := hid q2
   have B2 := hid b2
   clear q2 b2
   refine hK.out _ _ s2 ?_
   clear hK
   try simp only [Go.Act.put, Zx, Zy, Zz]
   refine wpH_take (i := 7) (v := (.tuple #[(.int .i64 0), (.bool false)])) (some 13) rfl rfl (by kernel_rfl) (by kernel_rfl) (by kernel_rfl) (fun _ _ _ h => h) (Or.inl ⟨by rfl, fun w' hS => (by go_simp)⟩) s2 ?_
   try simp only [Go.Act.put, Zx, Zy, Zz]
   refine wpH_take (i := 8) (v := (.int .i64 0)) (some 21) rfl rfl (by kernel_rfl) (by kernel_rfl) (by kernel_rfl) (fun _ _ _ h => h) (Or.inl ⟨by rfl, fun w' hS => (by go_simp)⟩) s2 ?_
   try simp only [Go.Act.put, Zx, Zy, Zz]
   refine wpH_take (i := 9) (v := (.bool false)) (some 22) rfl rfl (by kernel_rfl) (by kernel_rfl) (by kernel_rfl) (fun _ _ _ h => h) (Or.inl ⟨by rfl, fun w' hS => (by go_simp)⟩) s2 ?_
   try simp only [Go.Act.put, Zx, Zy, Zz]
   refine wpH_take (i := 10) (v := (.int .i64 0)) (some 9) rfl rfl (by kernel_rfl) (by kernel_rfl) (by kernel_rfl) (fun _ _ _ h => h) (Or.inl ⟨by rfl, fun w' hS => (by go_simp)⟩) s2 ?_
   try simp only [Go.Act.put, Zx, Zy, Zz]
   refine wpH_take (i := 11) (v := (.bool false)) (some 10) rfl rfl (by kernel_rfl) (by kernel_rfl) (by kernel_rfl) (fun _ _ _ h => h) (Or.inl ⟨by rfl, fun w' hS => (by go_simp)⟩) s2 ?_
   try simp only [Go.Act.put, Zx, Zy, Zz]
   refine wpAnyH_done (by kernel_rfl) ?_ _
   clear hbj
   go_upto_region 6 with fail
   have s2' : Kg w2.drew g P X.now w.heap.size k := ⟨⟨s2.gm.c0, s2.gm.c1, s2.gm.c2, s2.gm.c3, s2.gm.c4, s2.gm.f4⟩, s2.k0, s2.k1⟩
   refine wp_region_H (S := fun w' => Kg w' g P X.now w.heap.size k) (by kernel_rfl) ?_
   refine wpH_take (i := 0) (v := (.pointer (some ⟨g, 0, none⟩))) (some 40) rfl rfl (by kernel_rfl) (by kernel_rfl) (by kernel_rfl) (fun _ _ _ h => h) (Or.inl ⟨by rfl, fun w' hS => (by go_simp)⟩) s2' ?_
   try simp only [Go.Act.put, Zx, Zy, Zz]
   refine wpH_take (i := 1) (v := (.pointer (some ⟨g, 0, none⟩))) (some 41) rfl rfl (by kernel_rfl) (by kernel_rfl) (by kernel_rfl) (fun _ _ _ h => h) (Or.inl ⟨by rfl, fun w' hS => (by go_simp)⟩) s2' ?_
   try simp only [Go.Act.put, Zx, Zy, Zz]
   refine wpH_take (i := 2) (v := (.pointer (some ⟨g, 0, none⟩))) (some 42) rfl rfl (by kernel_rfl) (by kernel_rfl) (by kernel_rfl) (fun _ _ _ h => h) (Or.inl ⟨by rfl, fun w' hS => (by go_simp)⟩) s2' ?_
   try simp only [Go.Act.put, Zx, Zy, Zz]
   refine wpH_take (i := 3) (v := (.pointer (some ⟨g, 1, none⟩))) (some 43) rfl rfl (by kernel_rfl) (by kernel_rfl) (by kernel_rfl) (fun _ _ _ h => h) (Or.inl ⟨by rfl, fun w' hS => (by go_simp)⟩) s2' ?_
   try simp only [Go.Act.put, Zx, Zy, Zz]
   refine wpH_take (i := 4) (v := (.pointer (some ⟨P.t, 0, none⟩))) (some 44) rfl rfl (by kernel_rfl) (by kernel_rfl) (by kernel_rfl) (fun _ _ _ h => h) (Or.inl ⟨by rfl, fun w' hS => (by have z0 := C1 _ hS; go_simp)⟩) s2' ?_
   try simp only [Go.Act.put, Zx, Zy, Zz]
   refine wpH_take (i := 5) (v := (.agg #[.int .u16 k.1, .string k.2])) (some 45) rfl rfl (by kernel_rfl) (by kernel_rfl) (by kernel_rfl) (fun _ _ _ h => h) (Or.inl ⟨by rfl, fun w' hS => (by have z0 := K0 _ hS; have z1 := K1 _ hS; go_simp)⟩) s2' ?_
   try simp only [Go.Act.put, Zx, Zy, Zz]
   refine wpH_take (i := 6) (v := (.int .i64 x)) (some 46) rfl rfl (by kernel_rfl) (by kernel_rfl) (by kernel_rfl) (fun _ _ _ h => h) (Or.inl ⟨by rfl, fun w' hS => (by go_simp)⟩) s2' ?_
   try simp only [Go.Act.put, Zx, Zy, Zz]
   refine wpH_call (i := 7) (o := { dst := some 47, op := Op.call { callee := Callee.value (Operand.func 94), args := #[Operand.tmp 44, Operand.tmp 45, Operand.tmp 46, Operand.const (Value.bool false)], argTypes := #[103, 35, 3, 4] }, type := 168, pos := _, after := #[{ on := 4, ground := Ground.data }, { on := 5, ground := Ground.data }, { on := 6, ground := Ground.data }], guard := none }) (by kernel_rfl) rfl (fun K' hK => ?_)
   rw [if_pos (by rfl)]
   go_simp
   refine (HB.out _ Q2.out B2.out).mono ?_
   rintro e w3 ⟨rfl, q3, b3⟩
   obtain ⟨s3, hbj⟩ := HK.out _ _ _ q3 rfl b3
   have Q3 := hid q3
   have B3 := hid b3
   clear q3 b3
   refine hK.out _ _ s3 ?_
   clear hK
   try simp only [Go.Act.put, Zx, Zy, Zz]
   refine wpH_take (i := 8) (v := (.tuple #[(.int .i64 r), (.int .i64 E)])) (some 39) rfl rfl (by kernel_rfl) (by kernel_rfl) (by kernel_rfl) (fun _ _ _ h => h) (Or.inl ⟨by rfl, fun w' hS => (by go_simp)⟩) s3 ?_
   try simp only [Go.Act.put, Zx, Zy, Zz]
   refine wpH_take (i := 9) (v := (.int .i64 r)) (some 48) rfl rfl (by kernel_rfl) (by kernel_rfl) (by kernel_rfl) (fun _ _ _ h => h) (Or.inl ⟨by rfl, fun w' hS => (by go_simp)⟩) s3 ?_
   try simp only [Go.Act.put, Zx, Zy, Zz]
   refine wpH_take (i := 10) (v := (.int .i64 E)) (some 49) rfl rfl (by kernel_rfl) (by kernel_rfl) (by kernel_rfl) (fun _ _ _ h => h) (Or.inl ⟨by rfl, fun w' hS => (by go_simp)⟩) s3 ?_
   try simp only [Go.Act.put, Zx, Zy, Zz]
   refine wpH_take (i := 11) (v := (.int .i64 r)) (some 11) rfl rfl (by kernel_rfl) (by kernel_rfl) (by kernel_rfl) (fun _ _ _ h => h) (Or.inl ⟨by rfl, fun w' hS => (by go_simp)⟩) s3 ?_
   try simp only [Go.Act.put, Zx, Zy, Zz]
   refine wpH_take (i := 12) (v := (.int .i64 E)) (some 12) rfl rfl (by kernel_rfl) (by kernel_rfl) (by kernel_rfl) (fun _ _ _ h => h) (Or.inl ⟨by rfl, fun w' hS => (by go_simp)⟩) s3 ?_
   try simp only [Go.Act.put, Zx, Zy, Zz]
   refine wpAnyH_done (by kernel_rfl) ?_ _
   clear C1 K0 K1 s0 s2 s2' s3
   have d0 := cell_at (j := 0) hbj rfl
   have d1 := cell_at (j := 1) hbj rfl
   have d2 := cell_at (j := 2) hbj rfl
   have d3 := cell_at (j := 3) hbj rfl
   have d4 := cell_at (j := 4) hbj rfl
   have d5 := cell_at (j := 5) hbj rfl
   have d6 := cell_at (j := 6) hbj rfl
   have d7 := cell_at (j := 7) hbj rfl
   have df := froz_at hbj
   clear hbj
   go_wp2
   exact bodyPost_ret (v := .agg #[.int .i64 4, .int .i64 0, .bool false, .int .i64 0, .int .i64 4, .int .i64 0, .int .i64 0, .slice none 0 0]) (by simp [results, Tryz.results46, go_sem, d0, d1, d2, d3, d4, d5, d6, d7]) rfl ⟨_, rfl, HF.out _ _ _ _ _ _ Q3.out B3.out (HN.out _) (((((((((Touch.refl _ _).setCell (Or.inl (by simp)) _).setCell (Or.inl (by simp)) _).setCell (Or.inl (by simp)) _).setCell (Or.inl (by simp)) _).setCell (Or.inl (by simp)) _).setCell (Or.inl (by simp)) _).setCell (Or.inl (by simp)) _).setCell (Or.inl (by simp)) _)⟩
structure Gt (X : Gp) : Prop where
 m : X.mn ≤ X.now
 z : 0 ≤ X.now
 t : X.now ≤ 4611686018427387904
theorem tk_ok {X : Gp} {n : Int} (h : tkE X n = 0) : 0 ≤ n ∧ n ≤ 4611686018427387904 ∧ X.now ≤ n := by
 unfold tkE Me.tickE at h
 split at h
 ·rename_i e
  unfold Me.isT at e
  simp only [Bool.and_eq_true, decide_eq_true_eq] at e
  split at h
  ·cases h
  ·exact ⟨e.1, e.2, by omega⟩
 ·cases h
theorem may_ok {X : Gp} {n : Int} {k : K} {x t : Int} (h : mayE X n k x t = 0) : tkE X n = 0 ∧ k.2.size ≤ 64 ∧ 1 ≤ x ∧ 0 ≤ t ∧ ¬ t ∈ X.G ∧ (Lv.whr X.L x) = none := by
 unfold mayE at h
 split at h
 ·rename_i e; exact absurd h e
 rename_i e0
 split at h
 ·cases h
 split at h
 ·cases h
 split at h
 ·cases h
 split at h
 ·cases h
 split at h
 ·cases h
 rename_i e1 e2 e3 e4 e5
 exact ⟨by simpa using e0, by omega, by omega, by omega, e4, by simpa using e5⟩
set_option maxHeartbeats 16000000 in
theorem join_ (h : Gq w g P F X N) (hg : Gt X) (n : Int) (k : K) (hk : Ok k) {x t : Int} (hx : W64 x) (ht : W64 t) (hN : N.t ≤ 2800000000000) (hB : N.b ≤ 5900000000000) (hS : N.s ≤ 4300000000000) : Calls Tryz.prog 11 #[PT g, .int .i64 n, kv k, .int .i64 x, .int .i64 t] w fun e w' => ∃ v, e = .returned (.tuple #[jv (joJ X n k x t) v, .int .i64 (mayE X n k x t)]) ∧ Snt w' v (joJ X n k x t).sent ∧ GqE w w' g P F (joX X n k x t) (joC X n k x t N) := by
 obtain ⟨V, hV⟩ : ∃ V, V = (w.alloc (Ta.bxK k)).alloc (.cells jz 45) := ⟨_, rfl⟩
 obtain ⟨tv, hb⟩ := Bkj.new w V k hV
 have Q0 : GqE w V g P F X N := GqE.same h tv
 have HM : Hid (Calls Tryz.prog 44 #[PT g, .int .i64 n, kv k, .int .i64 x, .int .i64 t] V fun e w2 => e = .returned (.int .i64 (mayE X n k x t)) ∧ GqE w w2 g P F X N ∧ Bkj w w2 k) := hid ((may_at Q0 n k hk hx ht).mono (fun e w2 hh => ⟨hh.1, hh.2.1, hb.keep hh.2.2⟩))
 obtain ⟨X1, hX1⟩ : ∃ X1, X1 = { X with now := n } := ⟨_, rfl⟩
 have HW : Hid (∀ w1, GqE w w1 g P F X N → Bkj w w1 k → GqE w (w1.setCell ⟨g, 4, none⟩ (.int .i64 n)) g P F X1 N ∧ Bkj w (w1.setCell ⟨g, 4, none⟩ (.int .i64 n)) k) := hid (fun w1 Q B => by rw [hX1]; exact ⟨(Q.setNow n).1, B.keep (Q.setNow n).2⟩)
 have hle : ∀ M : Cn, M = meeC X1 k (seenOf X1 k).1 N → M.t ≤ 2900000000000 ∧ M.b ≤ 6000000000000 ∧ M.s ≤ 4400000000000 := fun M e => by
  rw [e]
  unfold meeC renC
  split
  ·split
   ·omega
   ·split
    ·simp only; omega
    ·simp only; omega
  ·omega
 have HT : Hid (mayE X n k x t = 0 → ∀ w1, GqE w w1 g P F X1 N → Bkj w w1 k → Calls Tryz.prog 45 #[PT g, kv k] w1 fun e w2 => ∃ a n c, e = .returned (.tuple #[jv (telJ X1 k) (.slice a n c), .bool (telB X1 k)]) ∧ Snt w2 (.slice a n c) (telJ X1 k).sent ∧ GqE w w2 g P F (telX X1 k) (meeC X1 k (seenOf X1 k).1 N) ∧ Bkj w w2 k) := hid (fun hm w1 Q B => by
  obtain ⟨m0, m1, -⟩ := may_ok hm
  obtain ⟨t0, t1, t2⟩ := tk_ok m0
  obtain ⟨F1, q1, q2⟩ := Q.go
  refine (tell_ q1 (by rw [hX1]; exact ⟨by have := hg.m; simp only; omega, t0, t1⟩) k hk m1 (by omega) (by omega)).mono ?_
  rintro e w2 ⟨v, rfl, n2, r2⟩
  obtain ⟨a, n, c, rfl⟩ := n2.2
  exact ⟨a, n, c, rfl, n2, (q2 _ _ _ r2).1, B.keep (q2 _ _ _ r2).2⟩)
 have HWt : Hid (∀ w1, GqE w w1 g P F (telX X1 k) (meeC X1 k (seenOf X1 k).1 N) → Bkj w w1 k → Calls Tryz.prog 46 #[PT g, kv k, .int .i64 x, .int .i64 t] w1 fun e w2 => ∃ a n c, e = .returned (jv (waiJ (telX X1 k) k x) (.slice a n c)) ∧ Snt w2 (.slice a n c) (waiJ (telX X1 k) k x).sent ∧ GqE w w2 g P F (waiX (telX X1 k) k x t) (waiC (telX X1 k) k x (meeC X1 k (seenOf X1 k).1 N)) ∧ Bkj w w2 k) := hid (fun w1 Q B => by
  obtain ⟨F1, q1, q2⟩ := Q.go
  obtain ⟨l1, l2, l3⟩ := hle _ rfl
  refine (wait_ q1 k hk hx ht l1 l2 l3).mono ?_
  rintro e w2 ⟨v, rfl, n2, r2⟩
  obtain ⟨a, n, c, rfl⟩ := n2.2
  exact ⟨a, n, c, rfl, n2, (q2 _ _ _ r2).1, B.keep (q2 _ _ _ r2).2⟩)
 have HF : Hid (∀ w2 w3 v xs Y M, GqE w w2 g P F Y M → Bkj w w2 k → Snt w2 v xs → Touch [w.heap.size + 1] w2 w3 → Snt w3 v xs ∧ GqE w w3 g P F Y M) := hid (fun w2 w3 v xs Y M Q B s T => ⟨s.put B.j (by decide) T, Q.put B.j (by decide) (by omega) T⟩)
 have HN : Hid (∀ w2, Snt w2 (.slice none 0 0) []) := hid (fun w2 => Snt.nil w2)
 have HK : Hid (∀ w2, Bkj w w2 k → w2.cell? ⟨w.heap.size, 0, none⟩ = some (.int .u16 k.1) ∧ w2.cell? ⟨w.heap.size, 1, none⟩ = some (.string k.2) ∧ w2.heap[w.heap.size + 1]? = some (.cells jz 45 (0, 0))) := hid (fun w2 B => ⟨cell_at B.k rfl, cell_at B.k rfl, B.j⟩)
 have HA : Hid (∀ w2 o v xs Y M, GqE w w2 g P F Y M → Bkj w w2 k → Snt w2 v xs → GqE w (w2.alloc o) g P F Y M ∧ Bkj w (w2.alloc o) k ∧ Snt (w2.alloc o) v xs) := hid (fun w2 o v xs Y M Q B s => ⟨Q.then0 ((Touch.refl _ _).alloc _), B.keep ((Touch.refl [] _).alloc _).keeps, s.1.keep0 ((Touch.refl _ _).alloc _), s.2⟩)
 have HC : Hid (∀ w2, GqE w w2 g P F X N → GmC w2 g P X.now) := hid (fun w2 Q => Q.cs)
 obtain ⟨k0, k1, -⟩ := HK.out _ hb
 unfold joJ joX joC
 rw [← hX1]
 clear h hg Q0 tv hb hk hN hB hS hx ht hX1 hle
 generalize seenOf X1 k = ss at *
 generalize meeC X1 k ss.1 N = M at *
 generalize waiC (telX X1 k) k x M = M2 at *
 generalize waiX (telX X1 k) k x t = X3 at *
 generalize waiJ (telX X1 k) k x = J3 at *
 generalize telX X1 k = X2 at *
 generalize telJ X1 k = J2 at *
 unfold Ta.bxK jz at hV
 unfold jz at HK
 unfold jv jcs at *
 unfold kv PT at *
 by_cases hz : mayE X n k x t ≠ 0
 ·rw [if_pos hz, if_pos hz, if_pos hz]
  have hz' : (mayE X n k x t != 0) = true := by simp [hz]
  have e1 : Jd.z.how = 0 := rfl
  have e2 : Jd.z.run = 0 := rfl
  have e3 : Jd.z.bg = false := rfl
  have e4 : Jd.z.o = (0, 0, 0, 0) := rfl
  have e5 : Jd.z.sent = [] := rfl
  rw [e1, e2, e3, e4, e5]
  clear e1 e2 e3 e4 e5 HT HWt hz HW
  generalize mayE X n k x t = E at *
  go_enter Tryz.func11, Tryz.ntmps11
  go_upto_region 1 with fail
  rw [← hV]
  clear hV
  go_wp2_with (go_at_call 44; refine HM.out.mono ?_; rintro e w2 ⟨rfl, q2, b2⟩; clear k0 k1; obtain ⟨k0, k1, hbj⟩ := HK.out _ b2; have g4 := (HC.out _ q2).f4; have c4 := (HC.out _ q2).c4; have Q2 := hid q2; have B2 := hid b2; clear q2 b2; have d0 := cell_at (j := 0) hbj rfl; have d1 := cell_at (j := 1) hbj rfl; have d2 := cell_at (j := 2) hbj rfl; have d3 := cell_at (j := 3) hbj rfl; have d4 := cell_at (j := 4) hbj rfl; have d5 := cell_at (j := 5) hbj rfl; have d6 := cell_at (j := 6) hbj rfl; have d7 := cell_at (j := 7) hbj rfl; have df := froz_at hbj; clear hbj)
  exact bodyPost_ret (v := .tuple #[.agg #[.int .i64 0, .int .i64 0, .bool false, .int .i64 0, .int .i64 0, .int .i64 0, .int .i64 0, .slice none 0 0], .int .i64 E]) (by simp [results, Tryz.results11, go_sem, d0, d1, d2, d3, d4, d5, d6, d7]) rfl ⟨_, rfl, HF.out _ _ _ _ _ _ Q2.out B2.out (HN.out _) (((((((((Touch.refl _ _).setCell (Or.inl (by simp)) _).setCell (Or.inl (by simp)) _).setCell (Or.inl (by simp)) _).setCell (Or.inl (by simp)) _).setCell (Or.inl (by simp)) _).setCell (Or.inl (by simp)) _).setCell (Or.inl (by simp)) _).setCell (Or.inl (by simp)) _)⟩
 ·rw [if_neg hz, if_neg hz, if_neg hz]
  have hz0 : mayE X n k x t = 0 := by simpa using hz
  have HT2 := hid (HT.out hz0)
  rw [hz0] at HM ⊢
  clear hz hz0 HT
  cases hb : telB X1 k with
  | true =>
   rw [hb] at HT2
   rw [if_pos rfl, if_pos rfl, if_pos rfl]
   clear HWt hb
   go_enter Tryz.func11, Tryz.ntmps11
   go_upto_region 1 with fail
   rw [← hV]
   clear hV
   go_upto_region 4 with (go_at_call 44; refine HM.out.mono ?_; rintro e w2 ⟨rfl, q2, b2⟩; clear k0 k1; obtain ⟨k0, k1, hbj⟩ := HK.out _ b2; have g4 := (HC.out _ q2).f4; have c4 := (HC.out _ q2).c4; have Q2 := hid q2; have B2 := hid b2; clear q2 b2; clear hbj)
   obtain ⟨q3, b3⟩ := HW.out _ Q2.out B2.out
   go_upto_region 5 with fail
   obtain ⟨W3, hW3⟩ : ∃ W3, W3 = w2.setCell ⟨g, 4, none⟩ (.int .i64 n) := ⟨_, rfl⟩
   rw [← hW3] at q3 b3 ⊢
   clear hW3 k0 k1 g4 c4
   obtain ⟨k0, k1, -⟩ := HK.out _ b3
   have Q3 := hid q3
   have B3 := hid b3
   clear q3 b3
   go_upto_region 6 with (go_at_call 45; refine (HT2.out _ Q3.out B3.out).mono ?_; rintro e w4 ⟨a, m, c, rfl, n4, q4, b4⟩; have N4 := hid n4; have Q4 := hid q4; have B4 := hid b4; clear n4 q4 b4 k0 k1)
   obtain ⟨W5, hW5⟩ : ∃ W5, W5 = w4.alloc (.cells #[.int .i64 J2.how, .int .i64 J2.run, .bool J2.bg, .int .i64 J2.o.1, .int .i64 J2.o.2.1, .int .i64 J2.o.2.2.1, .int .i64 J2.o.2.2.2, .slice a m c] 45) := ⟨_, rfl⟩
   have h8 := heap_alloc_new w4 (.cells #[.int .i64 J2.how, .int .i64 J2.run, .bool J2.bg, .int .i64 J2.o.1, .int .i64 J2.o.2.1, .int .i64 J2.o.2.2.1, .int .i64 J2.o.2.2.2, .slice a m c] 45)
   obtain ⟨q5, b5, n5⟩ := HA.out w4 (.cells #[.int .i64 J2.how, .int .i64 J2.run, .bool J2.bg, .int .i64 J2.o.1, .int .i64 J2.o.2.1, .int .i64 J2.o.2.2.1, .int .i64 J2.o.2.2.2, .slice a m c] 45) _ _ _ _ Q4.out B4.out N4.out
   rw [← hW5] at h8 q5 b5 n5 ⊢
   clear hW5
   obtain ⟨-, -, hbj⟩ := HK.out _ b5
   have y0 := cell_at (j := 0) h8 rfl
   have y1 := cell_at (j := 1) h8 rfl
   have y2 := cell_at (j := 2) h8 rfl
   have y3 := cell_at (j := 3) h8 rfl
   have y4 := cell_at (j := 4) h8 rfl
   have y5 := cell_at (j := 5) h8 rfl
   have y6 := cell_at (j := 6) h8 rfl
   have y7 := cell_at (j := 7) h8 rfl
   have Q5 := hid q5
   have B5 := hid b5
   have N5 := hid n5
   clear h8 q5 b5 n5
   have d0 := cell_at (j := 0) hbj rfl
   have d1 := cell_at (j := 1) hbj rfl
   have d2 := cell_at (j := 2) hbj rfl
   have d3 := cell_at (j := 3) hbj rfl
   have d4 := cell_at (j := 4) hbj rfl
   have d5 := cell_at (j := 5) hbj rfl
   have d6 := cell_at (j := 6) hbj rfl
   have d7 := cell_at (j := 7) hbj rfl
   have df := froz_at hbj
   clear hbj
   go_wp2
   exact bodyPost_ret (v := .tuple #[.agg #[.int .i64 J2.how, .int .i64 J2.run, .bool J2.bg, .int .i64 J2.o.1, .int .i64 J2.o.2.1, .int .i64 J2.o.2.2.1, .int .i64 J2.o.2.2.2, .slice a m c], .int .i64 0]) (by simp [results, Tryz.results11, go_sem, d0, d1, d2, d3, d4, d5, d6, d7]) rfl ⟨_, rfl, HF.out _ _ _ _ _ _ Q5.out B5.out N5.out (((((((((Touch.refl _ _).setCell (Or.inl (by simp)) _).setCell (Or.inl (by simp)) _).setCell (Or.inl (by simp)) _).setCell (Or.inl (by simp)) _).setCell (Or.inl (by simp)) _).setCell (Or.inl (by simp)) _).setCell (Or.inl (by simp)) _).setCell (Or.inl (by simp)) _)⟩
  | false =>
   rw [hb] at HT2
   rw [if_neg (by simp), if_neg (by simp), if_neg (by simp)]
   clear hb
   go_enter Tryz.func11, Tryz.ntmps11
   go_upto_region 1 with fail
   rw [← hV]
   clear hV
   go_upto_region 4 with (go_at_call 44; refine HM.out.mono ?_; rintro e w2 ⟨rfl, q2, b2⟩; clear k0 k1; obtain ⟨k0, k1, hbj⟩ := HK.out _ b2; have g4 := (HC.out _ q2).f4; have c4 := (HC.out _ q2).c4; have Q2 := hid q2; have B2 := hid b2; clear q2 b2; clear hbj)
   obtain ⟨q3, b3⟩ := HW.out _ Q2.out B2.out
   go_upto_region 5 with fail
   obtain ⟨W3, hW3⟩ : ∃ W3, W3 = w2.setCell ⟨g, 4, none⟩ (.int .i64 n) := ⟨_, rfl⟩
   rw [← hW3] at q3 b3 ⊢
   clear hW3 k0 k1 g4 c4
   obtain ⟨k0, k1, -⟩ := HK.out _ b3
   have Q3 := hid q3
   have B3 := hid b3
   clear q3 b3
   go_upto_region 6 with (go_at_call 45; refine (HT2.out _ Q3.out B3.out).mono ?_; rintro e w4 ⟨a, m, c, rfl, n4, q4, b4⟩; have N4 := hid n4; have Q4 := hid q4; have B4 := hid b4; clear n4 q4 b4 k0 k1)
   obtain ⟨W5, hW5⟩ : ∃ W5, W5 = w4.alloc (.cells #[.int .i64 J2.how, .int .i64 J2.run, .bool J2.bg, .int .i64 J2.o.1, .int .i64 J2.o.2.1, .int .i64 J2.o.2.2.1, .int .i64 J2.o.2.2.2, .slice a m c] 45) := ⟨_, rfl⟩
   have h8 := heap_alloc_new w4 (.cells #[.int .i64 J2.how, .int .i64 J2.run, .bool J2.bg, .int .i64 J2.o.1, .int .i64 J2.o.2.1, .int .i64 J2.o.2.2.1, .int .i64 J2.o.2.2.2, .slice a m c] 45)
   obtain ⟨q5, b5, n5⟩ := HA.out w4 (.cells #[.int .i64 J2.how, .int .i64 J2.run, .bool J2.bg, .int .i64 J2.o.1, .int .i64 J2.o.2.1, .int .i64 J2.o.2.2.1, .int .i64 J2.o.2.2.2, .slice a m c] 45) _ _ _ _ Q4.out B4.out N4.out
   rw [← hW5] at h8 q5 b5 n5 ⊢
   clear hW5
   obtain ⟨k0, k1, -⟩ := HK.out _ b5
   have Q5 := hid q5
   have B5 := hid b5
   clear h8 q5 b5 n5
   go_wp2_with (go_at_call 46; refine (HWt.out _ Q5.out B5.out).mono ?_; rintro e w6 ⟨a6, m6, c6, rfl, n6, q6, b6⟩; obtain ⟨-, -, hbj⟩ := HK.out _ b6; have N6 := hid n6; have Q6 := hid q6; have B6 := hid b6; clear n6 q6 b6; have d0 := cell_at (j := 0) hbj rfl; have d1 := cell_at (j := 1) hbj rfl; have d2 := cell_at (j := 2) hbj rfl; have d3 := cell_at (j := 3) hbj rfl; have d4 := cell_at (j := 4) hbj rfl; have d5 := cell_at (j := 5) hbj rfl; have d6 := cell_at (j := 6) hbj rfl; have d7 := cell_at (j := 7) hbj rfl; have df := froz_at hbj; clear hbj)
   exact bodyPost_ret (v := .tuple #[.agg #[.int .i64 J3.how, .int .i64 J3.run, .bool J3.bg, .int .i64 J3.o.1, .int .i64 J3.o.2.1, .int .i64 J3.o.2.2.1, .int .i64 J3.o.2.2.2, .slice a6 m6 c6], .int .i64 0]) (by simp [results, Tryz.results11, go_sem, d0, d1, d2, d3, d4, d5, d6, d7]) rfl ⟨_, rfl, HF.out _ _ _ _ _ _ Q6.out B6.out N6.out (((((((((Touch.refl _ _).setCell (Or.inl (by simp)) _).setCell (Or.inl (by simp)) _).setCell (Or.inl (by simp)) _).setCell (Or.inl (by simp)) _).setCell (Or.inl (by simp)) _).setCell (Or.inl (by simp)) _).setCell (Or.inl (by simp)) _).setCell (Or.inl (by simp)) _)⟩
end
end Go.Proofs.YtllchnancjgijaaGreat
/- Contracts of Check and the document's Check; no conditions. -/
namespace Go.Proofs.YtllchnancjgijaaGreat.Me
open Go.RowKit Go.Sort Go.Maps Go.ChangeMaps Go.WideMaps
set_option maxHeartbeats 4000000 in
theorem check12 (w : World) (c : Cf) : Calls Tryz.prog 77 #[cv c] w fun e w' => e = .returned (.int .i64 (if okC c then 0 else 100)) ∧ Touch [] w w' := by
 obtain ⟨t, n, s, e, f, b, d⟩ := c
 unfold cv okC
 simp only
 have mn : ∀ (w : World) (ts : Array TypeId) (ty : TypeId), (Builtin.min_ ts ty #[.int .i64 t, .int .i64 n, .int .i64 s, .int .i64 d]).run Tryz.prog w = .ok (.int .i64 (if d < (if s < (if n < t then n else t) then s else (if n < t then n else t)) then d else (if s < (if n < t then n else t) then s else (if n < t then n else t)))) w := fun w ts ty => by simp [Builtin.min_, Builtin.min2]
 have HM : Hid (0 ≤ (if d < (if s < (if n < t then n else t) then s else (if n < t then n else t)) then d else (if s < (if n < t then n else t) then s else (if n < t then n else t))) ↔ 0 ≤ t ∧ 0 ≤ n ∧ 0 ≤ s ∧ 0 ≤ d) := by
  show _ ↔ _
  repeat' split
  all_goals omega
 generalize (if d < (if s < (if n < t then n else t) then s else (if n < t then n else t)) then d else (if s < (if n < t then n else t) then s else (if n < t then n else t))) = M at *
 by_cases h0 : 0 ≤ M
 rotate_left
 ·rw [decide_eq_false (by have := HM.out; omega)]
  go_enter Tryz.func77, Tryz.ntmps77
  go_wp2
  go_ret
  exact ⟨rfl, by repeat (first | exact Touch.refl _ _ | apply Touch.alloc)⟩
 by_cases h1 : 0 ≤ e
 rotate_left
 ·rw [decide_eq_false (by have := HM.out; omega)]
  go_enter Tryz.func77, Tryz.ntmps77
  go_wp2
  go_ret
  exact ⟨rfl, by repeat (first | exact Touch.refl _ _ | apply Touch.alloc)⟩
 by_cases h2 : e ≤ 65536
 rotate_left
 ·rw [decide_eq_false (by have := HM.out; omega)]
  go_enter Tryz.func77, Tryz.ntmps77
  go_wp2
  go_ret
  exact ⟨rfl, by repeat (first | exact Touch.refl _ _ | apply Touch.alloc)⟩
 by_cases h3 : 1 ≤ f
 rotate_left
 ·rw [decide_eq_false (by have := HM.out; omega)]
  go_enter Tryz.func77, Tryz.ntmps77
  go_wp2
  go_ret
  exact ⟨rfl, by repeat (first | exact Touch.refl _ _ | apply Touch.alloc)⟩
 by_cases h4 : f ≤ 4096
 rotate_left
 ·rw [decide_eq_false (by have := HM.out; omega)]
  go_enter Tryz.func77, Tryz.ntmps77
  go_wp2
  go_ret
  exact ⟨rfl, by repeat (first | exact Touch.refl _ _ | apply Touch.alloc)⟩
 by_cases h5 : 1 ≤ b
 rotate_left
 ·rw [decide_eq_false (by have := HM.out; omega)]
  go_enter Tryz.func77, Tryz.ntmps77
  go_wp2
  go_ret
  exact ⟨rfl, by repeat (first | exact Touch.refl _ _ | apply Touch.alloc)⟩
 by_cases h6 : b ≤ 1024
 rotate_left
 ·rw [decide_eq_false (by have := HM.out; omega)]
  go_enter Tryz.func77, Tryz.ntmps77
  go_wp2
  go_ret
  exact ⟨rfl, by repeat (first | exact Touch.refl _ _ | apply Touch.alloc)⟩
 rw [decide_eq_true (by have := HM.out; omega)]
 go_enter Tryz.func77, Tryz.ntmps77
 go_wp2
 go_ret
 exact ⟨rfl, by repeat (first | exact Touch.refl _ _ | apply Touch.alloc)⟩
end Go.Proofs.YtllchnancjgijaaGreat.Me
/- Contracts of New and of awake, and of what a nil memo answers; no conditions but those that each states. -/
namespace Go.Proofs.YtllchnancjgijaaGreat.Me
open Go.RowKit Go.Sort Go.Maps Go.ChangeMaps Go.WideMaps
def cbx (c : Cf) (t : Nat) : Obj := .cells #[.int .i64 c.t, .int .i64 c.n, .int .i64 c.s, .int .i64 c.e, .int .i64 c.f, .int .i64 c.b, .int .i64 c.d] t
structure C7 (w : World) (r : Nat) (c : Cf) : Prop where
 c0 : w.cell? ⟨r, 0, none⟩ = some (.int .i64 c.t)
 c1 : w.cell? ⟨r, 1, none⟩ = some (.int .i64 c.n)
 c2 : w.cell? ⟨r, 2, none⟩ = some (.int .i64 c.s)
 c3 : w.cell? ⟨r, 3, none⟩ = some (.int .i64 c.e)
 c4 : w.cell? ⟨r, 4, none⟩ = some (.int .i64 c.f)
 c5 : w.cell? ⟨r, 5, none⟩ = some (.int .i64 c.b)
 c6 : w.cell? ⟨r, 6, none⟩ = some (.int .i64 c.d)
theorem C7.mk' {w : World} {r t : Nat} {c : Cf} (h : w.heap[r]? = some (cbx c t)) : C7 w r c := by
 unfold cbx at h
 constructor <;> simp [World.cell?, h]
theorem new9_no (w : World) (c : Cf) (hc : okC c = false) : Calls Tryz.prog 38 #[cv c] w fun e w' => e = .returned (.tuple #[.pointer none, .int .i64 100]) ∧ Touch [] w w' := by
 have HC := hid (fun w => check12 w c)
 rw [hc] at HC
 unfold cv at *
 simp only [Bool.false_eq_true, if_false] at HC
 go_enter Tryz.func38, Tryz.ntmps38
 go_wp2_with (go_at_call 77; refine (HC.out _).mono ?_; rintro e w2 ⟨rfl, t2⟩; have T2 := hid t2; clear t2)
 exact bodyPost_ret (v := .tuple #[.pointer none, .int .i64 100]) (by simp [results, Tryz.results38, go_sem]) rfl ⟨rfl, ((Touch.refl _ _).alloc _).trans' T2.out⟩
def NwQ (w : World) (c : Cf) (m : Nat) (w' : World) : Prop := ∃ F, Mq w' m F c 0 [] ∧ (∀ k ∈ F, w.heap.size ≤ k) ∧ Touch [] w w'
set_option maxHeartbeats 1000000 in
theorem new9_ok (w : World) (c : Cf) (hc : okC c = true) (wc : c.t ≤ 9223372036854775807 ∧ c.n ≤ 9223372036854775807 ∧ c.s ≤ 9223372036854775807) :
  Calls Tryz.prog 38 #[cv c] w fun e w' => ∃ m, e = .returned (.tuple #[PT m, .int .i64 0]) ∧ NwQ w c m w' := by
 have HC := hid (fun w => check12 w c)
 rw [hc] at HC
 simp only [if_true] at HC
 obtain ⟨e0, e1⟩ := okC_e hc
 have HO := hid (fun w => new6_ok w c.e e0 e1)
 have TB : Touch [] w (w.alloc (cbx c 23)) := (Touch.refl _ _).alloc _
 have HB : Hid (∀ w2, Touch [] (w.alloc (cbx c 23)) w2 → C7 w2 w.heap.size c) := fun w2 t => C7.mk' (t.keep (heap_alloc_new w (cbx c 23)) (by simp))
 have HE : Hid (∀ w2 w3, Touch [] (w.alloc (cbx c 23)) w2 → Od w3 w2.heap.size none c.e [] → Touch [] w2 w3 → NwQ w c (w3.heap.size + 1) ((w3.alloc (.map #[] 0)).alloc (.cells (mcs c 0 w3.heap.size w2.heap.size) 162))) := fun w2 w3 t2 o3 t3 => by
  have hz2 := t2.size
  have hz3 := t3.size
  rw [World.size_alloc] at hz2
  have t4 : Touch [] w3 ((w3.alloc (.map #[] 0)).alloc (.cells (mcs c 0 w3.heap.size w2.heap.size) 162)) := ((Touch.refl _ _).alloc _).alloc _
  have oq3 : Oq w3 w2.heap.size [w2.heap.size] c.e [] := ⟨none, [], rfl, rfl, o3⟩
  have olt := oq3.lt w2.heap.size (by simp)
  refine ⟨[w3.heap.size + 1, w3.heap.size, w2.heap.size], ⟨w3.heap.size, w2.heap.size, [w2.heap.size], rfl, ?_, ?_, oq3.keep0 t4, ⟨hc, wc, Int.le_refl _, by show (0 : Int) ≤ MT; unfold MT; decide, fun x hx => (by cases hx), by simpa using e0⟩, by simp; omega⟩, fun k hk => ?_, ((TB.trans' t2).trans' t3).trans' t4⟩
  ·have := heap_alloc_new (w3.alloc (.map #[] 0)) (.cells (mcs c 0 w3.heap.size w2.heap.size) 162)
   rw [World.size_alloc] at this
   exact this
  ·refine MapAt.kept (w := w3.alloc (.map #[] 0)) ?_ (Below.heap_alloc _ _ _ (by simp))
   exact (mapAt_made w3).congr (fun _ _ => rfl)
  ·simp only [List.mem_cons, List.not_mem_nil, or_false] at hk
   omega
 have hmm := @run_makeMap Tryz.prog
 clear hc wc e0 e1 TB
 unfold mcs cbx PT at *
 unfold cv at *
 go_enter Tryz.func38, Tryz.ntmps38
 go_wp2_with (first
  | (go_at_call 77; refine (HC.out _).mono ?_; rintro e w2 ⟨rfl, t2⟩; have T2 := hid t2; obtain ⟨c0, c1, c2, c3, c4, c5, c6⟩ := HB.out _ t2; clear t2)
  | (go_at_call 78; refine (HO.out _).mono ?_; rintro e w3 ⟨rfl, o3, t3⟩; have O3 := hid o3; have T3 := hid t3; clear c0 c1 c2 c3 c4 c5 c6; obtain ⟨c0, c1, c2, c3, c4, c5, c6⟩ := HB.out _ (T2.out.trans' t3); clear o3 t3))
 exact bodyPost_ret (v := .tuple #[.pointer (some ⟨w3.heap.size + 1, 0, none⟩), .int .i64 0]) (by simp [results, Tryz.results38, go_sem]) rfl ⟨_, rfl, HE.out _ _ T2.out O3.out T3.out⟩
section
end
end Go.Proofs.YtllchnancjgijaaGreat.Me
/- The contract of New, and that a run is begun. -/
namespace Go.Proofs.YtllchnancjgijaaGreat.Ta
open Go.RowKit Go.Maps Go.ChangeMaps
def T0 (f : Int) : Tb := ⟨f, 0, [], fun _ => 0⟩
def mayF' (f : Int) : Bool := decide (1 ≤ f) && decide (f ≤ 4096)
theorem tm_new (w : World) {f : Int} (h1 : 1 ≤ f) (h2 : f ≤ 4096) : Tm (((w.alloc (.map #[] 0)).alloc (.map #[] 0)).alloc (.cells #[.int .i64 f, .int .i64 0, .map (some w.heap.size), .map (some (w.heap.size + 1)), .map none] 204)) (w.heap.size + 1 + 1) w.heap.size (w.heap.size + 1) none 0 0 [] (T0 f) 0 := by
 refine ⟨rfl, ?_, ?_, ?_, Or.inl ⟨rfl, fun _ => rfl⟩, by omega, by simp, by simp, Nat.le_refl _, Nat.le_refl _, fun q hq => (by cases hq), fun q hq => (by cases hq), List.Pairwise.nil, tv_new h1 h2⟩
 ·have := heap_alloc_new ((w.alloc (.map #[] 0)).alloc (.map #[] 0)) (.cells #[.int .i64 f, .int .i64 0, .map (some w.heap.size), .map (some (w.heap.size + 1)), .map none] 204)
  simp only [World.size_alloc] at this
  exact this
 ·refine MapK.congr (f := fun _ => none) ?_ (fun n _ => rfl)
  exact ((mapK_made KI w).keep (((Touch.refl [] _).alloc _).alloc _) (by simp))
 ·refine MapK.congr (f := fun _ => none) ?_ (fun n _ => rfl)
  have := (mapK_made KC (w.alloc (.map #[] 0))).keep ((Touch.refl [] _).alloc (.cells #[.int .i64 f, .int .i64 0, .map (some w.heap.size), .map (some (w.heap.size + 1)), .map none] 204)) (by simp)
  rw [World.size_alloc] at this
  exact this
section
variable (w : World)
def TnE (e : Ending) (w w' : World) (f : Int) : Prop := ∃ t F, e = .returned (.tuple #[PT t, .int .i64 0]) ∧ Tq w' t F (T0 f) 0 ∧ Touch [] w w' ∧ ∀ d, d ∈ F → w.heap.size ≤ d
theorem newT_ok (f : Int) (h : mayF' f = true) : Calls Tryz.prog 80 #[.int .i64 f] w fun e w' => TnE e w w' f := by
 unfold mayF' at h
 simp only [Bool.and_eq_true, decide_eq_true_eq] at h
 obtain ⟨h1, h2⟩ := h
 have HX : Hid (TnE (.returned (.tuple #[PT (w.heap.size + 1 + 1), .int .i64 0])) w (((w.alloc (.map #[] 0)).alloc (.map #[] 0)).alloc (.cells #[.int .i64 f, .int .i64 0, .map (some w.heap.size), .map (some (w.heap.size + 1)), .map none] 204)) f) :=
  ⟨_, _, rfl, ⟨_, _, _, _, _, _, rfl, tm_new w h1 h2, fun p hp => (by cases hp)⟩, (((Touch.refl _ _).alloc _).alloc _).alloc _, fun d hd => by
   rcases mem_fpT.1 hd with e | e | e | e | ⟨q, hq, _⟩
   ·omega
   ·omega
   ·omega
   ·cases e
   ·cases hq⟩
 unfold PT at HX
 have hmm := @run_makeMap Tryz.prog
 have g1 : (f < 1) = False := by simp; omega
 have g2 : (4096 < f) = False := by simp; omega
 clear h1 h2
 go_enter Tryz.func80, Tryz.ntmps80
 go_wp2
 exact bodyPost_ret (v := .tuple #[.pointer (some ⟨w.heap.size + 1 + 1, 0, none⟩), .int .i64 0]) (by simp [results, Tryz.results80, go_sem]) rfl HX.out
end
end Go.Proofs.YtllchnancjgijaaGreat.Ta
