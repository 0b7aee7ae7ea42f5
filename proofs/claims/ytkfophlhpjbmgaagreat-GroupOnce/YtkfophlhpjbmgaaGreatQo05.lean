/- The walk of put; a key's name has at most 64 bytes. -/
import Derived.Test.YtkfophlhpjbmgaaGreatQo04
set_option linter.unusedVariables false
set_option linter.unusedSimpArgs false
set_option maxRecDepth 100000
namespace Go.Proofs.YtkfophlhpjbmgaaGreat.Me
open Go.RowKit Go.Sort Go.Maps Go.ChangeMaps Go.WideMaps
set_option maxHeartbeats 4000000 in
theorem put41_no (w : World) (m b o : Nat) (G : List Nat) (c : Cf) (now : Int) (xs : List En) (h : Mb w m b o G c now xs) (k : K) (hk : Ok k) (h64 : k.2.size ≤ 64) (v : V) (hv : right v.1 = true ∧ 0 ≤ v.2 ∧ v.2 ≤ now) (hb : useB c.e (keysL xs) k = false) :
  Calls Tryz.prog 99 #[PT m, kv k, ev v] w fun e w' => ∃ u, e = .returned u ∧ RT 38 w' u (goneL c.e xs k) ∧ Mc w m (m :: b :: G) c now (putL c.e xs k v) w' := by
 obtain ⟨V, hV⟩ : ∃ V, V = (w.alloc (bx k)).alloc (ebx v) := ⟨_, rfl⟩
 have TV : Touch [] w V := by rw [hV]; exact ((Touch.refl _ _).alloc _).alloc _
 have hB : V.heap[w.heap.size]? = some (bx k) := by rw [hV]; exact (Below.heap_alloc _ _ _ (by simp)).trans (heap_alloc_new w _)
 have hE : V.heap[w.heap.size + 1]? = some (ebx v) := by
  rw [hV]
  have := heap_alloc_new (w.alloc (bx k)) (ebx v)
  rwa [World.size_alloc] at this
 have hV' := h.keep0 TV
 obtain ⟨ob, hu, hmp⟩ := (show MapAt V.drew b _ _ from hV'.mp.kept rfl).set (t := 152) Tryz.underlying152 (maxLen_big (by have := h.len; omega)) hk (ev v)
 obtain ⟨W1, hW⟩ : ∃ W1, W1 = setBlock V.drew b ob := ⟨_, rfl⟩
 rw [← hW] at hu hmp
 have T1 : Touch [b] V W1 := by rw [hW]; exact touch_setBlock ((Touch.refl _ _).drew) (Or.inl (by simp)) _
 have hlt := h.lt
 have hbl := hlt b (by simp)
 have O1 : Oq W1 o G c.e (keysL xs) := hV'.oq.keep T1 (fun i hi hh => by simp only [List.mem_singleton] at hh; subst hh; exact h.bg hi)
 have m1 : Md W1 m c now b o := T1.keep hV'.md (by simpa using h.mb.symm)
 have B1 : W1.heap[w.heap.size]? = some (bx k) := T1.keep hB (by simp; omega)
 have hz1 : w.heap.size + 2 ≤ W1.heap.size := by have := T1.size; have := block_lt hE; omega
 have sA : ∀ w', Touch G W1 w' → w'.cell? ⟨m, 9, none⟩ = some (.pointer (some ⟨o, 0, none⟩)) := fun w' t => (show Md w' m c now b o from t.keep m1 h.mg).cs.c9
 have sB : ∀ w', Touch G W1 w' → w'.cell? ⟨w.heap.size, 0, none⟩ = some (.int .u16 k.1) := fun w' t => by
  have := t.keep B1 (fun hh => by have := hlt w.heap.size (by simp [hh]); omega)
  unfold bx at this
  simp [World.cell?, this]
 have sC : ∀ w', Touch G W1 w' → w'.cell? ⟨w.heap.size, 1, none⟩ = some (.string k.2) := fun w' t => by
  have := t.keep B1 (fun hh => by have := hlt w.heap.size (by simp [hh]); omega)
  unfold bx at this
  simp [World.cell?, this]
 have HU : Hid (∀ w2, Touch [] W1 w2 → Calls Tryz.prog 138 #[PT o, kv k] w2 fun e w' => e = .returned (.tuple #[kv (useG c.e (keysL xs) k), .bool false, .int .i64 0]) ∧ Ch w2 o G c.e (useL c.e (keysL xs) k) w') := fun w2 t => by
  have := useO w2 o G c.e (keysL xs) k hk h64 (by rw [keysL_len]; have := h.len; omega) (O1.keep0 t)
  rw [hb] at this
  exact this
 have HP : Hid (∀ w2 w3 W, Touch [] W1 w2 → Ch w2 o G c.e (useL c.e (keysL xs) k) w3 → (Touch [] w3 W ∨ ∃ q, Touch [q] w3 W ∧ W1.heap.size ≤ q ∧ q < w2.heap.size) → Pm w m b o G c now xs k v W) := fun w2 w3 W t2 c3 t4 => put_mid h TV hW hmp t2 c3 t4
 have HQ : Hid (∀ w2 w3, w2.heap[W1.heap.size]? = some (bx kz) → Ch w2 o G c.e (useL c.e (keysL xs) k) w3 → w3.heap[W1.heap.size]? = some (bx kz)) := fun w2 w3 q c3 => c3.block q (fun hh => by have := hlt W1.heap.size (by simp [hh]); omega)
 have c8 : V.cell? ⟨m, 8, none⟩ = some (.map (some b)) := hV'.md.cs.c8
 unfold bx at hB
 unfold ebx at hE
 have b0 : V.cell? ⟨w.heap.size, 0, none⟩ = some (.int .u16 k.1) := by simp [World.cell?, hB]
 have b1 : V.cell? ⟨w.heap.size, 1, none⟩ = some (.string k.2) := by simp [World.cell?, hB]
 have e0 : V.cell? ⟨w.heap.size + 1, 0, none⟩ = some (.int .i64 v.1.1) := by simp [World.cell?, hE]
 have e1 : V.cell? ⟨w.heap.size + 1, 1, none⟩ = some (.int .i64 v.1.2.1) := by simp [World.cell?, hE]
 have e2 : V.cell? ⟨w.heap.size + 1, 2, none⟩ = some (.int .i64 v.1.2.2.1) := by simp [World.cell?, hE]
 have e3 : V.cell? ⟨w.heap.size + 1, 3, none⟩ = some (.int .i64 v.1.2.2.2) := by simp [World.cell?, hE]
 have e4 : V.cell? ⟨w.heap.size + 1, 4, none⟩ = some (.int .i64 v.2) := by simp [World.cell?, hE]
 have tA : Hid (Touch [] W1 (W1.alloc (bx kz)).drew) := ((Touch.refl _ _).alloc _).drew
 have qA : Hid ((W1.alloc (bx kz)).drew.heap[W1.heap.size]? = some (bx kz)) := heap_alloc_new W1 _
 have tB : Hid (Touch [] W1 W1.drew) := (Touch.refl _ _).drew
 have SA : Hid (∀ w2 w3, Touch [] W1 w2 → Ch w2 o G c.e (useL c.e (keysL xs) k) w3 → Touch G W1 w3) := fun w2 w3 t c3 => by
  obtain ⟨G', c1, c2, c4⟩ := c3
  exact (t.mono (fun _ e => by cases e)).trans' c2
 have HEnd : Hid (∀ W, Pm w m b o G c now xs k v W → Mc w m (m :: b :: G) c now (putL c.e xs k v) W) := fun W p => p.end1 h.nd h.gd hv hb
 have hgo : goneL c.e xs k = [] := by unfold goneL; rw [hb]; rfl
 rw [hgo]
 have hbb : b < W1.heap.size := by omega
 clear h hV' hmp T1 O1 m1 B1 hB hE hW hv hk h64 hb hgo TV
 generalize useG c.e (keysL xs) k = g at *
 generalize useL c.e (keysL xs) k = ys at *
 generalize putL c.e xs k v = zs at *
 unfold PT kv ev at *
 unfold bx at HQ tA qA
 unfold kz at HQ tA qA
 go_enter Tryz.func99, Tryz.ntmps99
 go_wp2
 unfold bx ebx at hV
 rw [← hV]
 clear hV
 go_region
 clear b0 b1 e0 e1 e2 e3 e4 c8 hu
 go_upto_region 2 with fail
 go_region_held3 (fun w' => Touch G W1 w') (repeat (first | assumption | exact Touch.refl _ _ | apply Touch.alloc | apply Touch.drew | (refine Touch.setCell ?_ (Or.inr (by simp)) _)))
  (first
   | (go_at_call 138; refine (HU.out _ tA.out).mono ?_; rintro e w3 ⟨rfl, c3⟩; have s3 := SA.out _ _ tA.out c3; have hq := HQ.out _ _ qA.out c3; have y0 : w3.cell? ⟨W1.heap.size, 0, none⟩ = some (.int .u16 0) := (by simp [World.cell?, hq]); have y1 : w3.cell? ⟨W1.heap.size, 1, none⟩ = some (.string ⟨#[]⟩) := (by simp [World.cell?, hq]); have y2 : w3.frozen? ⟨W1.heap.size, 0, none⟩ = false := (by simp [World.frozen?, hq]); have y3 : w3.frozen? ⟨W1.heap.size, 1, none⟩ = false := (by simp [World.frozen?, hq]); have C3 := hid c3; clear c3)
   | (go_at_call 138; refine (HU.out _ tB.out).mono ?_; rintro e w3 ⟨rfl, c3⟩; have s3 := SA.out _ _ tB.out c3; have C3 := hid c3; clear c3))
 ·clear sA sB sC
  obtain ⟨W, hWd⟩ : ∃ W, W = w3.alloc (.cells #[.int .u16 g.1, .string g.2] 38) := ⟨_, rfl⟩
  have P := hid (HP.out _ _ W tB.out C3.out (Or.inl (by rw [hWd]; exact (Touch.refl _ _).alloc _)))
  have hqq : W.heap[w3.heap.size]? = some (.cells #[.int .u16 g.1, .string g.2] 38 (0, 0)) := by rw [hWd]; exact heap_alloc_new w3 _
  have hqb : w3.heap.size ≠ b := by have := s3.size; omega
  rw [← hWd]
  clear hWd s3
  generalize w3.heap.size = q at *
  go_wp2
  go_ret
  exact ⟨_, rfl, RT.nil _ _, HEnd.out _ P.out⟩
 ·clear sA sB sC
  obtain ⟨W, hWd⟩ : ∃ W, W = (w3.setCell ⟨W1.heap.size, 0, none⟩ (.int .u16 g.1)).setCell ⟨W1.heap.size, 1, none⟩ (.string g.2) := ⟨_, rfl⟩
  have P := hid (HP.out _ _ W tA.out C3.out (Or.inr ⟨W1.heap.size, by rw [hWd]; exact tset2 _ _ _ _, Nat.le_refl _, block_lt qA.out⟩))
  have hqq : W.heap[W1.heap.size]? = some (.cells #[.int .u16 g.1, .string g.2] 38 (0, 0)) := by rw [hWd]; exact bset (bset hq _) _
  have hqb : W1.heap.size ≠ b := by omega
  rw [← hWd]
  clear hWd s3 y0 y1 y2 y3 hq
  clear tA qA HQ tB SA HU HP C3
  generalize W1.heap.size = q at *
  go_wp2
  go_ret
  exact ⟨_, rfl, RT.nil _ _, HEnd.out _ P.out⟩
set_option maxHeartbeats 4000000 in
theorem put41_go (w : World) (m b o : Nat) (G : List Nat) (c : Cf) (now : Int) (xs : List En) (h : Mb w m b o G c now xs) (k : K) (hk : Ok k) (h64 : k.2.size ≤ 64) (v : V) (hv : right v.1 = true ∧ 0 ≤ v.2 ∧ v.2 ≤ now) (hb : useB c.e (keysL xs) k = true) :
  Calls Tryz.prog 99 #[PT m, kv k, ev v] w fun e w' => ∃ u, e = .returned u ∧ RT 38 w' u (goneL c.e xs k) ∧ Mc w m (m :: b :: G) c now (putL c.e xs k v) w' := by
 obtain ⟨V, hV⟩ : ∃ V, V = (w.alloc (bx k)).alloc (ebx v) := ⟨_, rfl⟩
 have TV : Touch [] w V := by rw [hV]; exact ((Touch.refl _ _).alloc _).alloc _
 have hB : V.heap[w.heap.size]? = some (bx k) := by rw [hV]; exact (Below.heap_alloc _ _ _ (by simp)).trans (heap_alloc_new w _)
 have hE : V.heap[w.heap.size + 1]? = some (ebx v) := by
  rw [hV]
  have := heap_alloc_new (w.alloc (bx k)) (ebx v)
  rwa [World.size_alloc] at this
 have hV' := h.keep0 TV
 obtain ⟨ob, hu, hmp⟩ := (show MapAt V.drew b _ _ from hV'.mp.kept rfl).set (t := 152) Tryz.underlying152 (maxLen_big (by have := h.len; omega)) hk (ev v)
 obtain ⟨W1, hW⟩ : ∃ W1, W1 = setBlock V.drew b ob := ⟨_, rfl⟩
 rw [← hW] at hu hmp
 have T1 : Touch [b] V W1 := by rw [hW]; exact touch_setBlock ((Touch.refl _ _).drew) (Or.inl (by simp)) _
 have hlt := h.lt
 have hbl := hlt b (by simp)
 have O1 : Oq W1 o G c.e (keysL xs) := hV'.oq.keep T1 (fun i hi hh => by simp only [List.mem_singleton] at hh; subst hh; exact h.bg hi)
 have m1 : Md W1 m c now b o := T1.keep hV'.md (by simpa using h.mb.symm)
 have B1 : W1.heap[w.heap.size]? = some (bx k) := T1.keep hB (by simp; omega)
 have hz1 : w.heap.size + 2 ≤ W1.heap.size := by have := T1.size; have := block_lt hE; omega
 have sA : ∀ w', Touch G W1 w' → w'.cell? ⟨m, 9, none⟩ = some (.pointer (some ⟨o, 0, none⟩)) := fun w' t => (show Md w' m c now b o from t.keep m1 h.mg).cs.c9
 have sB : ∀ w', Touch G W1 w' → w'.cell? ⟨w.heap.size, 0, none⟩ = some (.int .u16 k.1) := fun w' t => by
  have := t.keep B1 (fun hh => by have := hlt w.heap.size (by simp [hh]); omega)
  unfold bx at this
  simp [World.cell?, this]
 have sC : ∀ w', Touch G W1 w' → w'.cell? ⟨w.heap.size, 1, none⟩ = some (.string k.2) := fun w' t => by
  have := t.keep B1 (fun hh => by have := hlt w.heap.size (by simp [hh]); omega)
  unfold bx at this
  simp [World.cell?, this]
 have HU : Hid (∀ w2, Touch [] W1 w2 → Calls Tryz.prog 138 #[PT o, kv k] w2 fun e w' => e = .returned (.tuple #[kv (useG c.e (keysL xs) k), .bool true, .int .i64 0]) ∧ Ch w2 o G c.e (useL c.e (keysL xs) k) w') := fun w2 t => by
  have := useO w2 o G c.e (keysL xs) k hk h64 (by rw [keysL_len]; have := h.len; omega) (O1.keep0 t)
  rw [hb] at this
  exact this
 have HP : Hid (∀ w2 w3 W, Touch [] W1 w2 → Ch w2 o G c.e (useL c.e (keysL xs) k) w3 → (Touch [] w3 W ∨ ∃ q, Touch [q] w3 W ∧ W1.heap.size ≤ q ∧ q < w2.heap.size) → Pm w m b o G c now xs k v W) := fun w2 w3 W t2 c3 t4 => put_mid h TV hW hmp t2 c3 t4
 have HQ : Hid (∀ w2 w3, w2.heap[W1.heap.size]? = some (bx kz) → Ch w2 o G c.e (useL c.e (keysL xs) k) w3 → w3.heap[W1.heap.size]? = some (bx kz)) := fun w2 w3 q c3 => c3.block q (fun hh => by have := hlt W1.heap.size (by simp [hh]); omega)
 have c8 : V.cell? ⟨m, 8, none⟩ = some (.map (some b)) := hV'.md.cs.c8
 unfold bx at hB
 unfold ebx at hE
 have b0 : V.cell? ⟨w.heap.size, 0, none⟩ = some (.int .u16 k.1) := by simp [World.cell?, hB]
 have b1 : V.cell? ⟨w.heap.size, 1, none⟩ = some (.string k.2) := by simp [World.cell?, hB]
 have e0 : V.cell? ⟨w.heap.size + 1, 0, none⟩ = some (.int .i64 v.1.1) := by simp [World.cell?, hE]
 have e1 : V.cell? ⟨w.heap.size + 1, 1, none⟩ = some (.int .i64 v.1.2.1) := by simp [World.cell?, hE]
 have e2 : V.cell? ⟨w.heap.size + 1, 2, none⟩ = some (.int .i64 v.1.2.2.1) := by simp [World.cell?, hE]
 have e3 : V.cell? ⟨w.heap.size + 1, 3, none⟩ = some (.int .i64 v.1.2.2.2) := by simp [World.cell?, hE]
 have e4 : V.cell? ⟨w.heap.size + 1, 4, none⟩ = some (.int .i64 v.2) := by simp [World.cell?, hE]
 have tA : Hid (Touch [] W1 (W1.alloc (bx kz)).drew) := ((Touch.refl _ _).alloc _).drew
 have qA : Hid ((W1.alloc (bx kz)).drew.heap[W1.heap.size]? = some (bx kz)) := heap_alloc_new W1 _
 have tB : Hid (Touch [] W1 W1.drew) := (Touch.refl _ _).drew
 have SA : Hid (∀ w2 w3, Touch [] W1 w2 → Ch w2 o G c.e (useL c.e (keysL xs) k) w3 → Touch G W1 w3) := fun w2 w3 t c3 => by
  obtain ⟨G', c1, c2, c4⟩ := c3
  exact (t.mono (fun _ e => by cases e)).trans' c2
 have HEnd : Hid (∀ W, Pm w m b o G c now xs k v W → (W.cell? ⟨m, 8, none⟩ = some (.map (some b)) ∧ W.cell? ⟨m, 8, none⟩ = some (.map (some b))) ∧ ∀ ty, ∃ ob, (Builtin.delete_ #[152, 38] ty #[.map (some b), kv (useG c.e (keysL xs) k)]).run Tryz.prog W.drew = .ok (.tuple #[]) (setBlock W.drew b ob) ∧ b ≠ w.heap.size ∧ Mc w m (m :: b :: G) c now (putL c.e xs k v) (setBlock W.drew b ob)) := fun W p => by
  refine ⟨⟨p.md.cs.c8, p.md.cs.c8⟩, fun ty => ?_⟩
  obtain ⟨ob2, u1, u2⟩ := p.end2 h.nd h.ok hk h.gd hv hb ty
  exact ⟨ob2, u1, by omega, u2⟩
 have hgo : goneL c.e xs k = [useG c.e (keysL xs) k] := by unfold goneL; rw [hb]; rfl
 rw [hgo]
 have hbb : b < W1.heap.size := by omega
 clear h hV' hmp T1 O1 m1 B1 hB hE hW hv hk h64 hb hgo TV
 generalize useG c.e (keysL xs) k = g at *
 generalize useL c.e (keysL xs) k = ys at *
 generalize putL c.e xs k v = zs at *
 unfold PT kv ev at *
 unfold bx at HQ tA qA
 unfold kz at HQ tA qA
 go_enter Tryz.func99, Tryz.ntmps99
 go_wp2
 unfold bx ebx at hV
 rw [← hV]
 clear hV
 go_region
 clear b0 b1 e0 e1 e2 e3 e4 c8 hu
 go_upto_region 2 with fail
 go_region_held3 (fun w' => Touch G W1 w') (repeat (first | assumption | exact Touch.refl _ _ | apply Touch.alloc | apply Touch.drew | (refine Touch.setCell ?_ (Or.inr (by simp)) _)))
  (first
   | (go_at_call 138; refine (HU.out _ tA.out).mono ?_; rintro e w3 ⟨rfl, c3⟩; have s3 := SA.out _ _ tA.out c3; have hq := HQ.out _ _ qA.out c3; have y0 : w3.cell? ⟨W1.heap.size, 0, none⟩ = some (.int .u16 0) := (by simp [World.cell?, hq]); have y1 : w3.cell? ⟨W1.heap.size, 1, none⟩ = some (.string ⟨#[]⟩) := (by simp [World.cell?, hq]); have y2 : w3.frozen? ⟨W1.heap.size, 0, none⟩ = false := (by simp [World.frozen?, hq]); have y3 : w3.frozen? ⟨W1.heap.size, 1, none⟩ = false := (by simp [World.frozen?, hq]); have C3 := hid c3; clear c3)
   | (go_at_call 138; refine (HU.out _ tB.out).mono ?_; rintro e w3 ⟨rfl, c3⟩; have s3 := SA.out _ _ tB.out c3; have C3 := hid c3; clear c3))
 ·clear sA sB sC
  obtain ⟨W, hWd⟩ : ∃ W, W = w3.alloc (.cells #[.int .u16 g.1, .string g.2] 38) := ⟨_, rfl⟩
  have P := hid (HP.out _ _ W tB.out C3.out (Or.inl (by rw [hWd]; exact (Touch.refl _ _).alloc _)))
  have hqq : W.heap[w3.heap.size]? = some (.cells #[.int .u16 g.1, .string g.2] 38 (0, 0)) := by rw [hWd]; exact heap_alloc_new w3 _
  have hqb : w3.heap.size ≠ b := by have := s3.size; omega
  rw [← hWd]
  clear hWd s3
  generalize w3.heap.size = q at *
  obtain ⟨⟨c8, _⟩, hdel⟩ := HEnd.out W P.out
  obtain ⟨ob2, hu2, _, hmc⟩ := hdel 0
  have q0 : W.cell? ⟨q, 0, none⟩ = some (.int .u16 g.1) := by simp [World.cell?, hqq]
  have q1 : W.cell? ⟨q, 1, none⟩ = some (.string g.2) := by simp [World.cell?, hqq]
  obtain ⟨W4, hW4⟩ : ∃ W4, W4 = setBlock W.drew b ob2 := ⟨_, rfl⟩
  rw [← hW4] at hu2 hmc
  have k0 : W4.cell? ⟨q, 0, none⟩ = some (.int .u16 g.1) := by rw [hW4, cell_setBlock _ hqb]; exact q0
  have k1 : W4.cell? ⟨q, 1, none⟩ = some (.string g.2) := by rw [hW4, cell_setBlock _ hqb]; exact q1
  have HM := hid hmc
  clear hdel hW4 hmc hqq
  go_upto_region 5 with fail
  go_region
  clear q0 q1 c8
  go_wp2
  go_ret
  exact ⟨_, rfl, RT.one (heap_alloc_new W4 _), HM.out.keep0 ((Touch.refl _ _).alloc _)⟩
 ·clear sA sB sC
  obtain ⟨W, hWd⟩ : ∃ W, W = (w3.setCell ⟨W1.heap.size, 0, none⟩ (.int .u16 g.1)).setCell ⟨W1.heap.size, 1, none⟩ (.string g.2) := ⟨_, rfl⟩
  have P := hid (HP.out _ _ W tA.out C3.out (Or.inr ⟨W1.heap.size, by rw [hWd]; exact tset2 _ _ _ _, Nat.le_refl _, block_lt qA.out⟩))
  have hqq : W.heap[W1.heap.size]? = some (.cells #[.int .u16 g.1, .string g.2] 38 (0, 0)) := by rw [hWd]; exact bset (bset hq _) _
  have hqb : W1.heap.size ≠ b := by omega
  rw [← hWd]
  clear hWd s3 y0 y1 y2 y3 hq
  clear tA qA HQ tB SA HU HP C3
  generalize W1.heap.size = q at *
  obtain ⟨⟨c8, _⟩, hdel⟩ := HEnd.out W P.out
  obtain ⟨ob2, hu2, _, hmc⟩ := hdel 0
  have q0 : W.cell? ⟨q, 0, none⟩ = some (.int .u16 g.1) := by simp [World.cell?, hqq]
  have q1 : W.cell? ⟨q, 1, none⟩ = some (.string g.2) := by simp [World.cell?, hqq]
  obtain ⟨W4, hW4⟩ : ∃ W4, W4 = setBlock W.drew b ob2 := ⟨_, rfl⟩
  rw [← hW4] at hu2 hmc
  have k0 : W4.cell? ⟨q, 0, none⟩ = some (.int .u16 g.1) := by rw [hW4, cell_setBlock _ hqb]; exact q0
  have k1 : W4.cell? ⟨q, 1, none⟩ = some (.string g.2) := by rw [hW4, cell_setBlock _ hqb]; exact q1
  have HM := hid hmc
  clear hdel hW4 hmc hqq
  go_upto_region 5 with fail
  go_region
  clear q0 q1 c8
  go_wp2
  go_ret
  exact ⟨_, rfl, RT.one (heap_alloc_new W4 _), HM.out.keep0 ((Touch.refl _ _).alloc _)⟩
theorem putM (w : World) (m : Nat) (F : List Nat) (c : Cf) (now : Int) (xs : List En) (h : Mq w m F c now xs) (k : K) (hk : Ok k) (h64 : k.2.size ≤ 64) (v : V) (hv : right v.1 = true ∧ 0 ≤ v.2 ∧ v.2 ≤ now) :
  Calls Tryz.prog 99 #[PT m, kv k, ev v] w fun e w' => ∃ u, e = .returned u ∧ RT 38 w' u (goneL c.e xs k) ∧ Mc w m F c now (putL c.e xs k v) w' := by
 obtain ⟨b, o, G, rfl, h⟩ := h
 cases hb : useB c.e (keysL xs) k with
 | false => exact put41_no w m b o G c now xs h k hk h64 v hv hb
 | true => exact put41_go w m b o G c now xs h k hk h64 v hv hb
end Go.Proofs.YtkfophlhpjbmgaaGreat.Me
/- The contract of Keep; a key's space is a number of 16 bits, a name's length fits. -/
namespace Go.Proofs.YtkfophlhpjbmgaaGreat.Me
open Go.RowKit Go.Sort Go.Maps Go.ChangeMaps Go.WideMaps
def obx (x : O) : Obj := .cells #[.int .i64 x.1, .int .i64 x.2.1, .int .i64 x.2.2.1, .int .i64 x.2.2.2] 42
theorem pairE_ok {k : K} {x : O} (h : pairE k x = 0) : k.2.size ≤ 64 ∧ right x = true := by
 unfold pairE at h
 split at h
 ·omega
 ·split at h
  ·exact ⟨by omega, by assumption⟩
  ·omega
def keepE (now n : Int) (k : K) (x : O) : Int := if tickE now n = 0 then pairE k x else tickE now n
def kpB (c : Cf) (now n : Int) (k : K) (x : O) : Bool := decide (keepE now n k x = 0) && keepsC c x
def kpG (c : Cf) (now n : Int) (xs : List En) (k : K) (x : O) : List K := if kpB c now n k x then goneL c.e xs k else []
def kpN (now n : Int) (k : K) (x : O) : Int := if keepE now n k x = 0 then n else now
def kpX (c : Cf) (now n : Int) (xs : List En) (k : K) (x : O) : List En := if kpB c now n k x then putL c.e xs k (x, n) else xs
structure KpV (w : World) (k : K) (x : O) (V : World) : Prop where
 t : Touch [] w V
 hB : V.heap[w.heap.size]? = some (bx k)
 hO : V.heap[w.heap.size + 1]? = some (obx x)
theorem KpV.mk' (w : World) (k : K) (x : O) : KpV w k x ((w.alloc (bx k)).alloc (obx x)) :=
 ⟨((Touch.refl _ _).alloc _).alloc _, (Below.heap_alloc _ _ _ (by simp)).trans (heap_alloc_new w _), by
  have := heap_alloc_new (w.alloc (bx k)) (obx x)
  rwa [World.size_alloc] at this⟩
theorem KpV.cells {w V w2 : World} {k : K} {x : O} {F : List Nat} (h : KpV w k x V) (t : Touch F V w2) (hF : ∀ i ∈ F, i < w.heap.size) : (w2.cell? ⟨w.heap.size, 0, none⟩ = some (.int .u16 k.1) ∧ w2.cell? ⟨w.heap.size, 1, none⟩ = some (.string k.2)) ∧ w2.cell? ⟨w.heap.size + 1, 0, none⟩ = some (.int .i64 x.1) ∧ w2.cell? ⟨w.heap.size + 1, 1, none⟩ = some (.int .i64 x.2.1) ∧ w2.cell? ⟨w.heap.size + 1, 2, none⟩ = some (.int .i64 x.2.2.1) ∧ w2.cell? ⟨w.heap.size + 1, 3, none⟩ = some (.int .i64 x.2.2.2) := by
 have h1 := t.keep h.hB (fun hh => by have := hF _ hh; omega)
 have h2 := t.keep h.hO (fun hh => by have := hF _ hh; omega)
 unfold bx at h1
 unfold obx at h2
 simp [World.cell?, h1, h2]
theorem keep18_tick (w : World) (m : Nat) (F : List Nat) (c : Cf) (now n : Int) (xs : List En) (h : Mq w m F c now xs) (k : K) (x : O) (ht : tickE now n ≠ 0) :
  Calls Tryz.prog 48 #[PT m, .int .i64 n, kv k, ov x] w fun e w' => e = .returned (.tuple #[.bool false, .slice none 0 0, .int .i64 (tickE now n)]) ∧ Touch [] w w' := by
 obtain ⟨V, hV⟩ : ∃ V, V = (w.alloc (bx k)).alloc (obx x) := ⟨_, rfl⟩
 have TV : Hid (Touch [] w V) := by rw [hV]; exact (KpV.mk' w k x).t
 have HT := hid ((h.keep0 TV.out).tick n)
 clear h
 have hb : ((tickE now n) == 0) = false := by simp [ht]
 clear ht
 generalize tickE now n = E at *
 unfold PT kv ov at *
 go_enter Tryz.func48, Tryz.ntmps48
 go_upto_region 1 with fail
 unfold bx obx at hV
 rw [← hV]
 clear hV
 go_wp2_with (go_at_call 96; refine HT.out.mono ?_; rintro e w2 ⟨rfl, e2⟩; rw [e2]; clear e2 w2)
 exact bodyPost_ret (v := .tuple #[.bool false, .slice none 0 0, .int .i64 E]) (by simp [results, Tryz.results48, go_sem]) rfl ⟨rfl, TV.out⟩
theorem keep18_pair (w : World) (m : Nat) (F : List Nat) (c : Cf) (now n : Int) (xs : List En) (h : Mq w m F c now xs) (k : K) (x : O) (ht : tickE now n = 0) (hp : pairE k x ≠ 0) :
  Calls Tryz.prog 48 #[PT m, .int .i64 n, kv k, ov x] w fun e w' => e = .returned (.tuple #[.bool false, .slice none 0 0, .int .i64 (pairE k x)]) ∧ Touch [] w w' := by
 obtain ⟨V, hV⟩ : ∃ V, V = (w.alloc (bx k)).alloc (obx x) := ⟨_, rfl⟩
 have KV : KpV w k x V := by rw [hV]; exact KpV.mk' w k x
 have TV := hid KV.t
 have HT := hid ((h.keep0 TV.out).tick n)
 rw [ht] at HT
 have HP := hid (pair46 V k x)
 obtain ⟨⟨b0, b1⟩, o0, o1, o2, o3⟩ := KV.cells (Touch.refl [] V) (fun _ e => by cases e)
 clear h ht KV
 have hb : ((pairE k x) == 0) = false := by simp [hp]
 clear hp
 generalize pairE k x = E at *
 unfold PT kv ov at *
 go_enter Tryz.func48, Tryz.ntmps48
 go_upto_region 1 with fail
 unfold bx obx at hV
 rw [← hV]
 clear hV
 go_wp2_with (first
  | (go_at_call 96; refine HT.out.mono ?_; rintro e w2 ⟨rfl, e2⟩; rw [e2]; clear e2 w2)
  | (go_at_call 97; refine HP.out.mono ?_; rintro e w3 ⟨rfl, t3⟩; have T3 := hid t3; clear t3))
 exact bodyPost_ret (v := .tuple #[.bool false, .slice none 0 0, .int .i64 E]) (by simp [results, Tryz.results48, go_sem]) rfl ⟨rfl, TV.out.trans' T3.out⟩
theorem Mq.keeps {w : World} {m : Nat} {F : List Nat} {c : Cf} {now : Int} {xs : List En} (h : Mq w m F c now xs) (x : O) : Calls Tryz.prog 98 #[PT m, ov x] w fun e w' => e = .returned (.bool (keepsC c x)) ∧ Touch [] w w' := by
 obtain ⟨b, o, G, rfl, h⟩ := h
 exact keeps47 w m c now b o h.md x
set_option maxHeartbeats 1000000 in
theorem keep18_not (w : World) (m : Nat) (F : List Nat) (c : Cf) (now n : Int) (xs : List En) (h : Mq w m F c now xs) (k : K) (x : O) (ht : tickE now n = 0) (hp : pairE k x = 0) (hk : keepsC c x = false) :
  Calls Tryz.prog 48 #[PT m, .int .i64 n, kv k, ov x] w fun e w' => e = .returned (.tuple #[.bool false, .slice none 0 0, .int .i64 0]) ∧ Mc w m F c n xs w' := by
 obtain ⟨V, hV⟩ : ∃ V, V = (w.alloc (bx k)).alloc (obx x) := ⟨_, rfl⟩
 have KV : KpV w k x V := by rw [hV]; exact KpV.mk' w k x
 have TV := hid KV.t
 have HT := hid ((h.keep0 TV.out).tick n)
 rw [ht] at HT
 have HP := hid (pair46 V k x)
 rw [hp] at HP
 obtain ⟨q1, q2⟩ := tickE_ok ht
 have hF := h.lt
 have hm : m < w.heap.size := hF m h.mem
 have hne : w.heap.size ≠ m := by omega
 have hne1 : w.heap.size + 1 ≠ m := by omega
 have HC : Hid (∀ w2, Touch [] V w2 → ((w2.cell? ⟨w.heap.size, 0, none⟩ = some (.int .u16 k.1) ∧ w2.cell? ⟨w.heap.size, 1, none⟩ = some (.string k.2)) ∧ w2.cell? ⟨w.heap.size + 1, 0, none⟩ = some (.int .i64 x.1) ∧ w2.cell? ⟨w.heap.size + 1, 1, none⟩ = some (.int .i64 x.2.1) ∧ w2.cell? ⟨w.heap.size + 1, 2, none⟩ = some (.int .i64 x.2.2.1) ∧ w2.cell? ⟨w.heap.size + 1, 3, none⟩ = some (.int .i64 x.2.2.2)) ∧ w2.cell? ⟨m, 7, none⟩ = some (.int .i64 now) ∧ w2.frozen? ⟨m, 7, none⟩ = false) := fun w2 t => ⟨KV.cells t (fun _ e => by cases e), (h.keep0 (TV.out.trans' t)).c7⟩
 have HK : Hid (∀ w2, Touch [] V w2 → Calls Tryz.prog 98 #[PT m, ov x] (w2.setCell ⟨m, 7, none⟩ (.int .i64 n)) fun e w' => e = .returned (.bool false) ∧ Mc w m F c n xs w') := fun w2 t => by
  have C := (h.keep0 (TV.out.trans' t)).time q1 q2
  obtain ⟨F', C1, C2, C3⟩ := C
  have := C1.keeps x
  rw [hk] at this
  refine this.mono ?_
  rintro e w4 ⟨rfl, t4⟩
  exact ⟨rfl, (Mc.keep0 (⟨F', C1, C2, C3⟩ : Mc w2 m F c n xs _) t4).from0 (TV.out.trans' t)⟩
 obtain ⟨⟨⟨b0, b1⟩, o0, o1, o2, o3⟩, g0, g1⟩ := HC.out V (Touch.refl _ _)
 clear h ht hp hk KV q1 q2 hF
 unfold PT kv ov at *
 go_enter Tryz.func48, Tryz.ntmps48
 go_upto_region 1 with fail
 unfold bx obx at hV
 rw [← hV]
 clear hV
 go_wp2_with (first
  | (go_at_call 96; refine HT.out.mono ?_; rintro e w2 ⟨rfl, e2⟩; rw [e2]; clear e2 w2)
  | (go_at_call 97; refine HP.out.mono ?_; rintro e w3 ⟨rfl, t3⟩; have T3 := hid t3; clear b0 b1 o0 o1 o2 o3 g0 g1; obtain ⟨⟨⟨b0, b1⟩, o0, o1, o2, o3⟩, g0, g1⟩ := HC.out _ t3; clear t3)
  | (go_at_call 98; refine (HK.out _ T3.out).mono ?_; rintro e w4 ⟨rfl, hc⟩; have C4 := hid hc; clear hc))
 exact bodyPost_ret (v := .tuple #[.bool false, .slice none 0 0, .int .i64 0]) (by simp [results, Tryz.results48, go_sem]) rfl ⟨rfl, C4.out⟩
def PtQ (w : World) (m : Nat) (F : List Nat) (c : Cf) (n : Int) (gs : List K) (ys : List En) (u : Value) (w' : World) : Prop := RT 38 w' u gs ∧ Mc w m F c n ys w'
set_option maxHeartbeats 1000000 in
theorem keep18_yes (w : World) (m : Nat) (F : List Nat) (c : Cf) (now n : Int) (xs : List En) (h : Mq w m F c now xs) (k : K) (ok : Ok k) (x : O) (ht : tickE now n = 0) (hp : pairE k x = 0) (hk : keepsC c x = true) :
  Calls Tryz.prog 48 #[PT m, .int .i64 n, kv k, ov x] w fun e w' => ∃ u, e = .returned (.tuple #[.bool true, u, .int .i64 0]) ∧ PtQ w m F c n (goneL c.e xs k) (putL c.e xs k (x, n)) u w' := by
 obtain ⟨V, hV⟩ : ∃ V, V = (w.alloc (bx k)).alloc (obx x) := ⟨_, rfl⟩
 have KV : KpV w k x V := by rw [hV]; exact KpV.mk' w k x
 have TV := hid KV.t
 have HT := hid ((h.keep0 TV.out).tick n)
 rw [ht] at HT
 have HP := hid (pair46 V k x)
 rw [hp] at HP
 obtain ⟨q1, q2⟩ := tickE_ok ht
 obtain ⟨p1, p2⟩ := pairE_ok hp
 have n0 := h.gd.n0
 have hF := h.lt
 have hm : m < w.heap.size := hF m h.mem
 have hne : w.heap.size ≠ m := by omega
 have hne1 : w.heap.size + 1 ≠ m := by omega
 have HC : Hid (∀ w2, Touch [] V w2 → ((w2.cell? ⟨w.heap.size, 0, none⟩ = some (.int .u16 k.1) ∧ w2.cell? ⟨w.heap.size, 1, none⟩ = some (.string k.2)) ∧ w2.cell? ⟨w.heap.size + 1, 0, none⟩ = some (.int .i64 x.1) ∧ w2.cell? ⟨w.heap.size + 1, 1, none⟩ = some (.int .i64 x.2.1) ∧ w2.cell? ⟨w.heap.size + 1, 2, none⟩ = some (.int .i64 x.2.2.1) ∧ w2.cell? ⟨w.heap.size + 1, 3, none⟩ = some (.int .i64 x.2.2.2)) ∧ w2.cell? ⟨m, 7, none⟩ = some (.int .i64 now) ∧ w2.frozen? ⟨m, 7, none⟩ = false) := fun w2 t => ⟨KV.cells t (fun _ e => by cases e), (h.keep0 (TV.out.trans' t)).c7⟩
 have HK : Hid (∀ w2, Touch [] V w2 → Calls Tryz.prog 98 #[PT m, ov x] (w2.setCell ⟨m, 7, none⟩ (.int .i64 n)) fun e w' => e = .returned (.bool true) ∧ Mc w m F c n xs w' ∧ Touch [m] V w') := fun w2 t => by
  have C := (h.keep0 (TV.out.trans' t)).time q1 q2
  obtain ⟨F', C1, C2, C3⟩ := C
  have := C1.keeps x
  rw [hk] at this
  refine this.mono ?_
  rintro e w4 ⟨rfl, t4⟩
  exact ⟨rfl, (Mc.keep0 (⟨F', C1, C2, C3⟩ : Mc w2 m F c n xs _) t4).from0 (TV.out.trans' t), ((t.mono (fun _ e => by cases e)).setCell (Or.inl (by simp)) _).trans' (t4.mono (fun _ e => by cases e))⟩
 have HD : Hid (∀ w2, Touch [m] V w2 → ((w2.cell? ⟨w.heap.size, 0, none⟩ = some (.int .u16 k.1) ∧ w2.cell? ⟨w.heap.size, 1, none⟩ = some (.string k.2)) ∧ w2.cell? ⟨w.heap.size + 1, 0, none⟩ = some (.int .i64 x.1) ∧ w2.cell? ⟨w.heap.size + 1, 1, none⟩ = some (.int .i64 x.2.1) ∧ w2.cell? ⟨w.heap.size + 1, 2, none⟩ = some (.int .i64 x.2.2.1) ∧ w2.cell? ⟨w.heap.size + 1, 3, none⟩ = some (.int .i64 x.2.2.2))) := fun w2 t => KV.cells t (fun i hi => by simp only [List.mem_singleton] at hi; subst hi; exact hm)
 have HU : Hid (∀ w4, Mc w m F c n xs w4 → Calls Tryz.prog 99 #[PT m, kv k, ev (x, n)] w4 fun e w' => ∃ u, e = .returned u ∧ PtQ w m F c n (goneL c.e xs k) (putL c.e xs k (x, n)) u w') := fun w4 C => by
  obtain ⟨F', C1, C2, C3⟩ := C
  refine (putM w4 m F' c n xs C1 k ok p1 (x, n) ⟨p2, by show 0 ≤ n; omega, Int.le_refl _⟩).mono ?_
  rintro e w5 ⟨u, rfl, r, d⟩
  refine ⟨u, rfl, r, ?_⟩
  obtain ⟨F2, d1, d2, d3⟩ := d
  exact ⟨F2, d1, C2.trans d2 C3, C3.trans d3 C2.size⟩
 obtain ⟨⟨⟨b0, b1⟩, o0, o1, o2, o3⟩, g0, g1⟩ := HC.out V (Touch.refl _ _)
 clear h ht hp hk KV q1 q2 hF p1 p2 n0
 generalize goneL c.e xs k = gs at *
 generalize putL c.e xs k (x, n) = ys at *
 unfold PT kv ov ev at *
 simp only at HU
 go_enter Tryz.func48, Tryz.ntmps48
 go_upto_region 1 with fail
 unfold bx obx at hV
 rw [← hV]
 clear hV
 go_wp2_with (first
  | (go_at_call 96; refine HT.out.mono ?_; rintro e w2 ⟨rfl, e2⟩; rw [e2]; clear e2 w2)
  | (go_at_call 97; refine HP.out.mono ?_; rintro e w3 ⟨rfl, t3⟩; have T3 := hid t3; clear b0 b1 o0 o1 o2 o3 g0 g1; obtain ⟨⟨⟨b0, b1⟩, o0, o1, o2, o3⟩, g0, g1⟩ := HC.out _ t3; clear t3)
  | (go_at_call 98; refine (HK.out _ T3.out).mono ?_; rintro e w4 ⟨rfl, hc, t4⟩; have C4 := hid hc; clear hc b0 b1 o0 o1 o2 o3 g0 g1; obtain ⟨⟨b0, b1⟩, o0, o1, o2, o3⟩ := HD.out _ t4; clear t4)
  | (go_at_call 99; refine (HU.out _ C4.out).mono ?_; rintro e w5 ⟨u, rfl, hq⟩; have HQ := hid hq; clear hq))
 exact bodyPost_ret (v := .tuple #[.bool true, u, .int .i64 0]) (by simp [results, Tryz.results48, go_sem]) rfl ⟨u, rfl, HQ.out⟩
theorem keepM (w : World) (m : Nat) (F : List Nat) (c : Cf) (now n : Int) (xs : List En) (h : Mq w m F c now xs) (k : K) (ok : Ok k) (x : O) :
  Calls Tryz.prog 48 #[PT m, .int .i64 n, kv k, ov x] w fun e w' => ∃ u, e = .returned (.tuple #[.bool (kpB c now n k x), u, .int .i64 (keepE now n k x)]) ∧ PtQ w m F c (kpN now n k x) (kpG c now n xs k x) (kpX c now n xs k x) u w' := by
 by_cases ht : tickE now n = 0
 ·by_cases hp : pairE k x = 0
  ·have e : keepE now n k x = 0 := by unfold keepE; rw [if_pos ht, hp]
   cases hk : keepsC c x
   ·have e2 : kpB c now n k x = false := by unfold kpB; rw [hk]; simp
    unfold kpN kpG kpX
    rw [e2, e, if_pos rfl]
    exact (keep18_not w m F c now n xs h k x ht hp hk).mono fun e w' ⟨he, t⟩ => ⟨_, he, RT.nil _ _, t⟩
   ·have e2 : kpB c now n k x = true := by unfold kpB; rw [hk, e]; rfl
    unfold kpN kpG kpX
    rw [e2, e, if_pos rfl, if_pos rfl, if_pos rfl]
    exact keep18_yes w m F c now n xs h k ok x ht hp hk
  ·have e : keepE now n k x = pairE k x := by unfold keepE; rw [if_pos ht]
   have e2 : kpB c now n k x = false := by unfold kpB; rw [e, decide_eq_false hp]; rfl
   unfold kpN kpG kpX
   rw [e2, e, if_neg hp]
   exact (keep18_pair w m F c now n xs h k x ht hp).mono fun e w' ⟨he, t⟩ => ⟨_, he, RT.nil _ _, (Mc.refl h).keep0 t⟩
 ·have e : keepE now n k x = tickE now n := by unfold keepE; rw [if_neg ht]
  have e2 : kpB c now n k x = false := by unfold kpB; rw [e, decide_eq_false ht]; rfl
  unfold kpN kpG kpX
  rw [e2, e, if_neg ht]
  exact (keep18_tick w m F c now n xs h k x ht).mono fun e w' ⟨he, t⟩ => ⟨_, he, RT.nil _ _, (Mc.refl h).keep0 t⟩
end Go.Proofs.YtkfophlhpjbmgaaGreat.Me
/- The contract of Tell; a key's space is a number of 16 bits, a name's length fits. -/
namespace Go.Proofs.YtkfophlhpjbmgaaGreat.Me
open Go.RowKit Go.Sort Go.Maps Go.ChangeMaps Go.WideMaps
def useX (xs : List En) (k : K) : List En := match fnd xs k with
 | none => xs
 | some v => putY xs k v
def isUse (h : Int) : Bool := decide (h = 1) || decide (h = 2)
def tellX (c : Cf) (now n : Int) (xs : List En) (k : K) : List En := if isUse (askR c now n xs k).1 then useX xs k else xs
theorem mpf_use {xs : List En} {k : K} {v : V} (h : fnd xs k = some v) : mpf (putY xs k v) = mpf xs := by
 funext j
 unfold mpf
 rw [fnd_putY]
 by_cases e : j = k
 ·rw [if_pos e, e, h]
 ·rw [if_neg e]
theorem putY_len' {xs : List En} {k : K} {v : V} (hn : (keysL xs).Nodup) (h : fnd xs k = some v) : (putY xs k v).length = xs.length := by
 rw [putY_len hn]
 unfold mpf
 rw [h]
 rfl
theorem Gd.use {c : Cf} {now : Int} {xs : List En} {k : K} {v : V} (h : Gd c now xs) (hn : (keysL xs).Nodup) (hf : fnd xs k = some v) : Gd c now (putY xs k v) :=
 h.sub (fun x hx => (mem_putY hx).elim id (fun e => e ▸ fnd_mem hf)) (Nat.le_of_eq (putY_len' hn hf))
theorem Mb.touch {w w' : World} {m b o : Nat} {G : List Nat} {c : Cf} {now : Int} {xs : List En} {k : K} {v : V} (h : Mb w m b o G c now xs) (hf : fnd xs k = some v) (hc : Ch w o G c.e (dr (keysL xs) k ++ [k]) w') : Mc w m (m :: b :: G) c now (putY xs k v) w' := by
 obtain ⟨G', c1, c2, c3⟩ := hc
 have hlt := h.lt
 refine ⟨m :: b :: G', ⟨b, o, G', rfl, c2.keep h.md h.mg, ?_, ?_, h.gd.use h.nd hf, fun hh => (c3 b hh).elim h.bg (fun e => by have := hlt b (by simp); omega)⟩, c2.mono (fun i hi => by simp [hi]), fun i hi => ?_⟩
 ·rw [putY_len' h.nd hf, mpf_use hf]
  exact h.mp.kept (c2.block b h.mp.lt h.bg)
 ·rw [putY_keys]
  exact c1
 ·simp only [List.mem_cons] at hi ⊢
  rcases hi with rfl | rfl | hi
  ·exact Or.inl (Or.inl rfl)
  ·exact Or.inl (Or.inr (Or.inl rfl))
  ·exact (c3 i hi).elim (fun e => Or.inl (Or.inr (Or.inr e))) Or.inr
def sbx (h a : Int) (x : O) : Obj := .cells #[.int .i64 h, .int .i64 a, .int .i64 x.1, .int .i64 x.2.1, .int .i64 x.2.2.1, .int .i64 x.2.2.2] 161
structure S6 (w : World) (r : Nat) (h a : Int) (x : O) : Prop where
 c0 : w.cell? ⟨r, 0, none⟩ = some (.int .i64 h)
 c1 : w.cell? ⟨r, 1, none⟩ = some (.int .i64 a)
 c2 : w.cell? ⟨r, 2, none⟩ = some (.int .i64 x.1)
 c3 : w.cell? ⟨r, 3, none⟩ = some (.int .i64 x.2.1)
 c4 : w.cell? ⟨r, 4, none⟩ = some (.int .i64 x.2.2.1)
 c5 : w.cell? ⟨r, 5, none⟩ = some (.int .i64 x.2.2.2)
theorem S6.mk' {w : World} {r : Nat} {h a : Int} {x : O} (hh : w.heap[r]? = some (sbx h a x)) : S6 w r h a x := by
 unfold sbx at hh
 constructor <;> simp [World.cell?, hh]
structure TlV (w : World) (k : K) (V : World) : Prop where
 t : Touch [] w V
 hB : V.heap[w.heap.size]? = some (bx k)
 hZ : V.heap[w.heap.size + 1]? = some zbx
theorem TlV.mk' (w : World) (k : K) : TlV w k ((w.alloc (bx k)).alloc zbx) :=
 ⟨((Touch.refl _ _).alloc _).alloc _, (Below.heap_alloc _ _ _ (by simp)).trans (heap_alloc_new w _), by
  have := heap_alloc_new (w.alloc (bx k)) zbx
  rwa [World.size_alloc] at this⟩
set_option maxHeartbeats 2000000 in
theorem tell22_not (w : World) (m : Nat) (F : List Nat) (c : Cf) (now n : Int) (xs : List En) (h : Mq w m F c now xs) (k : K) (ok : Ok k) (hu : isUse (askR c now n xs k).1 = false) :
  Calls Tryz.prog 85 #[PT m, .int .i64 n, kv k] w fun e w' => e = .returned (.tuple #[lv (askR c now n xs k), .int .i64 (askE now n k)]) ∧ Mc w m F c (askN now n k) xs w' := by
 obtain ⟨V, hV⟩ : ∃ V, V = (w.alloc (bx k)).alloc zbx := ⟨_, rfl⟩
 have KV : TlV w k V := by rw [hV]; exact TlV.mk' w k
 have hF := h.lt
 have HL := hid (lookM V m F c now n xs (h.keep0 KV.t) k ok)
 generalize askR c now n xs k = s at *
 generalize askE now n k = E at *
 generalize askN now n k = n' at *
 obtain ⟨sh, sa, so⟩ := s
 have HW : Hid (∀ w2, Mc V m F c n' xs w2 → Z6 (w2.alloc (sbx sh sa so)) (w.heap.size + 1) ∧ S6 (w2.alloc (sbx sh sa so)) w2.heap.size sh sa so ∧ ∀ w5, Touch [w.heap.size + 1] (w2.alloc (sbx sh sa so)) w5 → Mc w m F c n' xs w5) := fun w2 C => by
  have hz := block_lt KV.hZ
  have C' := C.keep0 ((Touch.refl [] w2).alloc (sbx sh sa so))
  exact ⟨Z6.mk' (C'.block KV.hZ (fun hh => by have := hF _ hh; omega)), S6.mk' (heap_alloc_new w2 _), fun w5 t5 => C'.own t5 KV.t (Nat.le_succ _) hz hF⟩
 unfold isUse at hu
 simp only [Bool.or_eq_false_iff, decide_eq_false_iff_not] at hu
 have u1 : (sh == 1) = false := by simp [hu.1]
 have u2 : (sh == 2) = false := by simp [hu.2]
 have hB := KV.hB
 unfold bx at hB
 have b0 : V.cell? ⟨w.heap.size, 0, none⟩ = some (.int .u16 k.1) := by simp [World.cell?, hB]
 have b1 : V.cell? ⟨w.heap.size, 1, none⟩ = some (.string k.2) := by simp [World.cell?, hB]
 clear KV hB hu h ok hF
 unfold PT kv lv sv at *
 unfold sbx at HW
 simp only at HL HW ⊢
 go_enter Tryz.func85, Tryz.ntmps85
 go_upto_region 1 with fail
 unfold bx zbx at hV
 rw [← hV]
 clear hV
 go_wp2_with (go_at_call 83; refine HL.out.mono ?_; rintro e w2 ⟨rfl, c2⟩; obtain ⟨hz, hs, hc⟩ := HW.out _ c2; obtain ⟨z0, z1, z2, z3, z4, z5, f0, f1, f2, f3, f4, f5⟩ := hz; obtain ⟨s0, s1, s2, s3, s4, s5⟩ := hs; have HC := hid hc; clear hc c2)
 refine bodyPost_ret (v := .tuple #[.agg #[.int .i64 sh, .int .i64 sa, .int .i64 so.1, .int .i64 so.2.1, .int .i64 so.2.2.1, .int .i64 so.2.2.2], .int .i64 E]) (by simp [results, Tryz.results85, go_sem, z0, z1, z2, z3, z4, z5]) rfl ⟨rfl, ?_⟩
 exact HC.out _ (tset6 _ _ _ _ _ _ _ _)
set_option maxHeartbeats 2000000 in
theorem tell22_yes (w : World) (m : Nat) (F : List Nat) (c : Cf) (now n : Int) (xs : List En) (h : Mq w m F c now xs) (k : K) (ok : Ok k) (hu : isUse (askR c now n xs k).1 = true) (v : V) (hf : fnd xs k = some v) :
  Calls Tryz.prog 85 #[PT m, .int .i64 n, kv k] w fun e w' => e = .returned (.tuple #[lv (askR c now n xs k), .int .i64 (askE now n k)]) ∧ Mc w m F c (askN now n k) (putY xs k v) w' := by
 obtain ⟨V, hV⟩ : ∃ V, V = (w.alloc (bx k)).alloc zbx := ⟨_, rfl⟩
 have KV : TlV w k V := by rw [hV]; exact TlV.mk' w k
 have hF := h.lt
 have HL := hid (lookM V m F c now n xs (h.keep0 KV.t) k ok)
 generalize askR c now n xs k = s at *
 generalize askE now n k = E at *
 generalize askN now n k = n' at *
 obtain ⟨sh, sa, so⟩ := s
 have HW : Hid (∀ w2, Mc V m F c n' xs w2 → ∃ o G, (∀ w', Touch G (w2.alloc (sbx sh sa so)) w' → w'.cell? ⟨m, 9, none⟩ = some (.pointer (some ⟨o, 0, none⟩)) ∧ (w'.cell? ⟨w.heap.size, 0, none⟩ = some (.int .u16 k.1) ∧ w'.cell? ⟨w.heap.size, 1, none⟩ = some (.string k.2)) ∧ Z6 w' (w.heap.size + 1) ∧ S6 w' w2.heap.size sh sa so) ∧
   (Calls Tryz.prog 128 #[PT o, kv k] (w2.alloc (sbx sh sa so)).drew fun e w' => e = .returned (.bool true) ∧ Touch G (w2.alloc (sbx sh sa so)) w' ∧ ∀ w5, Touch [w.heap.size + 1] w' w5 → Mc w m F c n' (putY xs k v) w5)) := fun w2 C => by
  have hz := block_lt KV.hZ
  obtain ⟨F2, C1, C2, C3⟩ := C.keep0 ((Touch.refl [] w2).alloc (sbx sh sa so))
  obtain ⟨b, o, G, rfl, hm⟩ := C1
  have hlt := hm.lt
  have hzz := (Mc.keep0 C (Touch.refl [] w2))
  have hw2 : V.heap.size ≤ w2.heap.size := by obtain ⟨_, _, t, _⟩ := C; exact t.size
  have hw2' : w.heap.size + 2 ≤ V.heap.size := by omega
  have nG : ∀ q, w.heap.size ≤ q → q < V.heap.size → ¬ q ∈ m :: b :: G := fun q h1 h2 hh => by
   rcases C3 q hh with e | e
   ·have := hF q e; omega
   ·omega
  have nG2 : ¬ w2.heap.size ∈ G := hm.oq.away (heap_alloc_new w2 (sbx sh sa so)) (by decide) (by decide)
  refine ⟨o, G, fun w' t => ?_, ?_⟩
  ·have k1 := t.keep (C2.keep KV.hB (fun hh => by have := hF _ hh; omega)) (fun hh => nG w.heap.size (Nat.le_refl _) (by omega) (by simp [hh]))
   unfold bx at k1
   exact ⟨(show Md w' m c n' b o from t.keep hm.md hm.mg).cs.c9, by simp [World.cell?, k1], Z6.mk' (t.keep (C2.keep KV.hZ (fun hh => by have := hF _ hh; omega)) (fun hh => nG (w.heap.size + 1) (by omega) (by omega) (by simp [hh]))), S6.mk' (t.keep (heap_alloc_new w2 (sbx sh sa so)) nG2)⟩
  ·have hd := hm.keep0 ((Touch.refl [] _).drew)
   refine (touchO_yes _ o G c.e (keysL xs) k ?_ hd.oq).mono ?_
   ·by_cases e : k ∈ keysL xs
    ·exact e
    ·rw [fnd_none e] at hf; cases hf
   ·rintro e w3 ⟨rfl, c3⟩
    have M3 := hd.touch hf c3
    refine ⟨rfl, ?_, fun w5 t5 => ?_⟩
    ·obtain ⟨_, _, t, _⟩ := c3
     exact ((Touch.refl G _).drew).trans' t
    ·have M4 : Mc V m F c n' (putY xs k v) w3 := by
      obtain ⟨F3, m1, m2, m3⟩ := M3
      exact ⟨F3, m1, (C2.trans (((Touch.refl (m :: b :: G) _).drew).trans' m2) C3), C3.trans (fun i hi => m3 i hi) C2.size⟩
     exact M4.own t5 KV.t (Nat.le_succ _) hz hF
 have hB := KV.hB
 unfold bx at hB
 have b0 : V.cell? ⟨w.heap.size, 0, none⟩ = some (.int .u16 k.1) := by simp [World.cell?, hB]
 have b1 : V.cell? ⟨w.heap.size, 1, none⟩ = some (.string k.2) := by simp [World.cell?, hB]
 clear KV hB h ok hF hf
 generalize putY xs k v = ys at *
 unfold isUse at hu
 simp only [Bool.or_eq_true, decide_eq_true_eq] at hu
 unfold PT kv lv sv at *
 unfold sbx at HW
 simp only at HL HW ⊢
 rcases hu with hu | hu
 ·subst hu
  go_enter Tryz.func85, Tryz.ntmps85
  go_upto_region 1 with fail
  unfold bx zbx at hV
  rw [← hV]
  clear hV
  go_upto_region 3 with (go_at_call 83; refine HL.out.mono ?_; rintro e w2 ⟨rfl, c2⟩; have C2 := hid c2; clear c2)
  obtain ⟨o, G, h1, h2⟩ := HW.out _ C2.out
  obtain ⟨W, hW⟩ : ∃ W, W = w2.alloc (.cells #[.int .i64 1, .int .i64 sa, .int .i64 so.1, .int .i64 so.2.1, .int .i64 so.2.2.1, .int .i64 so.2.2.2] 161) := ⟨_, rfl⟩
  rw [← hW] at h1 h2 ⊢
  clear hW b0 b1
  have sA : ∀ w', Touch G W w' → w'.cell? ⟨m, 9, none⟩ = some (.pointer (some ⟨o, 0, none⟩)) := fun w' t => (h1 w' t).1
  have sB : ∀ w', Touch G W w' → w'.cell? ⟨w.heap.size, 0, none⟩ = some (.int .u16 k.1) := fun w' t => (h1 w' t).2.1.1
  have sC : ∀ w', Touch G W w' → w'.cell? ⟨w.heap.size, 1, none⟩ = some (.string k.2) := fun w' t => (h1 w' t).2.1.2
  have H1 : Hid (∀ w', Touch G W w' → Z6 w' (w.heap.size + 1) ∧ S6 w' w2.heap.size 1 sa so) := fun w' t => (h1 w' t).2.2
  have H2 := hid h2
  clear h1 h2
  have t0 : Touch G W W.drew := (Touch.refl _ _).drew
  go_region_held3 (fun w' => Touch G W w') (first | assumption | exact (Touch.refl _ _).drew) ((go_at_call 128; refine H2.out.mono ?_; rintro e w3 ⟨rfl, t3, c3⟩; have C3 := hid c3; clear c3))
  obtain ⟨hz, hs⟩ := H1.out _ t3
  obtain ⟨z0, z1, z2, z3, z4, z5, f0, f1, f2, f3, f4, f5⟩ := hz
  obtain ⟨s0, s1, s2, s3, s4, s5⟩ := hs
  clear sA sB sC t0 t3
  go_wp2
  refine bodyPost_ret (v := .tuple #[.agg #[.int .i64 1, .int .i64 sa, .int .i64 so.1, .int .i64 so.2.1, .int .i64 so.2.2.1, .int .i64 so.2.2.2], .int .i64 E]) (by simp [results, Tryz.results85, go_sem, z0, z1, z2, z3, z4, z5]) rfl ⟨rfl, ?_⟩
  exact C3.out _ (tset6 _ _ _ _ _ _ _ _)
 ·subst hu
  go_enter Tryz.func85, Tryz.ntmps85
  go_upto_region 1 with fail
  unfold bx zbx at hV
  rw [← hV]
  clear hV
  go_upto_region 3 with (go_at_call 83; refine HL.out.mono ?_; rintro e w2 ⟨rfl, c2⟩; have C2 := hid c2; clear c2)
  obtain ⟨o, G, h1, h2⟩ := HW.out _ C2.out
  obtain ⟨W, hW⟩ : ∃ W, W = w2.alloc (.cells #[.int .i64 2, .int .i64 sa, .int .i64 so.1, .int .i64 so.2.1, .int .i64 so.2.2.1, .int .i64 so.2.2.2] 161) := ⟨_, rfl⟩
  rw [← hW] at h1 h2 ⊢
  clear hW b0 b1
  have sA : ∀ w', Touch G W w' → w'.cell? ⟨m, 9, none⟩ = some (.pointer (some ⟨o, 0, none⟩)) := fun w' t => (h1 w' t).1
  have sB : ∀ w', Touch G W w' → w'.cell? ⟨w.heap.size, 0, none⟩ = some (.int .u16 k.1) := fun w' t => (h1 w' t).2.1.1
  have sC : ∀ w', Touch G W w' → w'.cell? ⟨w.heap.size, 1, none⟩ = some (.string k.2) := fun w' t => (h1 w' t).2.1.2
  have H1 : Hid (∀ w', Touch G W w' → Z6 w' (w.heap.size + 1) ∧ S6 w' w2.heap.size 2 sa so) := fun w' t => (h1 w' t).2.2
  have H2 := hid h2
  clear h1 h2
  have t0 : Touch G W W.drew := (Touch.refl _ _).drew
  go_region_held3 (fun w' => Touch G W w') (first | assumption | exact (Touch.refl _ _).drew) ((go_at_call 128; refine H2.out.mono ?_; rintro e w3 ⟨rfl, t3, c3⟩; have C3 := hid c3; clear c3))
  obtain ⟨hz, hs⟩ := H1.out _ t3
  obtain ⟨z0, z1, z2, z3, z4, z5, f0, f1, f2, f3, f4, f5⟩ := hz
  obtain ⟨s0, s1, s2, s3, s4, s5⟩ := hs
  clear sA sB sC t0 t3
  go_wp2
  refine bodyPost_ret (v := .tuple #[.agg #[.int .i64 2, .int .i64 sa, .int .i64 so.1, .int .i64 so.2.1, .int .i64 so.2.2.1, .int .i64 so.2.2.2], .int .i64 E]) (by simp [results, Tryz.results85, go_sem, z0, z1, z2, z3, z4, z5]) rfl ⟨rfl, ?_⟩
  exact C3.out _ (tset6 _ _ _ _ _ _ _ _)
theorem isUse_fnd {c : Cf} {now n : Int} {xs : List En} {k : K} (h : isUse (askR c now n xs k).1 = true) : ∃ v, fnd xs k = some v := by
 unfold askR lookS at h
 cases hf : fnd xs k with
 | some v => exact ⟨v, rfl⟩
 | none =>
  rw [hf] at h
  split at h <;> simp [isUse] at h
theorem tellM (w : World) (m : Nat) (F : List Nat) (c : Cf) (now n : Int) (xs : List En) (h : Mq w m F c now xs) (k : K) (ok : Ok k) :
  Calls Tryz.prog 85 #[PT m, .int .i64 n, kv k] w fun e w' => e = .returned (.tuple #[lv (askR c now n xs k), .int .i64 (askE now n k)]) ∧ Mc w m F c (askN now n k) (tellX c now n xs k) w' := by
 unfold tellX
 cases hu : isUse (askR c now n xs k).1 with
 | false => exact tell22_not w m F c now n xs h k ok hu
 | true =>
  obtain ⟨v, hf⟩ := isUse_fnd hu
  rw [if_pos rfl]
  unfold useX
  rw [hf]
  exact tell22_yes w m F c now n xs h k ok hu v hf
end Go.Proofs.YtkfophlhpjbmgaaGreat.Me
/- What a group does, in plain words: its steps and what they tell; no program. -/
namespace Go.Proofs.YtkfophlhpjbmgaaGreat
abbrev O := Int × Int × Int × Int
structure Jd where
 how : Int
 run : Int
 bg : Bool
 o : O
 sent : List Int
def Jd.z : Jd := ⟨0, 0, false, (0, 0, 0, 0), []⟩
def tkE (X : Gp) (n : Int) : Int := Me.tickE X.now n
def mayE (X : Gp) (n : Int) (k : K) (x t : Int) : Int := if tkE X n ≠ 0 then tkE X n else if 64 < k.2.size then 20 else if x < 1 then 1 else if t < 0 then 1 else if t ∈ X.G then 152 else if (Lv.whr X.L x).isSome then 160 else 0
def begX (X : Gp) (r : Int) : Gp := { X with B := Ba.addS X.B X.now r }
def begJ (X : Gp) (h r : Int) : Jd := ⟨h, r, true, (0, 0, 0, 0), Ba.addL X.B X.now r⟩
def runX (X : Gp) (k : K) (x : Int) (rf : Bool) : Gp := { X with T := Ta.tBeg X.T k x rf }
def renB (X : Gp) (k : K) : Bool := (Ta.curOf X.T k).isSome || decide (Ta.tBegE X.T k 0 true = 0)
def renX (X : Gp) (k : K) : Gp := match Ta.curOf X.T k with
 | some _ => X
 | none => if Ta.tBegE X.T k 0 true = 0 then begX (runX X k 0 true) (X.T.bg + 1) else X
def renJ (X : Gp) (k : K) : Jd := match Ta.curOf X.T k with
 | some R => ⟨2, R.run, false, (0, 0, 0, 0), []⟩
 | none => if Ta.tBegE X.T k 0 true = 0 then begJ X 2 (X.T.bg + 1) else Jd.z
def renC (X : Gp) (k : K) (N : Cn) : Cn := match Ta.curOf X.T k with
 | some _ => N
 | none => if Ta.tBegE X.T k 0 true = 0 then ⟨N.t + 1, N.b + 1, N.s⟩ else { N with t := N.t + 1 }
def seenOf (X : Gp) (k : K) : Int × Int × O := Me.lookS X.c X.now X.en k
def meeB (X : Gp) (k : K) (h : Int) : Bool := if h = 1 then true else if h = 2 then renB X k else false
def meeX (X : Gp) (k : K) (h : Int) : Gp := if h = 2 then renX X k else X
def meeJ (X : Gp) (k : K) (h : Int) : Jd := if h = 1 then ⟨1, 0, false, (0, 0, 0, 0), []⟩ else if h = 2 then renJ X k else Jd.z
def meeC (X : Gp) (k : K) (h : Int) (N : Cn) : Cn := if h = 2 then renC X k N else N
def telB (X : Gp) (k : K) : Bool := meeB X k (seenOf X k).1
def telX (X : Gp) (k : K) : Gp := if telB X k then { meeX X k (seenOf X k).1 with mn := X.now, en := Me.useX X.en k } else { meeX X k (seenOf X k).1 with mn := X.now }
def telJ (X : Gp) (k : K) : Jd := if telB X k then { meeJ X k (seenOf X k).1 with o := (seenOf X k).2.2 } else Jd.z
def sitX (X : Gp) (x r t : Int) : Gp := { X with L := Lv.sitL X.L X.G (x, r, t) }
def waiX (X : Gp) (k : K) (x t : Int) : Gp := match Ta.curOf X.T k with
 | some R => sitX { X with T := Ta.tJoin X.T R.run x } x R.run t
 | none => if Ta.tBegE X.T k x false = 0 then begX (sitX (runX X k x false) x (X.T.bg + 1) t) (X.T.bg + 1) else X
def waiJ (X : Gp) (k : K) (x : Int) : Jd := match Ta.curOf X.T k with
 | some R => ⟨3, R.run, false, (0, 0, 0, 0), []⟩
 | none => if Ta.tBegE X.T k x false = 0 then begJ X 5 (X.T.bg + 1) else ⟨4, 0, false, (0, 4, 0, 0), []⟩
def joX (X : Gp) (n : Int) (k : K) (x t : Int) : Gp := if mayE X n k x t ≠ 0 then X else
 if telB { X with now := n } k then telX { X with now := n } k else waiX (telX { X with now := n } k) k x t
def joJ (X : Gp) (n : Int) (k : K) (x t : Int) : Jd := if mayE X n k x t ≠ 0 then Jd.z else
 if telB { X with now := n } k then telJ { X with now := n } k else waiJ (telX { X with now := n } k) k x
def waiC (X : Gp) (k : K) (x : Int) (N : Cn) : Cn := match Ta.curOf X.T k with
 | some _ => ⟨N.t + 1, N.b, N.s + 1⟩
 | none => if Ta.tBegE X.T k x false = 0 then ⟨N.t + 1, N.b + 1, N.s + 1⟩ else { N with t := N.t + 1 }
def joC (X : Gp) (n : Int) (k : K) (x t : Int) (N : Cn) : Cn := if mayE X n k x t ≠ 0 then N else
 if telB { X with now := n } k then meeC { X with now := n } k (seenOf { X with now := n } k).1 N else waiC (telX { X with now := n } k) k x (meeC { X with now := n } k (seenOf { X with now := n } k).1 N)
end Go.Proofs.YtkfophlhpjbmgaaGreat
/- What is none of a group's stays as it is at each of the group's steps: boxes and slices of other kinds; no conditions. -/
namespace Go.Proofs.YtkfophlhpjbmgaaGreat
open Go.RowKit Go.Maps Go.ChangeMaps
def boxT (t : Nat) : Bool := !(([3, 119, 154, 222, 270, 179, 238, 202, 197, 227] : List Nat).contains t)
structure BoxT (u : Nat) : Prop where
 i : u ≠ 3
 g : u ≠ 119
 m : u ≠ 154
 o : u ≠ 222
 p : u ≠ 270
 t : u ≠ 179
 r : u ≠ 238
 b : u ≠ 202
 s : u ≠ 197
 c : u ≠ 227
theorem boxT_of {t : Nat} (h : boxT t = true) : BoxT t := by
 unfold boxT at h
 simp only [List.contains_eq_mem, List.mem_cons, List.not_mem_nil, or_false, Bool.not_eq_true', decide_eq_false_iff_not, not_or] at h
 obtain ⟨h1, h2, h3, h4, h5, h6, h7, h8, h9, h10⟩ := h
 exact ⟨h1, h2, h3, h4, h5, h6, h7, h8, h9, h10⟩
section
variable {w : World} {t k : Nat} {F : List Nat} {cs : Array Value} {u : TypeId} {z : Nat × Nat}
theorem Ta.Tq.away {T : Ta.Tb} {N : Nat} (h : Ta.Tq w t F T N) (hk : w.heap[k]? = some (.cells cs u z)) (hu : BoxT u) : ¬ k ∈ F := fun e => by
 obtain ⟨p, c, g, nc, ng, Ps, rfl, h, hL⟩ := h
 have hm : ∀ d, (∃ es cl, w.heap[d]? = some (.map es cl)) → k ≠ d := fun d ⟨es, cl, hd⟩ e => by rw [e, hd] at hk; cases hk
 rcases Ta.mem_fpT.1 e with e | e | e | e | ⟨q, hq, e⟩
 ·rw [e, h.bl] at hk
  simp only [Option.some.injEq, Obj.cells.injEq] at hk
  exact hu.t hk.2.1.symm
 ·exact hm _ h.pm.kind e
 ·exact hm _ h.cm.kind e
 ·exact hm _ (h.gm.kind e) rfl
 ·obtain ⟨sl, m, ys, eF, hr, -⟩ := h.recs q hq
  rw [eF] at e
  rcases Ta.mem_fpR.1 e with e | e | e
  ·rw [e, hr.rc.bl] at hk
   simp only [Option.some.injEq, Obj.cells.injEq] at hk
   exact hu.r hk.2.1.symm
  ·obtain ⟨cc, hc⟩ := own_kind hr.ln.row e
   rw [hc] at hk
   simp only [Option.some.injEq, Obj.cells.injEq] at hk
   exact hu.i hk.2.1.symm
  ·exact hm _ (hr.ln.mp.kind e) rfl
theorem Ba.Bq.away {S : Ba.Bs} {N : Nat} (h : Ba.Bq w t F S N) (hk : w.heap[k]? = some (.cells cs u z)) (hu : BoxT u) : ¬ k ∈ F := fun e => by
 obtain ⟨sl, d, rfl, h, hv⟩ := h
 rcases Ba.mem_fpB.1 e with e | e
 ·rw [e, h.hb] at hk
  simp only [Option.some.injEq, Obj.cells.injEq] at hk
  exact hu.b hk.2.1.symm
 ·obtain ⟨cc, hc⟩ := own_kind h.row e
  rw [hc] at hk
  simp only [Option.some.injEq, Obj.cells.injEq] at hk
  exact hu.i hk.2.1.symm
theorem Lv.Sq.away {L : List Lv.Se} {G : List Int} {N : Nat} (h : Lv.Sq w t F L G N) (hk : w.heap[k]? = some (.cells cs u z)) (hu : BoxT u) : ¬ k ∈ F := fun e => by
 rcases h.own k e with ⟨c, z, h⟩ | ⟨c, z, h⟩ | ⟨es, cl, h⟩
 ·rw [h] at hk
  simp only [Option.some.injEq, Obj.cells.injEq] at hk
  exact hu.s hk.2.1.symm
 ·rw [h] at hk
  simp only [Option.some.injEq, Obj.cells.injEq] at hk
  exact hu.c hk.2.1.symm
 ·rw [h] at hk; cases hk
theorem Gq.away {g : Nat} {P : Pt} {X : Gp} {N : Cn} (h : Gq w g P F X N) (hk : w.heap[k]? = some (.cells cs u z)) (hu : boxT u = true) : ¬ k ∈ F := fun e => by
 have hu := boxT_of hu
 obtain ⟨Fm, Ft, Fb, Fs, rfl, h⟩ := h
 rcases mem_fpG.1 e with e | e | e | e | e
 ·rw [e, h.bl] at hk
  simp only [Option.some.injEq, Obj.cells.injEq] at hk
  exact hu.g hk.2.1.symm
 ·exact h.mq.away hk hu.o hu.p hu.m e
 ·exact h.tq.away hk hu e
 ·exact h.bq.away hk hu e
 ·exact h.sq.away hk hu e
end
def Keeps (w w' : World) : Prop := ∀ (k : Nat) (cs : Array Value) (t : TypeId) (z : Nat × Nat), boxT t = true → w.heap[k]? = some (.cells cs t z) → w'.heap[k]? = some (.cells cs t z)
theorem Touch.keeps {w w' : World} (T : Touch [] w w') : Keeps w w' := fun k cs t z _ hk => T.keep hk (by simp)
theorem Keeps.trans {w w1 w2 : World} (h : Keeps w w1) (h' : Keeps w1 w2) : Keeps w w2 := fun k cs t z ht hk => h' k cs t z ht (h k cs t z ht hk)
section
variable {w w1 w2 : World} {g : Nat} {P : Pt} {F : List Nat} {X Y : Gp} {N M : Cn}
theorem GqE.keeps (h : Gq w g P F X N) (hE : GqE w w1 g P F Y M) : Keeps w w1 := fun k cs t z ht hk => hE.tch.keep hk (h.away hk ht)
theorem GqE.go (Q : GqE w w1 g P F X N) : ∃ F1, Gq w1 g P F1 X N ∧ ∀ w2 Y M, GqE w1 w2 g P F1 Y M → GqE w w2 g P F Y M ∧ Keeps w1 w2 := by
 obtain ⟨F1, q1, -, q2⟩ := Q.sub
 exact ⟨F1, q1, fun w2 Y M hE => ⟨q2 _ _ _ hE, GqE.keeps q1 hE⟩⟩
theorem GqE.put (Q : GqE w w1 g P F X N) {k : Nat} {cs : Array Value} {t : TypeId} {z : Nat × Nat} (hk : w1.heap[k]? = some (.cells cs t z)) (ht : boxT t = true) (h0 : w.heap.size ≤ k) (T : Touch [k] w1 w2) : GqE w w2 g P F X N := by
 obtain ⟨F1, q1, q2, q3⟩ := Q
 refine ⟨F1, q1.keep T (fun d hd e => ?_), q2.trans T (fun i hi => Or.inr (by simp only [List.mem_singleton] at hi; omega)), q3⟩
 simp only [List.mem_singleton] at e
 rw [e] at hd
 exact q1.away hk ht hd
theorem GqE.memo (Q : GqE w w1 g P F X N) : ∃ Fm, Me.Mq w1 P.m Fm X.c X.mn X.en ∧ ∀ w2 n e, Me.Mc w1 P.m Fm X.c n e w2 → GqE w w2 g P F { X with mn := n, en := e } N ∧ Keeps w1 w2 ∧ Touch Fm w1 w2 := by
 obtain ⟨F1, q1, q2⟩ := Q.go
 obtain ⟨Fm, hm, -, hs⟩ := q1.memo
 refine ⟨Fm, hm, fun w2 n e hc => ?_⟩
 obtain ⟨F', r1, r2, r3⟩ := hc
 have := q2 _ _ _ (hs w2 n e ⟨F', r1, r2, r3⟩)
 exact ⟨this.1, this.2, r2⟩
theorem GqE.tab (Q : GqE w w1 g P F X N) : ∃ Ft, Ta.Tq w1 P.t Ft X.T N.t ∧ ∀ w2 T' M, Ta.TqE w1 w2 P.t Ft T' M → GqE w w2 g P F { X with T := T' } { N with t := M } ∧ Keeps w1 w2 := by
 obtain ⟨F1, q1, q2⟩ := Q.go
 obtain ⟨Ft, ht, -, hs⟩ := q1.tab
 exact ⟨Ft, ht, fun w2 T' M hE => q2 _ _ _ (hs w2 T' M hE)⟩
theorem GqE.sea (Q : GqE w w1 g P F X N) : ∃ Fs, Lv.Sq w1 P.s Fs X.L X.G N.s ∧ ∀ w2 L' G' M, Lv.SqE w1 w2 P.s Fs L' G' M → GqE w w2 g P F { X with L := L', G := G' } { N with s := M } ∧ Keeps w1 w2 := by
 obtain ⟨F1, q1, q2⟩ := Q.go
 obtain ⟨Fs, ht, -, hs⟩ := q1.sea
 exact ⟨Fs, ht, fun w2 L' G' M hE => q2 _ _ _ (hs w2 L' G' M hE)⟩
theorem GqE.bat (Q : GqE w w1 g P F X N) : ∃ Fb, Ba.Bq w1 P.b Fb X.B N.b ∧ ∀ w2 S' M, (∃ F', Ba.Bq w2 P.b F' S' M ∧ Touch Fb w1 w2 ∧ Nf w1 Fb F') → GqE w w2 g P F { X with B := S' } { N with b := M } ∧ Keeps w1 w2 := by
 obtain ⟨F1, q1, q2⟩ := Q.go
 obtain ⟨Fb, ht, -, hs⟩ := q1.bat
 exact ⟨Fb, ht, fun w2 S' M hE => q2 _ _ _ (hs w2 S' M hE)⟩
theorem GqE.setNow (Q : GqE w w1 g P F X N) (n : Int) : GqE w (w1.setCell ⟨g, 4, none⟩ (.int .i64 n)) g P F { X with now := n } N ∧ Keeps w1 (w1.setCell ⟨g, 4, none⟩ (.int .i64 n)) := by
 obtain ⟨F1, q1, q2⟩ := Q.go
 exact q2 _ _ _ (q1.setNow n)
theorem GqE.iv (Q : GqE w w1 g P F X N) : Me.Gd X.c X.mn X.en ∧ Ta.Ti X.T N.t ∧ Ta.Lv X.T ∧ Lv.Iv X.L X.G N.s ∧ Ba.Iv X.B N.b := by
 obtain ⟨F1, q1, q2⟩ := Q.go
 exact q1.iv
end
end Go.Proofs.YtkfophlhpjbmgaaGreat
/- The contract of tell: each of some callers is told an outcome. -/
namespace Go.Proofs.YtkfophlhpjbmgaaGreat.Ta
open Go.RowKit Go.Maps Go.ChangeMaps
theorem info70 : (Tryz.prog.info? 64).map (fun i => (i.zero, i.size, i.bytes)) = some (some (.agg #[.int .i64 0, .int .i64 0, .int .i64 0, .int .i64 0, .int .i64 0]), 5, 40) := by kernel_rfl
theorem mk52 (w : World) (n : Nat) (h : n ≤ 3000000000000) : (Instr.makeSlice 54 (.int .i64 (n : Int)) (.int .i64 (n : Int))).run Tryz.prog w = .ok (.slice (some ⟨w.heap.size, 0, none⟩) n n) (w.alloc (.cells (madeCells #[.int .i64 0, .int .i64 0, .int .i64 0, .int .i64 0, .int .i64 0] (n * 5)) 64)) := by
 obtain ⟨i3, hi3, hz0, hz1, hz2⟩ := info_parts info70
 have := run_make (P := Tryz.prog) w 54 64 i3 _ Tryz.underlying54 hi3 hz0 .i64 .i64 (n : Int) (n : Int) (by omega) (by omega) (by rw [hz2]; omega) (by omega)
 rw [hz1] at this
 simpa [Value.cells] using this
def Tc (cur : Array Value) (i : Nat) (x : Int) (o : O) : Prop := cur[i * 5]? = some (.int .i64 x) ∧ cur[i * 5 + 1]? = some (.int .i64 o.1) ∧ cur[i * 5 + 2]? = some (.int .i64 o.2.1) ∧ cur[i * 5 + 3]? = some (.int .i64 o.2.2.1) ∧ cur[i * 5 + 4]? = some (.int .i64 o.2.2.2)
structure TdS (w wr : World) (t : Nat) (xs : List Int) (o : O) (j : Nat) : Prop where
 bl : ∃ cur, wr.heap[t]? = some (.cells cur 64 (0, 0)) ∧ cur.size = xs.length * 5 ∧ ∀ i x, i < j → xs[i]? = some x → Tc cur i x o
 tc : Touch [] w wr
def st5 (wr : World) (t p : Nat) (x : Int) (o : O) : World := ((((wr.setCell ⟨t, p, none⟩ (.int .i64 x)).setCell ⟨t, p + 1, none⟩ (.int .i64 o.1)).setCell ⟨t, p + 2, none⟩ (.int .i64 o.2.1)).setCell ⟨t, p + 3, none⟩ (.int .i64 o.2.2.1)).setCell ⟨t, p + 4, none⟩ (.int .i64 o.2.2.2)
theorem TdS.step {w wr : World} {t : Nat} {xs : List Int} {o : O} {j : Nat} {x : Int} (h : TdS w wr t xs o j) (ht : w.heap.size ≤ t) (hx : xs[j]? = some x) : TdS w (st5 wr t (j * 5) x o) t xs o (j + 1) := by
 obtain ⟨⟨cur, hb, hs, hc⟩, tc⟩ := h
 have hj := (List.getElem?_eq_some_iff.1 hx).1
 refine ⟨⟨_, bset (bset (bset (bset (bset hb _) _) _) _) _, by simp [hs], fun i y hi hy => ?_⟩, ?_⟩
 ·by_cases e : i = j
  ·subst e
   rw [hx] at hy
   cases hy
   unfold Tc
   simp only [Array.getElem?_setIfInBounds, Array.size_setIfInBounds, hs]
   refine ⟨?_, ?_, ?_, ?_, ?_⟩ <;> (repeat (first | rw [if_pos trivial] | rw [if_pos (by omega)] | rw [if_neg (by omega)])) <;> (try rfl)
  ·obtain ⟨q0, q1, q2, q3, q4⟩ := hc i y (by omega) hy
   unfold Tc
   simp only [Array.getElem?_setIfInBounds, Array.size_setIfInBounds, hs]
   refine ⟨?_, ?_, ?_, ?_, ?_⟩ <;> (repeat (rw [if_neg (by omega)])) <;> assumption
 ·unfold st5
  repeat (first | exact tc | (refine Touch.setCell ?_ (Or.inr ht) _))
def TdE (e : Ending) (w w' : World) (xs : List Int) (o : O) : Prop := ∃ t, e = .returned (.slice (some ⟨t, 0, none⟩) xs.length xs.length) ∧ w.heap.size ≤ t ∧ TdS w w' t xs o xs.length
theorem TdS.five {w wr : World} {t : Nat} {xs : List Int} {o : O} {n j : Nat} (h : TdS w wr t xs o n) (hj : j < xs.length) : ∃ z0 z1 z2 z3 z4, wr.cell? ⟨t, j * 5, none⟩ = some z0 ∧ wr.cell? ⟨t, j * 5 + 1, none⟩ = some z1 ∧ wr.cell? ⟨t, j * 5 + 2, none⟩ = some z2 ∧ wr.cell? ⟨t, j * 5 + 3, none⟩ = some z3 ∧ wr.cell? ⟨t, j * 5 + 4, none⟩ = some z4 ∧ ∀ i, wr.frozen? ⟨t, i, none⟩ = false := by
 obtain ⟨⟨cur, hb, hs, hc⟩, tc⟩ := h
 have q : ∀ k, k < 5 → cur[j * 5 + k]? = some (cur.getD (j * 5 + k) undef) := fun k hk => by
  have : j * 5 + k < cur.size := by omega
  simp [Array.getD, this]
 exact ⟨_, _, _, _, _, cell_at hb (q 0 (by omega)), cell_at hb (q 1 (by omega)), cell_at hb (q 2 (by omega)), cell_at hb (q 3 (by omega)), cell_at hb (q 4 (by omega)), fun i => froz_at hb i⟩
set_option maxHeartbeats 4000000 in
set_option maxRecDepth 100000 in
theorem tell33 (w : World) (g cap : Nat) (xs : List Int) (o : O) (h : w.ownsRow 0 3 1 (.slice (some ⟨g, 0, none⟩) xs.length cap) xs.length (ints xs)) (hle : xs.length ≤ 3000000000000) : Calls Tryz.prog 135 #[.slice (some ⟨g, 0, none⟩) xs.length cap, ov o] w fun e w' => TdE e w w' xs o := by
 obtain ⟨V, hV⟩ : ∃ V, V = w.alloc (.cells #[.int .i64 o.1, .int .i64 o.2.1, .int .i64 o.2.2.1, .int .i64 o.2.2.2] 42) := ⟨_, rfl⟩
 have TV : Hid (Touch [] w V) := by rw [hV]; exact (Touch.refl _ _).alloc _
 have HBX : V.heap[w.heap.size]? = some (.cells #[.int .i64 o.1, .int .i64 o.2.1, .int .i64 o.2.2.1, .int .i64 o.2.2.2] 42 (0, 0)) := by rw [hV]; exact heap_alloc_new w _
 have hsz : V.heap.size = w.heap.size + 1 := by rw [hV]; simp
 have hmk := mk52 V xs.length hle
 have HQ : Hid (∀ w', Touch [] V w' → w'.cell? ⟨w.heap.size, 0, none⟩ = some (.int .i64 o.1) ∧ w'.cell? ⟨w.heap.size, 1, none⟩ = some (.int .i64 o.2.1) ∧ w'.cell? ⟨w.heap.size, 2, none⟩ = some (.int .i64 o.2.2.1) ∧ w'.cell? ⟨w.heap.size, 3, none⟩ = some (.int .i64 o.2.2.2)) := fun w' T => by
  have := T.keep HBX (by simp)
  exact ⟨cell_at this rfl, cell_at this rfl, cell_at this rfl, cell_at this rfl⟩
 have HG : Hid (∀ w', Touch [] V w' → ∀ i x, xs[i]? = some x → w'.cell? ⟨g, i, none⟩ = some (.int .i64 x)) := fun w' T i x hx => own_cell (own_touch h (TV.out.trans' T) (fun _ _ e => by cases e)) (by simp [ints, hx])
 have H0 : Hid (TdS V (V.alloc (.cells (madeCells #[.int .i64 0, .int .i64 0, .int .i64 0, .int .i64 0, .int .i64 0] (xs.length * 5)) 64)) V.heap.size xs o 0) := ⟨⟨_, heap_alloc_new V _, size_madeCells _ _, fun i x hi => absurd hi (Nat.not_lt_zero _)⟩, (Touch.refl _ _).alloc _⟩
 have HX : Hid (∀ i, i < xs.length → ∃ x, xs[i]? = some x) := fun i hi => ⟨_, List.getElem?_eq_getElem hi⟩
 have HE : Hid (∀ w', TdS V w' V.heap.size xs o xs.length → TdE (.returned (.slice (some ⟨V.heap.size, 0, none⟩) xs.length xs.length)) w w' xs o) := fun w' r => ⟨_, rfl, TV.out.size, ⟨r.bl, TV.out.trans' r.tc⟩⟩
 have HLE := hid hle
 clear h hle HBX
 unfold ov
 go_enter Tryz.func135, Tryz.ntmps135
 go_upto_region 1 with fail
 rw [← hV]
 clear hV TV hsz
 go_upto_region 3 with fail
 have HV : Hid (V.heap.size ≤ V.heap.size) := Nat.le_refl _
 have HST : Hid (∀ wr j x, TdS V wr V.heap.size xs o j → xs[j]? = some x → TdS V (st5 wr V.heap.size (j * 5) x o) V.heap.size xs o (j + 1)) := fun wr j x r hx => r.step (Nat.le_refl _) hx
 have HST2 := HST
 obtain ⟨t, ht⟩ : ∃ t, t = V.heap.size := ⟨_, rfl⟩
 rw [← ht] at H0 HE HST hmk ⊢
 clear ht HV HST2 hmk
 go_loopw [13] (fun i wr => ∃ j : Nat, i = .int .i64 (j : Nat) ∧ j ≤ xs.length ∧ Hid (TdS V wr t xs o j)) (fun i _ => xs.length - (intOf i).toNat)
 case atStart => exact ⟨0, rfl, Nat.zero_le _, H0⟩
 case round =>
  clear H0
  obtain ⟨j, rfl, hj, HR⟩ := hrel
  by_cases hlt : j < xs.length
  ·have zk : (j : Int) < (xs.length : Int) := by omega
   have zL : (xs.length : Int) < 9223372036854775807 := by have := HLE.out; omega
   obtain ⟨x, hx⟩ := HX.out j hlt
   obtain ⟨z0, z1, z2, z3, z4, a0, a1, a2, a3, a4, ff⟩ := HR.out.five hlt
   obtain ⟨b0, b1, b2, b3⟩ := HQ.out wr HR.out.tc
   have hg := HG.out wr HR.out.tc j x hx
   have HN := hid (HST.out wr j x HR.out hx)
   unfold st5 at HN
   clear hx HR
   go_wp2
   go_roundw
   case rel => exact ⟨j + 1, by go_num, by omega, HN⟩
   case measure => simp [intOf]; omega
  ·have e' : j = xs.length := by omega
   subst e'
   have HZ := hid (HE.out _ HR.out)
   clear hj hlt
   go_wp2
   go_ret
   exact HZ.out
end Go.Proofs.YtkfophlhpjbmgaaGreat.Ta
/- The contract of End: all who wait are told the same, and nobody waits any more. -/
namespace Go.Proofs.YtkfophlhpjbmgaaGreat.Ta
open Go.RowKit Go.Maps Go.ChangeMaps
def Tv (B : Nat) (w : World) (v : Value) (xs : List Int) (o : O) : Prop := ∃ a c, v = .slice a xs.length c ∧ (xs = [] ∨ ∃ t cur, a = some ⟨t, 0, none⟩ ∧ B ≤ t ∧ w.heap[t]? = some (.cells cur 64 (0, 0)) ∧ ∀ i x, xs[i]? = some x → Tc cur i x o)
theorem Tv.nil (B : Nat) (w : World) (o : O) : Tv B w (.slice none 0 0) [] o := ⟨none, 0, rfl, Or.inl rfl⟩
theorem Tv.keep {B : Nat} {w w' : World} {v : Value} {xs : List Int} {o : O} {F : List Nat} (h : Tv B w v xs o) (T : Touch F w w') (hF : ∀ k, k ∈ F → k < B ∨ ∀ cur, w.heap[k]? ≠ some (.cells cur 64 (0, 0))) : Tv B w' v xs o := by
 obtain ⟨a, c, e, h1 | ⟨t, cur, e1, h2, h3, h4⟩⟩ := h
 ·exact ⟨a, c, e, Or.inl h1⟩
 ·refine ⟨a, c, e, Or.inr ⟨t, cur, e1, h2, T.keep h3 (fun q => ?_), h4⟩⟩
  rcases hF t q with q1 | q1
  ·omega
  ·exact q1 cur h3
theorem Tv.keep0 {B : Nat} {w w' : World} {v : Value} {xs : List Int} {o : O} (h : Tv B w v xs o) (T : Touch [] w w') : Tv B w' v xs o := h.keep T (fun _ q => by cases q)
section
variable {w w' : World} {b : Nat} {R : Rn} {sl mp : Value} {k c e : Bool} {o : O}
theorem Rc.set10 (h : Rc w b R sl mp k c e o) (v : Int) : Rc (w.setCell ⟨b, 10, none⟩ (.int .i64 v)) b R sl mp k c e (v, o.2.1, o.2.2.1, o.2.2.2) := ⟨bset h.bl _⟩
theorem Rc.set11 (h : Rc w b R sl mp k c e o) (v : Int) : Rc (w.setCell ⟨b, 11, none⟩ (.int .i64 v)) b R sl mp k c e (o.1, v, o.2.2.1, o.2.2.2) := ⟨bset h.bl _⟩
theorem Rc.set12 (h : Rc w b R sl mp k c e o) (v : Int) : Rc (w.setCell ⟨b, 12, none⟩ (.int .i64 v)) b R sl mp k c e (o.1, o.2.1, v, o.2.2.2) := ⟨bset h.bl _⟩
theorem Rc.set13 (h : Rc w b R sl mp k c e o) (v : Int) : Rc (w.setCell ⟨b, 13, none⟩ (.int .i64 v)) b R sl mp k c e (o.1, o.2.1, o.2.2.1, v) := ⟨bset h.bl _⟩
def endA (w : World) (b : Nat) (o : O) : World := ((((w.setCell ⟨b, 9, none⟩ (.bool true)).setCell ⟨b, 10, none⟩ (.int .i64 o.1)).setCell ⟨b, 11, none⟩ (.int .i64 o.2.1)).setCell ⟨b, 12, none⟩ (.int .i64 o.2.2.1)).setCell ⟨b, 13, none⟩ (.int .i64 o.2.2.2)
def endW (w : World) (b : Nat) : World := ((w.setCell ⟨b, 5, none⟩ (.slice none 0 0)).setCell ⟨b, 6, none⟩ (.map none)).setCell ⟨b, 7, none⟩ (.bool false)
theorem Rc.endA (h : Rc w b R sl mp k c e o) (p : O) : Rc (endA w b p) b R sl mp k c true p := by
 have := ((((h.set9 true).set10 p.1).set11 p.2.1).set12 p.2.2.1).set13 p.2.2.2
 exact this
theorem Rc.endW (h : Rc w b R sl mp k c e o) : Rc (endW w b) b R (.slice none 0 0) (.map none) false c e o := ((h.set5 _).set6 _).set7 _
theorem touch_endA (w : World) (b : Nat) (o : O) : Touch [b] w (endA w b o) := by
 unfold YtkfophlhpjbmgaaGreat.Ta.endA
 exact (((((Touch.refl _ _).setCell (Or.inl (by simp)) _).setCell (Or.inl (by simp)) _).setCell (Or.inl (by simp)) _).setCell (Or.inl (by simp)) _).setCell (Or.inl (by simp)) _
theorem touch_endW (w : World) (b : Nat) : Touch [b] w (endW w b) := by
 unfold YtkfophlhpjbmgaaGreat.Ta.endW
 exact (((Touch.refl _ _).setCell (Or.inl (by simp)) _).setCell (Or.inl (by simp)) _).setCell (Or.inl (by simp)) _
end
def EnE (e : Ending) (w w' : World) (b : Nat) (F : List Nat) (R : Rn) (S : St) (o : O) (N : Nat) : Prop := ∃ v, e = .returned (.tuple #[v, .int .i64 (endE S o)]) ∧ Tv w.heap.size w' v (endL S o) o ∧ RqE w w' b F R (endS S o) N
section
variable (w : World) (b N : Nat) (F : List Nat) (R : Rn) (S : St)
set_option maxHeartbeats 4000000 in
set_option maxRecDepth 100000 in
theorem end11 (h : Rq w b F R S N) (hN : N ≤ 3000000000000) (o : O) : Calls Tryz.prog 93 #[PT b, ov o] w fun e w' => EnE e w w' b F R S o N := by
 obtain ⟨V, hV⟩ : ∃ V, V = w.alloc (.cells #[.int .i64 o.1, .int .i64 o.2.1, .int .i64 o.2.2.1, .int .i64 o.2.2.2] 42) := ⟨_, rfl⟩
 have TV : Hid (Touch [] w V) := by rw [hV]; exact (Touch.refl _ _).alloc _
 have HBX : V.heap[w.heap.size]? = some (.cells #[.int .i64 o.1, .int .i64 o.2.1, .int .i64 o.2.2.1, .int .i64 o.2.2.2] 42 (0, 0)) := by rw [hV]; exact heap_alloc_new w _
 have hv := h.keep0 TV.out
 obtain ⟨sl', mp', ⟨c0, c1, c2, c3, c4, c5, c6, c7, c8, c9, c10, c11, c12, c13⟩, f7⟩ := hv.cs
 clear c0 c1 c2 c3 c4 c5 c6 c7 c8 c10 c11 c12 c13 f7
 have HS : Hid (∀ w', Touch [] V w' → RqE w w' b F R S N) := fun w' T => ⟨F, h.keep0 (TV.out.trans' T), (TV.out.trans' T).mono (fun _ q => by cases q), Nf.refl _ _⟩
 cases hE : S.ended with
 | true =>
  have e1 : endE S o = 110 := by simp [endE, hE]
  have e2 : endS S o = S := by unfold endS; rw [e1]; simp
  have e3 : endL S o = [] := by unfold endL; rw [e1]; simp
  unfold EnE
  rw [e1, e2, e3]
  rw [hE] at c9
  have HX := hid (HS.out V (Touch.refl _ _))
  clear h hv e1 e2 e3 hE HS HBX TV
  rw [hV] at c9 HX
  unfold PT ov
  clear hV
  go_enter Tryz.func93, Tryz.ntmps93
  go_wp2
  exact bodyPost_ret (v := .tuple #[.slice none 0 0, .int .i64 110]) (by simp [results, Tryz.results93, go_sem]) rfl ⟨_, rfl, Tv.nil _ _ _, HX.out⟩
 | false =>
  have HR := hid (fun w => right32 w o)
  rw [hE] at c9
  have B0 : ∀ w', Touch [] V w' → w'.heap[w.heap.size]? = some (.cells #[.int .i64 o.1, .int .i64 o.2.1, .int .i64 o.2.2.1, .int .i64 o.2.2.2] 42 (0, 0)) := fun w' T => T.keep HBX (by simp)
  have HQ : Hid (∀ w', Touch [] V w' → w'.cell? ⟨w.heap.size, 0, none⟩ = some (.int .i64 o.1) ∧ w'.cell? ⟨w.heap.size, 1, none⟩ = some (.int .i64 o.2.1) ∧ w'.cell? ⟨w.heap.size, 2, none⟩ = some (.int .i64 o.2.2.1) ∧ w'.cell? ⟨w.heap.size, 3, none⟩ = some (.int .i64 o.2.2.2)) := fun w' T => ⟨cell_at (B0 w' T) rfl, cell_at (B0 w' T) rfl, cell_at (B0 w' T) rfl, cell_at (B0 w' T) rfl⟩
  clear B0
  obtain ⟨i0, i1, i2, i3⟩ := HQ.out V (Touch.refl _ _)
  cases hr : right o with
  | false =>
   have e1 : endE S o = 30 := by simp [endE, hE, hr]
   have e2 : endS S o = S := by unfold endS; rw [e1]; simp
   have e3 : endL S o = [] := by unfold endL; rw [e1]; simp
   unfold EnE
   rw [e1, e2, e3]
   rw [hr] at HR
   clear h hv e1 e2 e3 hE hr HBX TV HQ
   unfold PT
   unfold ov at *
   go_enter Tryz.func93, Tryz.ntmps93
   go_upto_region 1 with fail
   rw [← hV]
   clear hV
   go_wp2_with (go_at_call 134; refine (HR.out _).mono ?_; rintro e w2 ⟨rfl, t2⟩; have X2 := hid (HS.out _ t2); clear t2)
   exact bodyPost_ret (v := .tuple #[.slice none 0 0, .int .i64 30]) (by simp [results, Tryz.results93, go_sem]) rfl ⟨_, rfl, Tv.nil _ _ _, X2.out⟩
  | true =>
   have e1 : endE S o = 0 := by simp [endE, hE, hr]
   have e2 : endS S o = { S with who := [], ended := true, out := o } := by unfold endS; rw [e1]; simp
   have e3 : endL S o = S.who := by unfold endL; rw [e1]; simp
   have hiv := h.iv.end_ o
   rw [e2] at hiv
   unfold EnE
   rw [e1, e2, e3]
   rw [hr] at HR
   have HLW : Hid (S.who.length ≤ 3000000000000) := Nat.le_trans h.wlen hN
   obtain ⟨sl, m, cs, rfl, hl, hw, hcl, _⟩ := h
   have hlv := hl.keep0 TV.out
   have HA : Hid (∀ w', Touch [] V w' → Calls Tryz.prog 136 #[PL b] w' fun e w2 => AlE e w' w2 S.who) := fun w' T => by
    rw [← hw]
    exact all34 w' b R sl m cs _ _ _ _ (hlv.keep0 T) (by omega)
   have HG : Hid (∀ w', Touch [] V w' → Rc w' b R sl (.map m) (S.kept && !S.ended) S.canc S.ended S.out) := fun w' T => (hlv.keep0 T).rc
   have HBX2 := hid HBX
   have HFN : Hid (∀ w4 t, Touch [] V w4 → ∀ w3, w3.heap.size ≤ t → Touch [] V w3 → TdS w3 w4 t S.who o S.who.length →
     Tv w.heap.size (endW (endA w4 b o) b) (.slice (some ⟨t, 0, none⟩) S.who.length S.who.length) S.who o ∧ RqE w (endW (endA w4 b o) b) b (fpR b sl m) R { S with who := [], ended := true, out := o } N) := fun w4 t T w3 z4 T3 r4 => by
    have hrc := HG.out w4 T
    have TB : Touch [b] w4 (endW (endA w4 b o) b) := (touch_endA _ _ _).trans' (touch_endW _ _)
    have hbl := (hrc.endA o).endW
    refine ⟨?_, fpR b (.slice none 0 0) none, ⟨_, _, [], rfl, ⟨by simpa using hbl, Ln.nil _⟩, rfl, Nat.zero_le _, hiv⟩, ((TV.out.trans' T).mono (fun _ q => by cases q)).trans' (TB.mono (fun q hq => ?_)), fun q hq => ?_⟩
    ·obtain ⟨⟨cur, q1, q2, q3⟩, q4⟩ := r4
     have hsz := Nat.le_trans TV.out.size (Nat.le_trans T3.size z4)
     refine (show Tv w.heap.size w4 _ S.who o from ⟨_, _, rfl, Or.inr ⟨t, cur, rfl, hsz, q1, fun i x hx => q3 i x (List.getElem?_eq_some_iff.1 hx).1 hx⟩⟩).keep TB (fun k hk => Or.inl ?_)
     simp only [List.mem_singleton] at hk
     rw [hk]
     exact hl.rc.lt
    ·simp only [List.mem_singleton] at hq; exact mem_fpR.2 (Or.inl hq)
    ·rcases mem_fpR.1 hq with q1 | q1 | q1
     ·exact Or.inl (mem_fpR.2 (Or.inl q1))
     ·cases q1
     ·cases q1
   have hbw := hl.rc.lt
   have HBL := hid hbw
   clear hv e1 e2 e3 hE hr HBX hl hlv hiv hw hcl HS TV hbw
   unfold PT
   unfold PL at HA
   unfold ov at HR
   unfold ov
   go_enter Tryz.func93, Tryz.ntmps93
   go_upto_region 1 with fail
   rw [← hV]
   clear hV
   go_upto_region 7 with (go_at_call 134; refine (HR.out _).mono ?_; rintro e w2 ⟨rfl, t2⟩; have T2 := hid t2; clear t2)
   have B0 := fun w' T => (HQ.out w' T).1
   have B1 := fun w' T => (HQ.out w' T).2.1
   have B2 := fun w' T => (HQ.out w' T).2.2.1
   have B3 := fun w' T => (HQ.out w' T).2.2.2
   have s0 : Touch [] V w2.drew := T2.out.drew
   clear i0 i1 i2 i3 c9
   refine wp_region_H (S := fun w' => Touch [] V w') (by kernel_rfl) ?_
   refine wpH_take (i := 0) (v := (.pointer (some ⟨b, 0, none⟩))) (some 19) rfl rfl (by kernel_rfl) (by kernel_rfl) (by kernel_rfl) (fun _ _ _ h => h) (Or.inl ⟨by rfl, fun w' hS => (by go_simp)⟩) s0 ?_
   try simp only [Go.Act.put, Zx, Zy, Zz]
   refine wpH_take (i := 1) (v := (.pointer (some ⟨b, 0, none⟩))) (some 20) rfl rfl (by kernel_rfl) (by kernel_rfl) (by kernel_rfl) (fun _ _ _ h => h) (Or.inl ⟨by rfl, fun w' hS => (by go_simp)⟩) s0 ?_
   try simp only [Go.Act.put, Zx, Zy, Zz]
   refine wpH_take (i := 2) (v := (.pointer (some ⟨b, 5, none⟩))) (some 21) rfl rfl (by kernel_rfl) (by kernel_rfl) (by kernel_rfl) (fun _ _ _ h => h) (Or.inl ⟨by rfl, fun w' hS => (by go_simp)⟩) s0 ?_
   try simp only [Go.Act.put, Zx, Zy, Zz]
   refine wpH_take (i := 4) (v := (.agg #[.int .i64 o.1, .int .i64 o.2.1, .int .i64 o.2.2.1, .int .i64 o.2.2.2])) (some 23) rfl rfl (by kernel_rfl) (by kernel_rfl) (by kernel_rfl) (fun _ _ _ h => h) (Or.inl ⟨by rfl, fun w' hS => (by have z0 := B0 _ hS; have z1 := B1 _ hS; have z2 := B2 _ hS; have z3 := B3 _ hS; go_simp)⟩) s0 ?_
   try simp only [Go.Act.put, Zx, Zy, Zz]
   refine wpH_call (i := 3) (o := { dst := some 22, op := Op.call { callee := Callee.value (Operand.func 136), args := #[Operand.tmp 21], argTypes := #[236] }, type := 47, pos := _, after := #[{ on := 2, ground := Ground.data }], guard := none }) (by kernel_rfl) rfl (fun K' hK => ?_)
   rw [if_pos (by rfl)]
   go_simp
   refine (HA.out _ s0).mono ?_
   rintro e' w3 ⟨g, cap, rfl, r3, t3⟩
   have R3 := hid r3
   have s1 : Touch [] V w3 := s0.trans' t3
   clear r3 t3
   refine hK.out _ _ s1 ?_
   clear hK
   try simp only [Go.Act.put, Zx, Zy, Zz]
   refine wpH_call (i := 5) (o := { dst := some 24, op := Op.call { callee := Callee.value (Operand.func 135), args := #[Operand.tmp 22, Operand.tmp 23], argTypes := #[47, 42] }, type := 54, pos := _, after := #[{ on := 3, ground := Ground.data }, { on := 4, ground := Ground.data }, { on := 3, ground := Ground.chain }], guard := none }) (by kernel_rfl) rfl (fun K' hK => ?_)
   rw [if_pos (by rfl)]
   go_simp
   refine (tell33 w3 g cap S.who o (own_base R3.out (Nat.zero_le _)) HLW.out).mono ?_
   rintro e' w4 ⟨t, rfl, z4, r4⟩
   have R4 := hid r4
   have Z4 := hid z4
   have s2 : Touch [] V w4 := s1.trans' r4.tc
   clear r4 z4
   refine hK.out _ _ s2 ?_
   clear hK
   try simp only [Go.Act.put, Zx, Zy, Zz]
   refine wpH_take (i := 6) (v := (.slice (some ⟨t, 0, none⟩) S.who.length S.who.length)) (some 6) rfl rfl (by kernel_rfl) (by kernel_rfl) (by kernel_rfl) (fun _ _ _ h => h) (Or.inl ⟨by rfl, fun w' hS => (by go_simp)⟩) s2 ?_
   try simp only [Go.Act.put, Zx, Zy, Zz]
   refine wpAnyH_done (by kernel_rfl) ?_ _
   clear B0 B1 B2 B3 HA
   have HF : Hid (Tv w.heap.size (endW (endA w4 b o) b).drew (.slice (some ⟨t, 0, none⟩) S.who.length S.who.length) S.who o ∧ RqE w (endW (endA w4 b o) b).drew b (fpR b sl m) R { S with who := [], ended := true, out := o } N) := by
    obtain ⟨q1, F', q2, q3, q4⟩ := HFN.out w4 t s2 w3 Z4.out s1 R4.out
    exact ⟨q1.keep0 (Touch.refl _ _).drew, F', q2.keep0 (Touch.refl _ _).drew, q3.drew, q4⟩
   have hrc := HG.out _ s2
   have D : ∀ w', Touch [b] w4 w' → w'.heap[w.heap.size]? = some (.cells #[.int .i64 o.1, .int .i64 o.2.1, .int .i64 o.2.2.1, .int .i64 o.2.2.2] 42 (0, 0)) := fun w' T => T.keep (s2.keep HBX2.out (by simp)) (by have := HBL.out; simp; omega)
   have D0 := fun w' T => cell_at (j := 0) (v := .int .i64 o.1) (D w' T) rfl
   have D1 := fun w' T => cell_at (j := 1) (v := .int .i64 o.2.1) (D w' T) rfl
   have D2 := fun w' T => cell_at (j := 2) (v := .int .i64 o.2.2.1) (D w' T) rfl
   have D3 := fun w' T => cell_at (j := 3) (v := .int .i64 o.2.2.2) (D w' T) rfl
   clear HFN HG HBX2 HBL D R3 R4 Z4 T2 s0 s1 HQ HR HLW
   have qf := hrc.fz
   obtain ⟨c0, c1, c2, c3, c4, c5, c6, c7, c8, c9, c10, c11, c12, c13⟩ := hrc.cs
   clear hrc s2 c0 c1 c2 c3 c4
   unfold endW endA at HF
   go_upto_region 8 with fail
   have k0 : Touch [b] w4 w4.drew := (Touch.refl _ _).drew
   refine wp_region_H (S := fun w' => Touch [b] w4 w') (by kernel_rfl) ?_
   refine wpH_take (i := 0) (v := (.pointer (some ⟨b, 0, none⟩))) (some 25) rfl rfl (by kernel_rfl) (by kernel_rfl) (by kernel_rfl) (fun _ _ _ h => h) (Or.inl ⟨by rfl, fun w' hS => (by go_simp)⟩) k0 ?_
   try simp only [Go.Act.put, Zx, Zy, Zz]
   refine wpH_take (i := 1) (v := (.pointer (some ⟨b, 0, none⟩))) (some 26) rfl rfl (by kernel_rfl) (by kernel_rfl) (by kernel_rfl) (fun _ _ _ h => h) (Or.inl ⟨by rfl, fun w' hS => (by go_simp)⟩) k0 ?_
   try simp only [Go.Act.put, Zx, Zy, Zz]
   refine wpH_take (i := 2) (v := (.agg #[.int .i64 o.1, .int .i64 o.2.1, .int .i64 o.2.2.1, .int .i64 o.2.2.2])) (some 27) rfl rfl (by kernel_rfl) (by kernel_rfl) (by kernel_rfl) (fun _ _ _ h => h) (Or.inl ⟨by rfl, fun w' hS => (by have z0 := D0 _ hS; have z1 := D1 _ hS; have z2 := D2 _ hS; have z3 := D3 _ hS; go_simp)⟩) k0 ?_
   try simp only [Go.Act.put, Zx, Zy, Zz]
   refine wpH_take (i := 3) (v := (.pointer (some ⟨b, 0, none⟩))) (some 28) rfl rfl (by kernel_rfl) (by kernel_rfl) (by kernel_rfl) (fun _ _ _ h => h) (Or.inl ⟨by rfl, fun w' hS => (by go_simp)⟩) k0 ?_
   try simp only [Go.Act.put, Zx, Zy, Zz]
   refine wpH_take (i := 4) (v := (.pointer (some ⟨b, 9, none⟩))) (some 29) rfl rfl (by kernel_rfl) (by kernel_rfl) (by kernel_rfl) (fun _ _ _ h => h) (Or.inl ⟨by rfl, fun w' hS => (by go_simp)⟩) k0 ?_
   try simp only [Go.Act.put, Zx, Zy, Zz]
   refine wpH_call (i := 5) (o := { dst := none, op := Op.store 4 (Operand.tmp 29) (Operand.const (Value.bool true)), type := 0, pos := _, after := #[{ on := 4, ground := Ground.data }, { on := 0, ground := Ground.phase }, { on := 1, ground := Ground.textOnly Departure.lateStores }, { on := 2, ground := Ground.textOnly Departure.lateStores }], guard := none }) (by kernel_rfl) rfl (fun K' hK => ?_)
   rw [if_pos (by rfl)]
   go_simp
   refine hK.out _ _ (k0.setCell (Or.inl (by simp)) _) ?_
   clear hK
   try simp only [Go.Act.put, Zx, Zy, Zz]
   refine wpH_take (i := 6) (v := (.pointer (some ⟨b, 0, none⟩))) (some 30) rfl rfl (by kernel_rfl) (by kernel_rfl) (by kernel_rfl) (fun _ _ _ h => h) (Or.inl ⟨by rfl, fun w' hS => (by go_simp)⟩) (k0.setCell (Or.inl (by simp)) _) ?_
   try simp only [Go.Act.put, Zx, Zy, Zz]
   refine wpH_take (i := 7) (v := (.pointer (some ⟨b, 10, none⟩))) (some 31) rfl rfl (by kernel_rfl) (by kernel_rfl) (by kernel_rfl) (fun _ _ _ h => h) (Or.inl ⟨by rfl, fun w' hS => (by go_simp)⟩) (k0.setCell (Or.inl (by simp)) _) ?_
   try simp only [Go.Act.put, Zx, Zy, Zz]
   refine wpH_call (i := 8) (o := { dst := none, op := Op.store 42 (Operand.tmp 31) (Operand.tmp 27), type := 0, pos := _, after := #[{ on := 7, ground := Ground.data }, { on := 2, ground := Ground.data }, { on := 5, ground := Ground.chain }, { on := 0, ground := Ground.phase }, { on := 1, ground := Ground.phase }, { on := 2, ground := Ground.phase }, { on := 3, ground := Ground.phase }, { on := 4, ground := Ground.phase }, { on := 5, ground := Ground.phase }], guard := none }) (by kernel_rfl) rfl (fun K' hK => ?_)
   rw [if_pos (by rfl)]
   go_simp
   refine hK.out _ _ (((((k0.setCell (Or.inl (by simp)) _).setCell (Or.inl (by simp)) _).setCell (Or.inl (by simp)) _).setCell (Or.inl (by simp)) _).setCell (Or.inl (by simp)) _) ?_
   clear hK
   try simp only [Go.Act.put, Zx, Zy, Zz]
   refine wpAnyH_done (by kernel_rfl) ?_ _
   clear D0 D1 D2 D3
   go_wp2
   exact bodyPost_ret (v := .tuple #[.slice (some ⟨t, 0, none⟩) S.who.length S.who.length, .int .i64 0]) (by simp [results, Tryz.results93, go_sem]) rfl ⟨_, rfl, HF.out⟩
end
end Go.Proofs.YtkfophlhpjbmgaaGreat.Ta
/- The contracts of a nil record's methods, and that who waits is told. -/
namespace Go.Proofs.YtkfophlhpjbmgaaGreat.Ta
open Go.RowKit Go.Maps Go.ChangeMaps
section
variable (w : World)
theorem run8_nil : Calls Tryz.prog 92 #[.pointer none] w fun e w' => e = .returned (.agg #[.int .i64 0, .int .u16 0, .string ⟨#[]⟩, .int .i64 0, .bool false]) ∧ Touch [] w w' := by
 go_enter Tryz.func92, Tryz.ntmps92
 go_wp2
 refine bodyPost_ret (v := .agg #[.int .i64 0, .int .u16 0, .string ⟨#[]⟩, .int .i64 0, .bool false]) (by simp [results, Tryz.results92, go_sem]) rfl ⟨rfl, ?_⟩
 repeat (first | exact Touch.refl _ _ | apply Touch.alloc | (refine Touch.setCell ?_ (Or.inr (by simp)) _))
theorem waiters18_nil : Calls Tryz.prog 100 #[.pointer none] w fun e w' => e = .returned (.slice none 0 0) ∧ w' = w := by
 go_enter Tryz.func100, Tryz.ntmps100
 go_wp2
 refine bodyPost_ret (v := .slice none 0 0) (by simp [results, Tryz.results100, go_sem]) rfl ⟨rfl, ?_⟩
 rfl
end
end Go.Proofs.YtkfophlhpjbmgaaGreat.Ta
/- The contracts of a table's methods that only read, and of Join. -/
namespace Go.Proofs.YtkfophlhpjbmgaaGreat.Ta
open Go.RowKit Go.Maps Go.ChangeMaps
def bxK (k : K) : Obj := .cells #[.int .u16 k.1, .string k.2] 38
section
variable {w : World} {t p c : Nat} {g : Option Nat} {nc ng : Nat} {Ps : List Rb} {T : Tb} {N : Nat} {F : List Nat}
theorem tRecord (h : Tm w t p c g nc ng Ps T N) (n : Int) (hn : W64 n) : Calls Tryz.prog 91 #[PT t, .int .i64 n] w fun e w' => e = .returned ((ptr Ps n).getD (.pointer none)) ∧ w' = w := by
 have hl := h.lookP hn
 have c2 := h.cs.c2
 clear h
 generalize (ptr Ps n).getD (.pointer none) = v at *
 unfold PT
 go_enter Tryz.func91, Tryz.ntmps91
 go_wp2
 go_ret
 exact ⟨rfl, rfl⟩
theorem tCurrent (h : Tm w t p c g nc ng Ps T N) (k : K) (hk : Ok k) : Calls Tryz.prog 61 #[PT t, kv k] w fun e w' => e = .returned (.tuple #[.int .i64 (((curOf T k).map Rn.run).getD 0), .bool (curOf T k).isSome]) ∧ Touch [] w w' := by
 have hl : ∀ n, (Instr.lookup 177 (.map (some c)) (kv k) true).run Tryz.prog ((w.alloc (bxK k)).drewN n) = .ok (.tuple #[.int .i64 (((curOf T k).map Rn.run).getD 0), .bool (curOf T k).isSome]) ((w.alloc (bxK k)).drewN n) := fun n => (h.keep0 (((Touch.refl _ _).alloc _).drewN n)).lookCok hk
 have c3 := (h.keep0 ((Touch.refl _ _).alloc (bxK k))).cs.c3
 clear h
 generalize ((curOf T k).map Rn.run).getD 0 = v at *
 generalize (curOf T k).isSome = v2 at *
 unfold PT kv bxK at *
 go_enter Tryz.func61, Tryz.ntmps61
 go_wp2
 go_quiet (fail)
 go_wp2
 exact bodyPost_ret (v := .tuple #[.int .i64 v, .bool v2]) (by simp [results, Tryz.results61, go_sem]) rfl ⟨rfl, ((Touch.refl _ _).alloc _).drewN _⟩
theorem fCheck (w : World) (k : K) (hk : Ok k) : Calls Tryz.prog 80 #[kv k] w fun e w' => e = .returned (.int .i64 (tForE k)) ∧ Touch [] w w' := by
 have hl : (w.alloc (bxK k)).cell? ⟨w.heap.size, 1, none⟩ = some (.string k.2) := by simp [bxK]
 have hs : 0 ≤ ((k.2.size : Nat) : Int) := by omega
 unfold tForE mayK
 by_cases hc : k.2.size ≤ 64
 ·rw [show decide (k.2.size ≤ 64) = true by simp [hc], if_pos rfl]
  have hq : ¬ (64 < ((k.2.size : Nat) : Int)) := by omega
  clear hc
  unfold kv bxK at *
  go_enter Tryz.func80, Tryz.ntmps80
  go_wp2
  go_ret
  exact ⟨rfl, (Touch.refl _ _).alloc _⟩
 ·rw [show decide (k.2.size ≤ 64) = false by simp [hc], if_neg (by simp)]
  have hq : 64 < ((k.2.size : Nat) : Int) := by omega
  clear hc
  unfold kv bxK at *
  go_enter Tryz.func80, Tryz.ntmps80
  go_wp2
  go_ret
  exact ⟨rfl, (Touch.refl _ _).alloc _⟩
theorem tWaiters_no (h : Tm w t p c g nc ng Ps T N) (n : Int) (hn : W64 n) (hr : runOf T n = none) : Calls Tryz.prog 51 #[PT t, .int .i64 n] w fun e w' => e = .returned (.slice none 0 0) ∧ w' = w := by
 have HR := hid (tRecord h n hn)
 rw [h.notIn hr] at HR
 have HC := hid (fun w => waiters18_nil w)
 simp only [Option.getD_none] at HR
 clear h
 unfold PT at *
 go_enter Tryz.func51, Tryz.ntmps51
 go_wp2_with (first | (go_at_call 91; refine HR.out.mono ?_; rintro e w2 ⟨rfl, rfl⟩) | (go_at_call 100; refine (HC.out _).mono ?_; rintro e w2 ⟨rfl, rfl⟩))
 go_ret
 exact ⟨rfl, rfl⟩
theorem box_run (w w2 : World) (T' : Touch [] (w.alloc (.cells #[.int .i64 0, .int .u16 0, .string ⟨#[]⟩, .int .i64 0, .bool false] 53)) w2) : w2.cell? ⟨w.heap.size, 0, none⟩ = some (.int .i64 0) ∧ w2.cell? ⟨w.heap.size, 1, none⟩ = some (.int .u16 0) ∧ w2.cell? ⟨w.heap.size, 2, none⟩ = some (.string ⟨#[]⟩) ∧ w2.cell? ⟨w.heap.size, 3, none⟩ = some (.int .i64 0) ∧ w2.cell? ⟨w.heap.size, 4, none⟩ = some (.bool false) ∧ ∀ i, w2.frozen? ⟨w.heap.size, i, none⟩ = false := by
 have q := T'.keep (heap_alloc_new _ _) (by simp)
 exact ⟨cell_at q rfl, cell_at q rfl, cell_at q rfl, cell_at q rfl, cell_at q rfl, froz_at q⟩
theorem tRun_no (h : Tm w t p c g nc ng Ps T N) (n : Int) (hn : W64 n) (hr : runOf T n = none) : Calls Tryz.prog 44 #[PT t, .int .i64 n] w fun e w' => e = .returned (.tuple #[.agg #[.int .i64 0, .int .u16 0, .string ⟨#[]⟩, .int .i64 0, .bool false], .bool false]) ∧ Touch [] w w' := by
 have HR := hid (fun o => tRecord (h.keep0 ((Touch.refl _ _).alloc o)) n hn)
 rw [h.notIn hr] at HR
 have HC := hid (fun w => run8_nil w)
 simp only [Option.getD_none] at HR
 have hz : w.heap.size < (w.alloc (.cells #[.int .i64 0, .int .u16 0, .string ⟨#[]⟩, .int .i64 0, .bool false] 53)).heap.size := by simp
 clear h
 have HK : Hid (∀ w2, Touch [] (w.alloc (.cells #[.int .i64 0, .int .u16 0, .string ⟨#[]⟩, .int .i64 0, .bool false] 53)) w2 → w2.cell? ⟨w.heap.size, 0, none⟩ = some (.int .i64 0) ∧ w2.cell? ⟨w.heap.size, 1, none⟩ = some (.int .u16 0) ∧ w2.cell? ⟨w.heap.size, 2, none⟩ = some (.string ⟨#[]⟩) ∧ w2.cell? ⟨w.heap.size, 3, none⟩ = some (.int .i64 0) ∧ w2.cell? ⟨w.heap.size, 4, none⟩ = some (.bool false) ∧ ∀ i, w2.frozen? ⟨w.heap.size, i, none⟩ = false) := fun w2 T' => box_run w w2 T'
 unfold PT at *
 go_enter Tryz.func44, Tryz.ntmps44
 go_wp2_with (first | (go_at_call 91; refine (HR.out _).mono ?_; rintro e w2 ⟨rfl, rfl⟩) | (go_at_call 92; refine (HC.out _).mono ?_; rintro e w2 ⟨rfl, t2⟩; obtain ⟨q0, q1, q2, q3, q4, qf⟩ := HK.out _ t2; have T2 := hid (((Touch.refl [] w).alloc _).trans' t2); clear t2))
 refine bodyPost_ret (v := .tuple #[.agg #[.int .i64 0, .int .u16 0, .string ⟨#[]⟩, .int .i64 0, .bool false], .bool false]) (by simp [results, Tryz.results44, go_sem, q0, q1, q2, q3, q4]) rfl ⟨rfl, ?_⟩
 repeat (first | exact T2.out | (refine Touch.setCell ?_ (Or.inr (by simp)) _))
theorem Tm.memR {A B : List Rb} {q : Rb} (h : Tm w t p c g nc ng (A ++ q :: B) T N) : (q.R, q.S) ∈ T.rs := by rw [h.rs]; simp [rsOf]
theorem Tm.w64 {A B : List Rb} {q : Rb} (h : Tm w t p c g nc ng (A ++ q :: B) T N) (hN : N ≤ 3000000000000) : W64 q.R.run := by
 have h1 := h.iv.rng _ h.memR
 have h2 := h.iv.bg.2
 simp only at h1
 exact W64.mk (by omega) (by omega)
theorem tRecord_at {A B : List Rb} {q : Rb} (h : Tm w t p c g nc ng (A ++ q :: B) T N) (hN : N ≤ 3000000000000) : Calls Tryz.prog 91 #[PT t, .int .i64 q.R.run] w fun e w' => e = .returned (PT q.b) ∧ w' = w := by
 have := tRecord h q.R.run (h.w64 hN)
 rw [ptr_mid h.after.1] at this
 exact this
theorem tWaiters_at {A B : List Rb} {q : Rb} (h : Tm w t p c g nc ng (A ++ q :: B) T N) (hN : N ≤ 3000000000000) : Calls Tryz.prog 51 #[PT t, .int .i64 q.R.run] w fun e w' => AlE e w w' q.S.who := by
 have HR := hid (tRecord_at h hN)
 have HC := hid (waiters18 w q.b N q.F q.R q.S (h.recs q (by simp)) hN)
 clear h
 unfold AlE at *
 unfold PT at *
 go_enter Tryz.func51, Tryz.ntmps51
 go_wp2_with (first | (go_at_call 91; refine HR.out.mono ?_; rintro e w ⟨rfl, rfl⟩) | (go_at_call 100; refine HC.out.mono ?_; rintro e w2 ⟨g', cap, rfl, r⟩; have RR := hid r; clear r))
 go_ret
 exact ⟨g', cap, rfl, RR.out⟩
theorem tRun_at {A B : List Rb} {q : Rb} (h : Tm w t p c g nc ng (A ++ q :: B) T N) (hN : N ≤ 3000000000000) : Calls Tryz.prog 44 #[PT t, .int .i64 q.R.run] w fun e w' => e = .returned (.tuple #[rv q.R, .bool true]) ∧ Touch [] w w' := by
 have HR := hid (fun o => tRecord_at (h.keep0 ((Touch.refl _ _).alloc o)) hN)
 have HC := hid (fun o => run8 (w.alloc o) q.b N q.F q.R q.S ((h.recs q (by simp)).keep0 ((Touch.refl _ _).alloc o)))
 have hz : w.heap.size < (w.alloc (.cells #[.int .i64 0, .int .u16 0, .string ⟨#[]⟩, .int .i64 0, .bool false] 53)).heap.size := by simp
 clear h
 have HK : Hid (∀ w2, Touch [] (w.alloc (.cells #[.int .i64 0, .int .u16 0, .string ⟨#[]⟩, .int .i64 0, .bool false] 53)) w2 → w2.cell? ⟨w.heap.size, 0, none⟩ = some (.int .i64 0) ∧ w2.cell? ⟨w.heap.size, 1, none⟩ = some (.int .u16 0) ∧ w2.cell? ⟨w.heap.size, 2, none⟩ = some (.string ⟨#[]⟩) ∧ w2.cell? ⟨w.heap.size, 3, none⟩ = some (.int .i64 0) ∧ w2.cell? ⟨w.heap.size, 4, none⟩ = some (.bool false) ∧ ∀ i, w2.frozen? ⟨w.heap.size, i, none⟩ = false) := fun w2 T' => box_run w w2 T'
 unfold PT rv at *
 go_enter Tryz.func44, Tryz.ntmps44
 go_wp2_with (first | (go_at_call 91; refine (HR.out _).mono ?_; rintro e w2 ⟨rfl, rfl⟩) | (go_at_call 92; refine (HC.out _).mono ?_; rintro e w2 ⟨rfl, t2⟩; obtain ⟨q0, q1, q2, q3, q4, qf⟩ := HK.out _ t2; have T2 := hid (((Touch.refl [] w).alloc _).trans' t2); clear t2))
 refine bodyPost_ret (v := .tuple #[.agg #[.int .i64 q.R.run, .int .u16 q.R.sp, .string q.R.nm, .int .i64 q.R.gen, .bool q.R.rf], .bool true]) (by simp [results, Tryz.results44, go_sem, q0, q1, q2, q3, q4]) rfl ⟨rfl, ?_⟩
 repeat (first | exact T2.out | (refine Touch.setCell ?_ (Or.inr (by simp)) _))
theorem runKey (w : World) (a b d : Int) (s : ByteArray) (e : Bool) : (Instr.field 53 (.agg #[.int .i64 a, .int .u16 b, .string s, .int .i64 d, .bool e]) 1).run Tryz.prog w = .ok (.agg #[.int .u16 b, .string s]) w := by kernel_rfl
set_option maxRecDepth 100000 in
theorem tIsCur_no (h : Tm w t p c g nc ng Ps T N) (n : Int) (hn : W64 n) (hr : runOf T n = none) : Calls Tryz.prog 94 #[PT t, .int .i64 n] w fun e w' => e = .returned (.bool false) ∧ Touch [] w w' := by
 have HR := hid (tRecord h n hn)
 rw [h.notIn hr] at HR
 simp only [Option.getD_none] at HR
 clear h
 unfold PT at *
 go_enter Tryz.func94, Tryz.ntmps94
 go_wp2_with (go_at_call 91; refine HR.out.mono ?_; rintro e w ⟨rfl, rfl⟩)
 have k0 : Touch [] w w.drew := (Touch.refl _ _).drew
 refine wp_region_H (S := fun w' => Touch [] w w') (by kernel_rfl) ?_
 refine wpH_take (i := 0) (v := (.pointer none)) (some 9) rfl rfl (by kernel_rfl) (by kernel_rfl) (by kernel_rfl) (fun _ _ _ h => h) (Or.inl ⟨by rfl, fun w' hS => (by go_simp)⟩) k0 ?_
 try simp only [Go.Act.put, Zx, Zy, Zz]
 refine wpH_take (i := 1) (v := (.bool false)) (some 10) rfl rfl (by kernel_rfl) (by kernel_rfl) (by kernel_rfl) (fun _ _ _ h => h) (Or.inl ⟨by rfl, fun w' hS => (by go_simp)⟩) k0 ?_
 try simp only [Go.Act.put, Zx, Zy, Zz]
 refine wpH_take (i := 2) (v := (.bool false)) (some 11) rfl rfl (by kernel_rfl) (by kernel_rfl) (by kernel_rfl) (fun _ _ _ h => h) (Or.inl ⟨by rfl, fun w' hS => (by go_simp)⟩) k0 ?_
 try simp only [Go.Act.put, Zx, Zy, Zz]
 refine wpH_take (i := 3) (v := undef) (some 12) rfl rfl (by kernel_rfl) (by kernel_rfl) (by kernel_rfl) (fun _ _ _ h => h) (Or.inr ⟨by rfl, rfl⟩) k0 ?_
 try simp only [Go.Act.put, Zx, Zy, Zz]
 refine wpH_take (i := 4) (v := undef) (some 13) rfl rfl (by kernel_rfl) (by kernel_rfl) (by kernel_rfl) (fun _ _ _ h => h) (Or.inr ⟨by rfl, rfl⟩) k0 ?_
 try simp only [Go.Act.put, Zx, Zy, Zz]
 refine wpH_take (i := 5) (v := undef) (some 14) rfl rfl (by kernel_rfl) (by kernel_rfl) (by kernel_rfl) (fun _ _ _ h => h) (Or.inr ⟨by rfl, rfl⟩) k0 ?_
 try simp only [Go.Act.put, Zx, Zy, Zz]
 refine wpH_take (i := 6) (v := undef) (some 15) rfl rfl (by kernel_rfl) (by kernel_rfl) (by kernel_rfl) (fun _ _ _ h => h) (Or.inr ⟨by rfl, rfl⟩) k0 ?_
 try simp only [Go.Act.put, Zx, Zy, Zz]
 refine wpH_take (i := 7) (v := undef) (some 16) rfl rfl (by kernel_rfl) (by kernel_rfl) (by kernel_rfl) (fun _ _ _ h => h) (Or.inr ⟨by rfl, rfl⟩) k0 ?_
 try simp only [Go.Act.put, Zx, Zy, Zz]
 refine wpH_take (i := 8) (v := undef) (some 17) rfl rfl (by kernel_rfl) (by kernel_rfl) (by kernel_rfl) (fun _ _ _ h => h) (Or.inr ⟨by rfl, rfl⟩) k0 ?_
 try simp only [Go.Act.put, Zx, Zy, Zz]
 refine wpH_take (i := 9) (v := undef) (some 18) rfl rfl (by kernel_rfl) (by kernel_rfl) (by kernel_rfl) (fun _ _ _ h => h) (Or.inr ⟨by rfl, rfl⟩) k0 ?_
 try simp only [Go.Act.put, Zx, Zy, Zz]
 refine wpH_take (i := 10) (v := undef) (some 19) rfl rfl (by kernel_rfl) (by kernel_rfl) (by kernel_rfl) (fun _ _ _ h => h) (Or.inr ⟨by rfl, rfl⟩) k0 ?_
 try simp only [Go.Act.put, Zx, Zy, Zz]
 refine wpH_take (i := 11) (v := undef) (some 20) rfl rfl (by kernel_rfl) (by kernel_rfl) (by kernel_rfl) (fun _ _ _ h => h) (Or.inr ⟨by rfl, rfl⟩) k0 ?_
 try simp only [Go.Act.put, Zx, Zy, Zz]
 refine wpH_take (i := 12) (v := undef) (some 21) rfl rfl (by kernel_rfl) (by kernel_rfl) (by kernel_rfl) (fun _ _ _ h => h) (Or.inr ⟨by rfl, rfl⟩) k0 ?_
 try simp only [Go.Act.put, Zx, Zy, Zz]
 refine wpH_take (i := 13) (v := (.bool false)) (some 22) rfl rfl (by kernel_rfl) (by kernel_rfl) (by kernel_rfl) (fun _ _ _ h => h) (Or.inl ⟨by rfl, fun w' hS => (by go_simp)⟩) k0 ?_
 try simp only [Go.Act.put, Zx, Zy, Zz]
 refine wpH_take (i := 14) (v := (.bool false)) (some 4) rfl rfl (by kernel_rfl) (by kernel_rfl) (by kernel_rfl) (fun _ _ _ h => h) (Or.inl ⟨by rfl, fun w' hS => (by go_simp)⟩) k0 ?_
 try simp only [Go.Act.put, Zx, Zy, Zz]
 refine wpAnyH_done (by kernel_rfl) ?_ _
 go_wp2
 go_ret
 exact ⟨rfl, k0⟩
set_option maxHeartbeats 2000000 in
set_option maxRecDepth 100000 in
theorem tIsCur_at {A B : List Rb} {q : Rb} (h : Tm w t p c g nc ng (A ++ q :: B) T N) (hN : N ≤ 3000000000000) : Calls Tryz.prog 94 #[PT t, .int .i64 q.R.run] w fun e w' => e = .returned (.bool (isCur T q.R)) ∧ Touch [] w w' := by
 have HR := hid (tRecord_at h hN)
 have HC : Hid (∀ w', Touch [] w w' → Calls Tryz.prog 92 #[PT q.b] w' fun e w2 => e = .returned (rv q.R) ∧ Touch [] w w2) := fun w' T' => (run8 w' q.b N q.F q.R q.S ((h.recs q (by simp)).keep0 T')).mono (fun e w2 hh => ⟨hh.1, T'.trans' hh.2⟩)
 have C3 : ∀ w', Touch [] w w' → w'.cell? ⟨t, 3, none⟩ = some (.map (some c)) := fun w' T' => (h.keep0 T').cs.c3
 have L0 : ∀ w', Touch [] w w' → (Instr.lookup 177 (.map (some c)) (.agg #[.int .u16 q.R.sp, .string q.R.nm]) false).run Tryz.prog w' = .ok (.int .i64 (((curOf T (kOf q.R)).map Rn.run).getD 0)) w' := fun w' T' => (h.keep0 T').lookC (h.iv.ok _ h.memR)
 have hB := curN_of_mem h.iv h.memR
 simp only at hB
 clear h
 generalize ((curOf T (kOf q.R)).map Rn.run).getD 0 = v at *
 have hb : (v == q.R.run) = isCur T q.R := by rw [← hB]; exact Bool.beq_eq_decide_eq _ _
 clear hB
 generalize isCur T q.R = B at *
 unfold PT rv at *
 go_enter Tryz.func94, Tryz.ntmps94
 go_wp2_with (go_at_call 91; refine HR.out.mono ?_; rintro e w ⟨rfl, rfl⟩)
 have k0 : Touch [] w w.drew := (Touch.refl _ _).drew
 refine wp_region_H (S := fun w' => Touch [] w w') (by kernel_rfl) ?_
 refine wpH_take (i := 0) (v := (.pointer (some ⟨q.b, 0, none⟩))) (some 9) rfl rfl (by kernel_rfl) (by kernel_rfl) (by kernel_rfl) (fun _ _ _ h => h) (Or.inl ⟨by rfl, fun w' hS => (by go_simp)⟩) k0 ?_
 try simp only [Go.Act.put, Zx, Zy, Zz]
 refine wpH_take (i := 1) (v := (.bool true)) (some 10) rfl rfl (by kernel_rfl) (by kernel_rfl) (by kernel_rfl) (fun _ _ _ h => h) (Or.inl ⟨by rfl, fun w' hS => (by go_simp)⟩) k0 ?_
 try simp only [Go.Act.put, Zx, Zy, Zz]
 refine wpH_take (i := 2) (v := (.bool true)) (some 11) rfl rfl (by kernel_rfl) (by kernel_rfl) (by kernel_rfl) (fun _ _ _ h => h) (Or.inl ⟨by rfl, fun w' hS => (by go_simp)⟩) k0 ?_
 try simp only [Go.Act.put, Zx, Zy, Zz]
 refine wpH_take (i := 3) (v := (.pointer (some ⟨t, 0, none⟩))) (some 12) rfl rfl (by kernel_rfl) (by kernel_rfl) (by kernel_rfl) (fun _ _ _ h => h) (Or.inl ⟨by rfl, fun w' hS => (by go_simp)⟩) k0 ?_
 try simp only [Go.Act.put, Zx, Zy, Zz]
 refine wpH_take (i := 4) (v := (.pointer (some ⟨t, 0, none⟩))) (some 13) rfl rfl (by kernel_rfl) (by kernel_rfl) (by kernel_rfl) (fun _ _ _ h => h) (Or.inl ⟨by rfl, fun w' hS => (by go_simp)⟩) k0 ?_
 try simp only [Go.Act.put, Zx, Zy, Zz]
 refine wpH_take (i := 5) (v := (.pointer (some ⟨t, 3, none⟩))) (some 14) rfl rfl (by kernel_rfl) (by kernel_rfl) (by kernel_rfl) (fun _ _ _ h => h) (Or.inl ⟨by rfl, fun w' hS => (by go_simp)⟩) k0 ?_
 try simp only [Go.Act.put, Zx, Zy, Zz]
 refine wpH_take (i := 6) (v := (.map (some c))) (some 15) rfl rfl (by kernel_rfl) (by kernel_rfl) (by kernel_rfl) (fun _ _ _ h => h) (Or.inl ⟨by rfl, fun w' hS => (by have z0 := C3 _ hS; go_simp)⟩) k0 ?_
 try simp only [Go.Act.put, Zx, Zy, Zz]
 refine wpH_take (i := 7) (v := (.pointer (some ⟨q.b, 0, none⟩))) (some 16) rfl rfl (by kernel_rfl) (by kernel_rfl) (by kernel_rfl) (fun _ _ _ h => h) (Or.inl ⟨by rfl, fun w' hS => (by go_simp)⟩) k0 ?_
 try simp only [Go.Act.put, Zx, Zy, Zz]
 refine wpH_take (i := 11) (v := (.int .i64 q.R.run)) (some 20) rfl rfl (by kernel_rfl) (by kernel_rfl) (by kernel_rfl) (fun _ _ _ h => h) (Or.inl ⟨by rfl, fun w' hS => (by go_simp)⟩) k0 ?_
 try simp only [Go.Act.put, Zx, Zy, Zz]
 refine wpH_call (i := 8) (o := { dst := some 17, op := Op.call { callee := Callee.value (Operand.func 92), args := #[Operand.tmp 16], argTypes := #[171] }, type := 53, pos := _, after := #[{ on := 7, ground := Ground.data }, { on := 2, ground := Ground.chain }, { on := 2, ground := Ground.guard }], guard := some (2, true) }) (by kernel_rfl) rfl (fun K' hK => ?_)
 rw [if_pos (by rfl)]
 go_simp
 refine (HC.out _ k0).mono ?_
 rintro e' w2 ⟨rfl, s2⟩
 refine hK.out _ _ s2 ?_
 clear hK
 try simp only [Go.Act.put, Zx, Zy, Zz]
 refine wpH_take (i := 9) (v := (.agg #[.int .u16 q.R.sp, .string q.R.nm])) (some 18) rfl rfl (by kernel_rfl) (by kernel_rfl) (by kernel_rfl) (fun _ _ _ h => h) (Or.inl ⟨by rfl, fun w' hS => (by have z0 := runKey w' q.R.run q.R.sp q.R.gen q.R.nm q.R.rf; go_simp)⟩) s2 ?_
 try simp only [Go.Act.put, Zx, Zy, Zz]
 refine wpH_take (i := 10) (v := (.int .i64 v)) (some 19) rfl rfl (by kernel_rfl) (by kernel_rfl) (by kernel_rfl) (fun _ _ _ h => h) (Or.inl ⟨by rfl, fun w' hS => (by have z0 := L0 _ hS; go_simp)⟩) s2 ?_
 try simp only [Go.Act.put, Zx, Zy, Zz]
 refine wpH_take (i := 12) (v := (.bool B)) (some 21) rfl rfl (by kernel_rfl) (by kernel_rfl) (by kernel_rfl) (fun _ _ _ h => h) (Or.inl ⟨by rfl, fun w' hS => (by go_simp)⟩) s2 ?_
 try simp only [Go.Act.put, Zx, Zy, Zz]
 refine wpH_take (i := 13) (v := (.bool B)) (some 22) rfl rfl (by kernel_rfl) (by kernel_rfl) (by kernel_rfl) (fun _ _ _ h => h) (Or.inl ⟨by rfl, fun w' hS => (by go_simp)⟩) s2 ?_
 try simp only [Go.Act.put, Zx, Zy, Zz]
 refine wpH_take (i := 14) (v := (.bool B)) (some 4) rfl rfl (by kernel_rfl) (by kernel_rfl) (by kernel_rfl) (fun _ _ _ h => h) (Or.inl ⟨by rfl, fun w' hS => (by go_simp)⟩) s2 ?_
 try simp only [Go.Act.put, Zx, Zy, Zz]
 refine wpAnyH_done (by kernel_rfl) ?_ _
 go_wp2
 go_ret
 exact ⟨rfl, s2⟩
theorem tJoin_no (h : Tm w t p c g nc ng Ps T N) (n x : Int) (hn : W64 n) (hr : runOf T n = none) : Calls Tryz.prog 86 #[PT t, .int .i64 n, .int .i64 x] w fun e w' => e = .returned (.int .i64 122) ∧ w' = w := by
 have HR := hid (tRecord h n hn)
 rw [h.notIn hr] at HR
 simp only [Option.getD_none] at HR
 clear h
 unfold PT at *
 go_enter Tryz.func86, Tryz.ntmps86
 go_wp2_with (go_at_call 91; refine HR.out.mono ?_; rintro e w ⟨rfl, rfl⟩)
 go_ret
 exact ⟨rfl, rfl⟩
theorem tJoin_at {A B : List Rb} {q : Rb} (h : Tm w t p c g nc ng (A ++ q :: B) T N) (hN : N ≤ 3000000000000) (x : Int) (hx : W64 x) : Calls Tryz.prog 86 #[PT t, .int .i64 q.R.run, .int .i64 x] w fun e w' => e = .returned (.int .i64 (joinE q.S x)) ∧ RqE w w' q.b q.F q.R (joinS q.S x) (N + 1) := by
 have HR := hid (tRecord_at h hN)
 have HJ := hid (join13 w q.b N q.F q.R q.S (h.recs q (by simp)) hN x hx)
 clear h
 unfold PT at *
 go_enter Tryz.func86, Tryz.ntmps86
 go_wp2_with (first | (go_at_call 91; refine HR.out.mono ?_; rintro e w ⟨rfl, rfl⟩) | (go_at_call 129; refine HJ.out.mono ?_; rintro e w2 ⟨rfl, r⟩; have RR := hid r; clear r))
 go_ret
 exact ⟨rfl, RR.out⟩
end
section
variable (w : World) (t : Nat) (F : List Nat) (T : Tb) (N : Nat)
def whoOf (T : Tb) (n : Int) : List Int := match runOf T n with | none => [] | some p => p.2.who
def rnOf (T : Tb) (n : Int) : Rn := match runOf T n with | none => ⟨0, 0, ⟨#[]⟩, 0, false⟩ | some p => p.1
def curBy (T : Tb) (n : Int) : Bool := match runOf T n with | none => false | some p => isCur T p.1
def WtE (e : Ending) (w w' : World) (xs : List Int) : Prop := ∃ v, e = .returned v ∧ Rd w' v xs ∧ (∀ b, v.ownBlock = some b → w.heap.size ≤ b) ∧ Touch [] w w'
theorem waitersT (h : Tq w t F T N) (hN : N ≤ 3000000000000) (n : Int) (hn : W64 n) : Calls Tryz.prog 51 #[PT t, .int .i64 n] w fun e w' => WtE e w w' (whoOf T n) := by
 obtain ⟨p, c, g, nc, ng, Ps, rfl, h, hL⟩ := h
 unfold whoOf
 cases hr : runOf T n with
 | none =>
  refine (tWaiters_no h n hn hr).mono ?_
  rintro e w' ⟨rfl, rfl⟩
  exact ⟨_, rfl, Rd.nil _, fun b hb => (by cases hb), Touch.refl _ _⟩
 | some r =>
  obtain ⟨A, q, B, rfl, rfl, rfl, _⟩ := h.found hr
  refine (tWaiters_at h hN).mono ?_
  rintro e w' ⟨g', cap, rfl, r1, r2⟩
  exact ⟨_, rfl, Rd.of_own r1, fun b hb => (r1.lt b hb).1, r2⟩
theorem runT (h : Tq w t F T N) (hN : N ≤ 3000000000000) (n : Int) (hn : W64 n) : Calls Tryz.prog 44 #[PT t, .int .i64 n] w fun e w' => e = .returned (.tuple #[rv (rnOf T n), .bool (runOf T n).isSome]) ∧ Touch [] w w' := by
 obtain ⟨p, c, g, nc, ng, Ps, rfl, h, hL⟩ := h
 unfold rnOf
 cases hr : runOf T n with
 | none => exact tRun_no h n hn hr
 | some r =>
  obtain ⟨A, q, B, rfl, rfl, rfl, _⟩ := h.found hr
  exact tRun_at h hN
theorem isCurT (h : Tq w t F T N) (hN : N ≤ 3000000000000) (n : Int) (hn : W64 n) : Calls Tryz.prog 94 #[PT t, .int .i64 n] w fun e w' => e = .returned (.bool (curBy T n)) ∧ Touch [] w w' := by
 obtain ⟨p, c, g, nc, ng, Ps, rfl, h, hL⟩ := h
 unfold curBy
 cases hr : runOf T n with
 | none => exact tIsCur_no h n hn hr
 | some r =>
  obtain ⟨A, q, B, rfl, rfl, rfl, _⟩ := h.found hr
  exact tIsCur_at h hN
theorem joinT (h : Tq w t F T N) (hN : N ≤ 3000000000000) (n x : Int) (hn : W64 n) (hx : W64 x) : Calls Tryz.prog 86 #[PT t, .int .i64 n, .int .i64 x] w fun e w' => e = .returned (.int .i64 (tJoinE T n x)) ∧ TqE w w' t F (tJoin T n x) (N + 1) := by
 unfold tJoinE tJoin
 cases hr : runOf T n with
 | none =>
  have hs := TqE.same h (Nat.le_succ N)
  obtain ⟨p, c, g, nc, ng, Ps, rfl, h, hL⟩ := h
  refine (tJoin_no h n x hn hr).mono ?_
  rintro e w' ⟨rfl, rfl⟩
  exact ⟨rfl, hs⟩
 | some r =>
  obtain ⟨p, c, g, nc, ng, Ps, rfl, h, hL⟩ := h
  obtain ⟨A, q, B, rfl, rfl, rfl, _⟩ := h.found hr
  refine (tJoin_at h hN x hx).mono ?_
  rintro e w' ⟨rfl, r⟩
  exact ⟨rfl, h.stepE r (Nat.le_succ N) hL (join_live (hL _ h.memR) x)⟩
end
end Go.Proofs.YtkfophlhpjbmgaaGreat.Ta
