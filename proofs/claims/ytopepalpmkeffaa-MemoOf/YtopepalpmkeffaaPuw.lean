/- The walk of put; a key's name has at most 64 bytes. -/
import Derived.Test.YtopepalpmkeffaaPut
namespace Go.Proofs.Ytopepalpmkeffaa
open Go.RowKit Go.Sort Go.Maps Go.ChangeMaps Go.WideMaps
set_option linter.unusedVariables false
set_option linter.unusedSimpArgs false
set_option maxHeartbeats 4000000 in
theorem put41_no (w : World) (m b o : Nat) (G : List Nat) (c : Cf) (now : Int) (xs : List En) (h : Mb w m b o G c now xs) (k : K) (hk : Ok k) (h64 : k.2.size ≤ 64) (v : V) (hv : right v.1 = true ∧ 0 ≤ v.2 ∧ v.2 ≤ now) (hb : useB c.e (keysL xs) k = false) :
    Calls Try.prog 41 #[PT m, kv k, ev v] w fun e w' => ∃ u, e = .returned u ∧ RT 39 w' u (goneL c.e xs k) ∧ Mc w m (m :: b :: G) c now (putL c.e xs k v) w' := by
  obtain ⟨V, hV⟩ : ∃ V, V = (w.alloc (bx k)).alloc (ebx v) := ⟨_, rfl⟩
  have TV : Touch [] w V := by rw [hV]; exact ((Touch.refl _ _).alloc _).alloc _
  have hB : V.heap[w.heap.size]? = some (bx k) := by rw [hV]; exact (Below.heap_alloc _ _ _ (by simp)).trans (heap_alloc_new w _)
  have hE : V.heap[w.heap.size + 1]? = some (ebx v) := by
    rw [hV]
    have := heap_alloc_new (w.alloc (bx k)) (ebx v)
    rwa [World.size_alloc] at this
  have hV' := h.keep0 TV
  obtain ⟨ob, hu, hmp⟩ := (show MapAt V.drew b _ _ from hV'.mp.kept rfl).set (t := 91) Try.underlying91 (maxLen_big (by have := h.len; omega)) hk (ev v)
  obtain ⟨W1, hW⟩ : ∃ W1, W1 = setBlock V.drew b ob := ⟨_, rfl⟩
  rw [← hW] at hu hmp
  have T1 : Touch [b] V W1 := by rw [hW]; exact touch_setBlock ((Touch.refl _ _).drew) (Or.inl (by simp)) _
  have hlt := h.lt
  have hbl := hlt b (by simp)
  have O1 : Oq W1 o G c.e (keysL xs) := hV'.oq.keep T1 (fun i hi hh => by simp only [List.mem_singleton] at hh; subst hh; exact h.bg hi)
  have m1 : Md W1 m c now b o := T1.keep hV'.md (by simpa using h.mb.symm)
  have B1 : W1.heap[w.heap.size]? = some (bx k) := T1.keep hB (by simp; omega)
  have hz1 : w.heap.size + 2 ≤ W1.heap.size := by have := T1.size; have := block_lt hE; omega
  have sA : ∀ w', Touch G W1 w' → w'.cell? ⟨m, 9, none⟩ = some (.pointer (some ⟨o, 0, none⟩)) := fun w' t => (show Md w' m c now b o from t.keep m1 h.mg).cs.c9
  have sB : ∀ w', Touch G W1 w' → w'.cell? ⟨w.heap.size, 0, none⟩ = some (.int .u16 k.1) := fun w' t => by
    have := t.keep B1 (fun hh => by have := hlt w.heap.size (by simp [hh]); omega)
    unfold bx at this
    simp [World.cell?, this]
  have sC : ∀ w', Touch G W1 w' → w'.cell? ⟨w.heap.size, 1, none⟩ = some (.string k.2) := fun w' t => by
    have := t.keep B1 (fun hh => by have := hlt w.heap.size (by simp [hh]); omega)
    unfold bx at this
    simp [World.cell?, this]
  have HU : Hid (∀ w2, Touch [] W1 w2 → Calls Try.prog 61 #[PT o, kv k] w2 fun e w' => e = .returned (.tuple #[kv (useG c.e (keysL xs) k), .bool false, .int .i64 0]) ∧ Ch w2 o G c.e (useL c.e (keysL xs) k) w') := fun w2 t => by
    have := useO w2 o G c.e (keysL xs) k hk h64 (by rw [keysL_len]; have := h.len; omega) (O1.keep0 t)
    rw [hb] at this
    exact this
  have HP : Hid (∀ w2 w3 W, Touch [] W1 w2 → Ch w2 o G c.e (useL c.e (keysL xs) k) w3 → (Touch [] w3 W ∨ ∃ q, Touch [q] w3 W ∧ W1.heap.size ≤ q ∧ q < w2.heap.size) → Pm w m b o G c now xs k v W) := fun w2 w3 W t2 c3 t4 => put_mid h TV hW hmp t2 c3 t4
  have HQ : Hid (∀ w2 w3, w2.heap[W1.heap.size]? = some (bx kz) → Ch w2 o G c.e (useL c.e (keysL xs) k) w3 → w3.heap[W1.heap.size]? = some (bx kz)) := fun w2 w3 q c3 => c3.block q (fun hh => by have := hlt W1.heap.size (by simp [hh]); omega)
  have c8 : V.cell? ⟨m, 8, none⟩ = some (.map (some b)) := hV'.md.cs.c8
  unfold bx at hB
  unfold ebx at hE
  have b0 : V.cell? ⟨w.heap.size, 0, none⟩ = some (.int .u16 k.1) := by simp [World.cell?, hB]
  have b1 : V.cell? ⟨w.heap.size, 1, none⟩ = some (.string k.2) := by simp [World.cell?, hB]
  have e0 : V.cell? ⟨w.heap.size + 1, 0, none⟩ = some (.int .i64 v.1.1) := by simp [World.cell?, hE]
  have e1 : V.cell? ⟨w.heap.size + 1, 1, none⟩ = some (.int .i64 v.1.2.1) := by simp [World.cell?, hE]
  have e2 : V.cell? ⟨w.heap.size + 1, 2, none⟩ = some (.int .i64 v.1.2.2.1) := by simp [World.cell?, hE]
  have e3 : V.cell? ⟨w.heap.size + 1, 3, none⟩ = some (.int .i64 v.1.2.2.2) := by simp [World.cell?, hE]
  have e4 : V.cell? ⟨w.heap.size + 1, 4, none⟩ = some (.int .i64 v.2) := by simp [World.cell?, hE]
  have tA : Hid (Touch [] W1 (W1.alloc (bx kz)).drew) := ((Touch.refl _ _).alloc _).drew
  have qA : Hid ((W1.alloc (bx kz)).drew.heap[W1.heap.size]? = some (bx kz)) := heap_alloc_new W1 _
  have tB : Hid (Touch [] W1 W1.drew) := (Touch.refl _ _).drew
  have SA : Hid (∀ w2 w3, Touch [] W1 w2 → Ch w2 o G c.e (useL c.e (keysL xs) k) w3 → Touch G W1 w3) := fun w2 w3 t c3 => by
    obtain ⟨G', c1, c2, c4⟩ := c3
    exact (t.mono (fun _ e => by cases e)).trans' c2
  have HEnd : Hid (∀ W, Pm w m b o G c now xs k v W → Mc w m (m :: b :: G) c now (putL c.e xs k v) W) := fun W p => p.end1 h.nd h.gd hv hb
  have hgo : goneL c.e xs k = [] := by unfold goneL; rw [hb]; rfl
  rw [hgo]
  have hbb : b < W1.heap.size := by omega
  clear h hV' hmp T1 O1 m1 B1 hB hE hW hv hk h64 hb hgo TV
  generalize useG c.e (keysL xs) k = g at *
  generalize useL c.e (keysL xs) k = ys at *
  generalize putL c.e xs k v = zs at *
  unfold PT kv ev at *
  unfold bx at HQ tA qA
  unfold kz at HQ tA qA
  go_enter Try.func41, Try.ntmps41
  go_wp2
  unfold bx ebx at hV
  rw [← hV]
  clear hV
  go_region
  clear b0 b1 e0 e1 e2 e3 e4 c8 hu
  go_upto_region 2 with fail
  go_region_held3 (fun w' => Touch G W1 w') (repeat (first | assumption | exact Touch.refl _ _ | apply Touch.alloc | apply Touch.drew | (refine Touch.setCell ?_ (Or.inr (by simp)) _)))
    (first
      | (go_at_call 61; refine (HU.out _ tA.out).mono ?_; rintro e w3 ⟨rfl, c3⟩; have s3 := SA.out _ _ tA.out c3; have hq := HQ.out _ _ qA.out c3; have y0 : w3.cell? ⟨W1.heap.size, 0, none⟩ = some (.int .u16 0) := (by simp [World.cell?, hq]); have y1 : w3.cell? ⟨W1.heap.size, 1, none⟩ = some (.string ⟨#[]⟩) := (by simp [World.cell?, hq]); have y2 : w3.frozen? ⟨W1.heap.size, 0, none⟩ = false := (by simp [World.frozen?, hq]); have y3 : w3.frozen? ⟨W1.heap.size, 1, none⟩ = false := (by simp [World.frozen?, hq]); have C3 := hid c3; clear c3)
      | (go_at_call 61; refine (HU.out _ tB.out).mono ?_; rintro e w3 ⟨rfl, c3⟩; have s3 := SA.out _ _ tB.out c3; have C3 := hid c3; clear c3))
  · clear sA sB sC
    obtain ⟨W, hWd⟩ : ∃ W, W = w3.alloc (.cells #[.int .u16 g.1, .string g.2] 39) := ⟨_, rfl⟩
    have P := hid (HP.out _ _ W tB.out C3.out (Or.inl (by rw [hWd]; exact (Touch.refl _ _).alloc _)))
    have hqq : W.heap[w3.heap.size]? = some (.cells #[.int .u16 g.1, .string g.2] 39 (0, 0)) := by rw [hWd]; exact heap_alloc_new w3 _
    have hqb : w3.heap.size ≠ b := by have := s3.size; omega
    rw [← hWd]
    clear hWd s3
    generalize w3.heap.size = q at *
    go_wp2
    go_ret
    exact ⟨_, rfl, RT.nil _ _, HEnd.out _ P.out⟩
  · clear sA sB sC
    obtain ⟨W, hWd⟩ : ∃ W, W = (w3.setCell ⟨W1.heap.size, 0, none⟩ (.int .u16 g.1)).setCell ⟨W1.heap.size, 1, none⟩ (.string g.2) := ⟨_, rfl⟩
    have P := hid (HP.out _ _ W tA.out C3.out (Or.inr ⟨W1.heap.size, by rw [hWd]; exact tset2 _ _ _ _, Nat.le_refl _, block_lt qA.out⟩))
    have hqq : W.heap[W1.heap.size]? = some (.cells #[.int .u16 g.1, .string g.2] 39 (0, 0)) := by rw [hWd]; exact bset (bset hq _) _
    have hqb : W1.heap.size ≠ b := by omega
    rw [← hWd]
    clear hWd s3 y0 y1 y2 y3 hq
    clear tA qA HQ tB SA HU HP C3
    generalize W1.heap.size = q at *
    go_wp2
    go_ret
    exact ⟨_, rfl, RT.nil _ _, HEnd.out _ P.out⟩
set_option maxHeartbeats 4000000 in
theorem put41_go (w : World) (m b o : Nat) (G : List Nat) (c : Cf) (now : Int) (xs : List En) (h : Mb w m b o G c now xs) (k : K) (hk : Ok k) (h64 : k.2.size ≤ 64) (v : V) (hv : right v.1 = true ∧ 0 ≤ v.2 ∧ v.2 ≤ now) (hb : useB c.e (keysL xs) k = true) :
    Calls Try.prog 41 #[PT m, kv k, ev v] w fun e w' => ∃ u, e = .returned u ∧ RT 39 w' u (goneL c.e xs k) ∧ Mc w m (m :: b :: G) c now (putL c.e xs k v) w' := by
  obtain ⟨V, hV⟩ : ∃ V, V = (w.alloc (bx k)).alloc (ebx v) := ⟨_, rfl⟩
  have TV : Touch [] w V := by rw [hV]; exact ((Touch.refl _ _).alloc _).alloc _
  have hB : V.heap[w.heap.size]? = some (bx k) := by rw [hV]; exact (Below.heap_alloc _ _ _ (by simp)).trans (heap_alloc_new w _)
  have hE : V.heap[w.heap.size + 1]? = some (ebx v) := by
    rw [hV]
    have := heap_alloc_new (w.alloc (bx k)) (ebx v)
    rwa [World.size_alloc] at this
  have hV' := h.keep0 TV
  obtain ⟨ob, hu, hmp⟩ := (show MapAt V.drew b _ _ from hV'.mp.kept rfl).set (t := 91) Try.underlying91 (maxLen_big (by have := h.len; omega)) hk (ev v)
  obtain ⟨W1, hW⟩ : ∃ W1, W1 = setBlock V.drew b ob := ⟨_, rfl⟩
  rw [← hW] at hu hmp
  have T1 : Touch [b] V W1 := by rw [hW]; exact touch_setBlock ((Touch.refl _ _).drew) (Or.inl (by simp)) _
  have hlt := h.lt
  have hbl := hlt b (by simp)
  have O1 : Oq W1 o G c.e (keysL xs) := hV'.oq.keep T1 (fun i hi hh => by simp only [List.mem_singleton] at hh; subst hh; exact h.bg hi)
  have m1 : Md W1 m c now b o := T1.keep hV'.md (by simpa using h.mb.symm)
  have B1 : W1.heap[w.heap.size]? = some (bx k) := T1.keep hB (by simp; omega)
  have hz1 : w.heap.size + 2 ≤ W1.heap.size := by have := T1.size; have := block_lt hE; omega
  have sA : ∀ w', Touch G W1 w' → w'.cell? ⟨m, 9, none⟩ = some (.pointer (some ⟨o, 0, none⟩)) := fun w' t => (show Md w' m c now b o from t.keep m1 h.mg).cs.c9
  have sB : ∀ w', Touch G W1 w' → w'.cell? ⟨w.heap.size, 0, none⟩ = some (.int .u16 k.1) := fun w' t => by
    have := t.keep B1 (fun hh => by have := hlt w.heap.size (by simp [hh]); omega)
    unfold bx at this
    simp [World.cell?, this]
  have sC : ∀ w', Touch G W1 w' → w'.cell? ⟨w.heap.size, 1, none⟩ = some (.string k.2) := fun w' t => by
    have := t.keep B1 (fun hh => by have := hlt w.heap.size (by simp [hh]); omega)
    unfold bx at this
    simp [World.cell?, this]
  have HU : Hid (∀ w2, Touch [] W1 w2 → Calls Try.prog 61 #[PT o, kv k] w2 fun e w' => e = .returned (.tuple #[kv (useG c.e (keysL xs) k), .bool true, .int .i64 0]) ∧ Ch w2 o G c.e (useL c.e (keysL xs) k) w') := fun w2 t => by
    have := useO w2 o G c.e (keysL xs) k hk h64 (by rw [keysL_len]; have := h.len; omega) (O1.keep0 t)
    rw [hb] at this
    exact this
  have HP : Hid (∀ w2 w3 W, Touch [] W1 w2 → Ch w2 o G c.e (useL c.e (keysL xs) k) w3 → (Touch [] w3 W ∨ ∃ q, Touch [q] w3 W ∧ W1.heap.size ≤ q ∧ q < w2.heap.size) → Pm w m b o G c now xs k v W) := fun w2 w3 W t2 c3 t4 => put_mid h TV hW hmp t2 c3 t4
  have HQ : Hid (∀ w2 w3, w2.heap[W1.heap.size]? = some (bx kz) → Ch w2 o G c.e (useL c.e (keysL xs) k) w3 → w3.heap[W1.heap.size]? = some (bx kz)) := fun w2 w3 q c3 => c3.block q (fun hh => by have := hlt W1.heap.size (by simp [hh]); omega)
  have c8 : V.cell? ⟨m, 8, none⟩ = some (.map (some b)) := hV'.md.cs.c8
  unfold bx at hB
  unfold ebx at hE
  have b0 : V.cell? ⟨w.heap.size, 0, none⟩ = some (.int .u16 k.1) := by simp [World.cell?, hB]
  have b1 : V.cell? ⟨w.heap.size, 1, none⟩ = some (.string k.2) := by simp [World.cell?, hB]
  have e0 : V.cell? ⟨w.heap.size + 1, 0, none⟩ = some (.int .i64 v.1.1) := by simp [World.cell?, hE]
  have e1 : V.cell? ⟨w.heap.size + 1, 1, none⟩ = some (.int .i64 v.1.2.1) := by simp [World.cell?, hE]
  have e2 : V.cell? ⟨w.heap.size + 1, 2, none⟩ = some (.int .i64 v.1.2.2.1) := by simp [World.cell?, hE]
  have e3 : V.cell? ⟨w.heap.size + 1, 3, none⟩ = some (.int .i64 v.1.2.2.2) := by simp [World.cell?, hE]
  have e4 : V.cell? ⟨w.heap.size + 1, 4, none⟩ = some (.int .i64 v.2) := by simp [World.cell?, hE]
  have tA : Hid (Touch [] W1 (W1.alloc (bx kz)).drew) := ((Touch.refl _ _).alloc _).drew
  have qA : Hid ((W1.alloc (bx kz)).drew.heap[W1.heap.size]? = some (bx kz)) := heap_alloc_new W1 _
  have tB : Hid (Touch [] W1 W1.drew) := (Touch.refl _ _).drew
  have SA : Hid (∀ w2 w3, Touch [] W1 w2 → Ch w2 o G c.e (useL c.e (keysL xs) k) w3 → Touch G W1 w3) := fun w2 w3 t c3 => by
    obtain ⟨G', c1, c2, c4⟩ := c3
    exact (t.mono (fun _ e => by cases e)).trans' c2
  have HEnd : Hid (∀ W, Pm w m b o G c now xs k v W → (W.cell? ⟨m, 8, none⟩ = some (.map (some b)) ∧ W.cell? ⟨m, 8, none⟩ = some (.map (some b))) ∧ ∀ ty, ∃ ob, (Builtin.delete_ #[91, 39] ty #[.map (some b), kv (useG c.e (keysL xs) k)]).run Try.prog W.drew = .ok (.tuple #[]) (setBlock W.drew b ob) ∧ b ≠ w.heap.size ∧ Mc w m (m :: b :: G) c now (putL c.e xs k v) (setBlock W.drew b ob)) := fun W p => by
    refine ⟨⟨p.md.cs.c8, p.md.cs.c8⟩, fun ty => ?_⟩
    obtain ⟨ob2, u1, u2⟩ := p.end2 h.nd h.ok hk h.gd hv hb ty
    exact ⟨ob2, u1, by omega, u2⟩
  have hgo : goneL c.e xs k = [useG c.e (keysL xs) k] := by unfold goneL; rw [hb]; rfl
  rw [hgo]
  have hbb : b < W1.heap.size := by omega
  clear h hV' hmp T1 O1 m1 B1 hB hE hW hv hk h64 hb hgo TV
  generalize useG c.e (keysL xs) k = g at *
  generalize useL c.e (keysL xs) k = ys at *
  generalize putL c.e xs k v = zs at *
  unfold PT kv ev at *
  unfold bx at HQ tA qA
  unfold kz at HQ tA qA
  go_enter Try.func41, Try.ntmps41
  go_wp2
  unfold bx ebx at hV
  rw [← hV]
  clear hV
  go_region
  clear b0 b1 e0 e1 e2 e3 e4 c8 hu
  go_upto_region 2 with fail
  go_region_held3 (fun w' => Touch G W1 w') (repeat (first | assumption | exact Touch.refl _ _ | apply Touch.alloc | apply Touch.drew | (refine Touch.setCell ?_ (Or.inr (by simp)) _)))
    (first
      | (go_at_call 61; refine (HU.out _ tA.out).mono ?_; rintro e w3 ⟨rfl, c3⟩; have s3 := SA.out _ _ tA.out c3; have hq := HQ.out _ _ qA.out c3; have y0 : w3.cell? ⟨W1.heap.size, 0, none⟩ = some (.int .u16 0) := (by simp [World.cell?, hq]); have y1 : w3.cell? ⟨W1.heap.size, 1, none⟩ = some (.string ⟨#[]⟩) := (by simp [World.cell?, hq]); have y2 : w3.frozen? ⟨W1.heap.size, 0, none⟩ = false := (by simp [World.frozen?, hq]); have y3 : w3.frozen? ⟨W1.heap.size, 1, none⟩ = false := (by simp [World.frozen?, hq]); have C3 := hid c3; clear c3)
      | (go_at_call 61; refine (HU.out _ tB.out).mono ?_; rintro e w3 ⟨rfl, c3⟩; have s3 := SA.out _ _ tB.out c3; have C3 := hid c3; clear c3))
  · clear sA sB sC
    obtain ⟨W, hWd⟩ : ∃ W, W = w3.alloc (.cells #[.int .u16 g.1, .string g.2] 39) := ⟨_, rfl⟩
    have P := hid (HP.out _ _ W tB.out C3.out (Or.inl (by rw [hWd]; exact (Touch.refl _ _).alloc _)))
    have hqq : W.heap[w3.heap.size]? = some (.cells #[.int .u16 g.1, .string g.2] 39 (0, 0)) := by rw [hWd]; exact heap_alloc_new w3 _
    have hqb : w3.heap.size ≠ b := by have := s3.size; omega
    rw [← hWd]
    clear hWd s3
    generalize w3.heap.size = q at *
    obtain ⟨⟨c8, _⟩, hdel⟩ := HEnd.out W P.out
    obtain ⟨ob2, hu2, _, hmc⟩ := hdel 0
    have q0 : W.cell? ⟨q, 0, none⟩ = some (.int .u16 g.1) := by simp [World.cell?, hqq]
    have q1 : W.cell? ⟨q, 1, none⟩ = some (.string g.2) := by simp [World.cell?, hqq]
    obtain ⟨W4, hW4⟩ : ∃ W4, W4 = setBlock W.drew b ob2 := ⟨_, rfl⟩
    rw [← hW4] at hu2 hmc
    have k0 : W4.cell? ⟨q, 0, none⟩ = some (.int .u16 g.1) := by rw [hW4, cell_setBlock _ hqb]; exact q0
    have k1 : W4.cell? ⟨q, 1, none⟩ = some (.string g.2) := by rw [hW4, cell_setBlock _ hqb]; exact q1
    have HM := hid hmc
    clear hdel hW4 hmc hqq
    go_upto_region 5 with fail
    go_region
    clear q0 q1 c8
    go_wp2
    go_ret
    exact ⟨_, rfl, RT.one (heap_alloc_new W4 _), HM.out.keep0 ((Touch.refl _ _).alloc _)⟩
  · clear sA sB sC
    obtain ⟨W, hWd⟩ : ∃ W, W = (w3.setCell ⟨W1.heap.size, 0, none⟩ (.int .u16 g.1)).setCell ⟨W1.heap.size, 1, none⟩ (.string g.2) := ⟨_, rfl⟩
    have P := hid (HP.out _ _ W tA.out C3.out (Or.inr ⟨W1.heap.size, by rw [hWd]; exact tset2 _ _ _ _, Nat.le_refl _, block_lt qA.out⟩))
    have hqq : W.heap[W1.heap.size]? = some (.cells #[.int .u16 g.1, .string g.2] 39 (0, 0)) := by rw [hWd]; exact bset (bset hq _) _
    have hqb : W1.heap.size ≠ b := by omega
    rw [← hWd]
    clear hWd s3 y0 y1 y2 y3 hq
    clear tA qA HQ tB SA HU HP C3
    generalize W1.heap.size = q at *
    obtain ⟨⟨c8, _⟩, hdel⟩ := HEnd.out W P.out
    obtain ⟨ob2, hu2, _, hmc⟩ := hdel 0
    have q0 : W.cell? ⟨q, 0, none⟩ = some (.int .u16 g.1) := by simp [World.cell?, hqq]
    have q1 : W.cell? ⟨q, 1, none⟩ = some (.string g.2) := by simp [World.cell?, hqq]
    obtain ⟨W4, hW4⟩ : ∃ W4, W4 = setBlock W.drew b ob2 := ⟨_, rfl⟩
    rw [← hW4] at hu2 hmc
    have k0 : W4.cell? ⟨q, 0, none⟩ = some (.int .u16 g.1) := by rw [hW4, cell_setBlock _ hqb]; exact q0
    have k1 : W4.cell? ⟨q, 1, none⟩ = some (.string g.2) := by rw [hW4, cell_setBlock _ hqb]; exact q1
    have HM := hid hmc
    clear hdel hW4 hmc hqq
    go_upto_region 5 with fail
    go_region
    clear q0 q1 c8
    go_wp2
    go_ret
    exact ⟨_, rfl, RT.one (heap_alloc_new W4 _), HM.out.keep0 ((Touch.refl _ _).alloc _)⟩
theorem putM (w : World) (m : Nat) (F : List Nat) (c : Cf) (now : Int) (xs : List En) (h : Mq w m F c now xs) (k : K) (hk : Ok k) (h64 : k.2.size ≤ 64) (v : V) (hv : right v.1 = true ∧ 0 ≤ v.2 ∧ v.2 ≤ now) :
    Calls Try.prog 41 #[PT m, kv k, ev v] w fun e w' => ∃ u, e = .returned u ∧ RT 39 w' u (goneL c.e xs k) ∧ Mc w m F c now (putL c.e xs k v) w' := by
  obtain ⟨b, o, G, rfl, h⟩ := h
  cases hb : useB c.e (keysL xs) k with
  | false => exact put41_no w m b o G c now xs h k hk h64 v hv hb
  | true => exact put41_go w m b o G c now xs h k hk h64 v hv hb
end Go.Proofs.Ytopepalpmkeffaa
