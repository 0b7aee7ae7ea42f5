/- The contract of Tell; a key's space is a number of 16 bits, a name's length fits. -/
import Derived.Test.YtopepalpmkeffaaKep
namespace Go.Proofs.Ytopepalpmkeffaa
open Go.RowKit Go.Sort Go.Maps Go.ChangeMaps Go.WideMaps
set_option linter.unusedVariables false
set_option linter.unusedSimpArgs false
/-- Behind a use of a key that is there it stands last. -/
def useX (xs : List En) (k : K) : List En := match fnd xs k with
  | none => xs
  | some v => putY xs k v
def isUse (h : Int) : Bool := decide (h = 1) || decide (h = 2)
def tellX (c : Cf) (now n : Int) (xs : List En) (k : K) : List En := if isUse (askR c now n xs k).1 then useX xs k else xs
theorem mpf_use {xs : List En} {k : K} {v : V} (h : fnd xs k = some v) : mpf (putY xs k v) = mpf xs := by
  funext j
  unfold mpf
  rw [fnd_putY]
  by_cases e : j = k
  · rw [if_pos e, e, h]
  · rw [if_neg e]
theorem putY_len' {xs : List En} {k : K} {v : V} (hn : (keysL xs).Nodup) (h : fnd xs k = some v) : (putY xs k v).length = xs.length := by
  rw [putY_len hn]
  unfold mpf
  rw [h]
  rfl
theorem Gd.use {c : Cf} {now : Int} {xs : List En} {k : K} {v : V} (h : Gd c now xs) (hn : (keysL xs).Nodup) (hf : fnd xs k = some v) : Gd c now (putY xs k v) :=
  h.sub (fun x hx => (mem_putY hx).elim id (fun e => e ▸ fnd_mem hf)) (Nat.le_of_eq (putY_len' hn hf))
/-- The memo behind a Touch of the order. -/
theorem Mb.touch {w w' : World} {m b o : Nat} {G : List Nat} {c : Cf} {now : Int} {xs : List En} {k : K} {v : V} (h : Mb w m b o G c now xs) (hf : fnd xs k = some v) (hc : Ch w o G c.e (dr (keysL xs) k ++ [k]) w') : Mc w m (m :: b :: G) c now (putY xs k v) w' := by
  obtain ⟨G', c1, c2, c3⟩ := hc
  have hlt := h.lt
  refine ⟨m :: b :: G', ⟨b, o, G', rfl, c2.keep h.md h.mg, ?_, ?_, h.gd.use h.nd hf, fun hh => (c3 b hh).elim h.bg (fun e => by have := hlt b (by simp); omega)⟩, c2.mono (fun i hi => by simp [hi]), fun i hi => ?_⟩
  · rw [putY_len' h.nd hf, mpf_use hf]
    exact h.mp.kept (c2.block b h.mp.lt h.bg)
  · rw [putY_keys]
    exact c1
  · simp only [List.mem_cons] at hi ⊢
    rcases hi with rfl | rfl | hi
    · exact Or.inl (Or.inl rfl)
    · exact Or.inl (Or.inr (Or.inl rfl))
    · exact (c3 i hi).elim (fun e => Or.inl (Or.inr (Or.inr e))) Or.inr
def sbx (h a : Int) (x : O) : Obj := .cells #[.int .i64 h, .int .i64 a, .int .i64 x.1, .int .i64 x.2.1, .int .i64 x.2.2.1, .int .i64 x.2.2.2] 75
structure S6 (w : World) (r : Nat) (h a : Int) (x : O) : Prop where
  c0 : w.cell? ⟨r, 0, none⟩ = some (.int .i64 h)
  c1 : w.cell? ⟨r, 1, none⟩ = some (.int .i64 a)
  c2 : w.cell? ⟨r, 2, none⟩ = some (.int .i64 x.1)
  c3 : w.cell? ⟨r, 3, none⟩ = some (.int .i64 x.2.1)
  c4 : w.cell? ⟨r, 4, none⟩ = some (.int .i64 x.2.2.1)
  c5 : w.cell? ⟨r, 5, none⟩ = some (.int .i64 x.2.2.2)
theorem S6.mk' {w : World} {r : Nat} {h a : Int} {x : O} (hh : w.heap[r]? = some (sbx h a x)) : S6 w r h a x := by
  unfold sbx at hh
  constructor <;> simp [World.cell?, hh]
structure TlV (w : World) (k : K) (V : World) : Prop where
  t : Touch [] w V
  hB : V.heap[w.heap.size]? = some (bx k)
  hZ : V.heap[w.heap.size + 1]? = some zbx
theorem TlV.mk' (w : World) (k : K) : TlV w k ((w.alloc (bx k)).alloc zbx) :=
  ⟨((Touch.refl _ _).alloc _).alloc _, (Below.heap_alloc _ _ _ (by simp)).trans (heap_alloc_new w _), by
    have := heap_alloc_new (w.alloc (bx k)) zbx
    rwa [World.size_alloc] at this⟩
set_option maxHeartbeats 2000000 in
theorem tell22_not (w : World) (m : Nat) (F : List Nat) (c : Cf) (now n : Int) (xs : List En) (h : Mq w m F c now xs) (k : K) (ok : Ok k) (hu : isUse (askR c now n xs k).1 = false) :
    Calls Try.prog 22 #[PT m, .int .i64 n, kv k] w fun e w' => e = .returned (.tuple #[lv (askR c now n xs k), .int .i64 (askE now n k)]) ∧ Mc w m F c (askN now n k) xs w' := by
  obtain ⟨V, hV⟩ : ∃ V, V = (w.alloc (bx k)).alloc zbx := ⟨_, rfl⟩
  have KV : TlV w k V := by rw [hV]; exact TlV.mk' w k
  have hF := h.lt
  have HL := hid (lookM V m F c now n xs (h.keep0 KV.t) k ok)
  generalize askR c now n xs k = s at *
  generalize askE now n k = E at *
  generalize askN now n k = n' at *
  obtain ⟨sh, sa, so⟩ := s
  have HW : Hid (∀ w2, Mc V m F c n' xs w2 → Z6 (w2.alloc (sbx sh sa so)) (w.heap.size + 1) ∧ S6 (w2.alloc (sbx sh sa so)) w2.heap.size sh sa so ∧ ∀ w5, Touch [w.heap.size + 1] (w2.alloc (sbx sh sa so)) w5 → Mc w m F c n' xs w5) := fun w2 C => by
    have hz := block_lt KV.hZ
    have C' := C.keep0 ((Touch.refl [] w2).alloc (sbx sh sa so))
    exact ⟨Z6.mk' (C'.block KV.hZ (fun hh => by have := hF _ hh; omega)), S6.mk' (heap_alloc_new w2 _), fun w5 t5 => C'.own t5 KV.t (Nat.le_succ _) hz hF⟩
  unfold isUse at hu
  simp only [Bool.or_eq_false_iff, decide_eq_false_iff_not] at hu
  have u1 : (sh == 1) = false := by simp [hu.1]
  have u2 : (sh == 2) = false := by simp [hu.2]
  have hB := KV.hB
  unfold bx at hB
  have b0 : V.cell? ⟨w.heap.size, 0, none⟩ = some (.int .u16 k.1) := by simp [World.cell?, hB]
  have b1 : V.cell? ⟨w.heap.size, 1, none⟩ = some (.string k.2) := by simp [World.cell?, hB]
  clear KV hB hu h ok hF
  unfold PT kv lv sv at *
  unfold sbx at HW
  simp only at HL HW ⊢
  go_enter Try.func22, Try.ntmps22
  go_upto_region 1 with fail
  unfold bx zbx at hV
  rw [← hV]
  clear hV
  go_wp2_with (go_at_call 21; refine HL.out.mono ?_; rintro e w2 ⟨rfl, c2⟩; obtain ⟨hz, hs, hc⟩ := HW.out _ c2; obtain ⟨z0, z1, z2, z3, z4, z5, f0, f1, f2, f3, f4, f5⟩ := hz; obtain ⟨s0, s1, s2, s3, s4, s5⟩ := hs; have HC := hid hc; clear hc c2)
  refine bodyPost_ret (v := .tuple #[.agg #[.int .i64 sh, .int .i64 sa, .int .i64 so.1, .int .i64 so.2.1, .int .i64 so.2.2.1, .int .i64 so.2.2.2], .int .i64 E]) (by simp [results, Try.results22, go_sem, z0, z1, z2, z3, z4, z5]) rfl ⟨rfl, ?_⟩
  exact HC.out _ (tset6 _ _ _ _ _ _ _ _)
set_option maxHeartbeats 2000000 in
theorem tell22_yes (w : World) (m : Nat) (F : List Nat) (c : Cf) (now n : Int) (xs : List En) (h : Mq w m F c now xs) (k : K) (ok : Ok k) (hu : isUse (askR c now n xs k).1 = true) (v : V) (hf : fnd xs k = some v) :
    Calls Try.prog 22 #[PT m, .int .i64 n, kv k] w fun e w' => e = .returned (.tuple #[lv (askR c now n xs k), .int .i64 (askE now n k)]) ∧ Mc w m F c (askN now n k) (putY xs k v) w' := by
  obtain ⟨V, hV⟩ : ∃ V, V = (w.alloc (bx k)).alloc zbx := ⟨_, rfl⟩
  have KV : TlV w k V := by rw [hV]; exact TlV.mk' w k
  have hF := h.lt
  have HL := hid (lookM V m F c now n xs (h.keep0 KV.t) k ok)
  generalize askR c now n xs k = s at *
  generalize askE now n k = E at *
  generalize askN now n k = n' at *
  obtain ⟨sh, sa, so⟩ := s
  have HW : Hid (∀ w2, Mc V m F c n' xs w2 → ∃ o G, (∀ w', Touch G (w2.alloc (sbx sh sa so)) w' → w'.cell? ⟨m, 9, none⟩ = some (.pointer (some ⟨o, 0, none⟩)) ∧ (w'.cell? ⟨w.heap.size, 0, none⟩ = some (.int .u16 k.1) ∧ w'.cell? ⟨w.heap.size, 1, none⟩ = some (.string k.2)) ∧ Z6 w' (w.heap.size + 1) ∧ S6 w' w2.heap.size sh sa so) ∧
      (Calls Try.prog 51 #[PT o, kv k] (w2.alloc (sbx sh sa so)).drew fun e w' => e = .returned (.bool true) ∧ Touch G (w2.alloc (sbx sh sa so)) w' ∧ ∀ w5, Touch [w.heap.size + 1] w' w5 → Mc w m F c n' (putY xs k v) w5)) := fun w2 C => by
    have hz := block_lt KV.hZ
    obtain ⟨F2, C1, C2, C3⟩ := C.keep0 ((Touch.refl [] w2).alloc (sbx sh sa so))
    obtain ⟨b, o, G, rfl, hm⟩ := C1
    have hlt := hm.lt
    have hzz := (Mc.keep0 C (Touch.refl [] w2))
    have hw2 : V.heap.size ≤ w2.heap.size := by obtain ⟨_, _, t, _⟩ := C; exact t.size
    have hw2' : w.heap.size + 2 ≤ V.heap.size := by omega
    have nG : ∀ q, w.heap.size ≤ q → q < V.heap.size → ¬ q ∈ m :: b :: G := fun q h1 h2 hh => by
      rcases C3 q hh with e | e
      · have := hF q e; omega
      · omega
    have nG2 : ¬ w2.heap.size ∈ G := hm.oq.away (heap_alloc_new w2 (sbx sh sa so)) (by decide) (by decide)
    refine ⟨o, G, fun w' t => ?_, ?_⟩
    · have k1 := t.keep (C2.keep KV.hB (fun hh => by have := hF _ hh; omega)) (fun hh => nG w.heap.size (Nat.le_refl _) (by omega) (by simp [hh]))
      unfold bx at k1
      exact ⟨(show Md w' m c n' b o from t.keep hm.md hm.mg).cs.c9, by simp [World.cell?, k1], Z6.mk' (t.keep (C2.keep KV.hZ (fun hh => by have := hF _ hh; omega)) (fun hh => nG (w.heap.size + 1) (by omega) (by omega) (by simp [hh]))), S6.mk' (t.keep (heap_alloc_new w2 (sbx sh sa so)) nG2)⟩
    · have hd := hm.keep0 ((Touch.refl [] _).drew)
      refine (touchO_yes _ o G c.e (keysL xs) k ?_ hd.oq).mono ?_
      · by_cases e : k ∈ keysL xs
        · exact e
        · rw [fnd_none e] at hf; cases hf
      · rintro e w3 ⟨rfl, c3⟩
        have M3 := hd.touch hf c3
        refine ⟨rfl, ?_, fun w5 t5 => ?_⟩
        · obtain ⟨_, _, t, _⟩ := c3
          exact ((Touch.refl G _).drew).trans' t
        · have M4 : Mc V m F c n' (putY xs k v) w3 := by
            obtain ⟨F3, m1, m2, m3⟩ := M3
            exact ⟨F3, m1, (C2.trans (((Touch.refl (m :: b :: G) _).drew).trans' m2) C3), C3.trans (fun i hi => m3 i hi) C2.size⟩
          exact M4.own t5 KV.t (Nat.le_succ _) hz hF
  have hB := KV.hB
  unfold bx at hB
  have b0 : V.cell? ⟨w.heap.size, 0, none⟩ = some (.int .u16 k.1) := by simp [World.cell?, hB]
  have b1 : V.cell? ⟨w.heap.size, 1, none⟩ = some (.string k.2) := by simp [World.cell?, hB]
  clear KV hB h ok hF hf
  generalize putY xs k v = ys at *
  unfold isUse at hu
  simp only [Bool.or_eq_true, decide_eq_true_eq] at hu
  unfold PT kv lv sv at *
  unfold sbx at HW
  simp only at HL HW ⊢
  rcases hu with hu | hu
  · subst hu
    go_enter Try.func22, Try.ntmps22
    go_upto_region 1 with fail
    unfold bx zbx at hV
    rw [← hV]
    clear hV
    go_upto_region 3 with (go_at_call 21; refine HL.out.mono ?_; rintro e w2 ⟨rfl, c2⟩; have C2 := hid c2; clear c2)
    obtain ⟨o, G, h1, h2⟩ := HW.out _ C2.out
    obtain ⟨W, hW⟩ : ∃ W, W = w2.alloc (.cells #[.int .i64 1, .int .i64 sa, .int .i64 so.1, .int .i64 so.2.1, .int .i64 so.2.2.1, .int .i64 so.2.2.2] 75) := ⟨_, rfl⟩
    rw [← hW] at h1 h2 ⊢
    clear hW b0 b1
    have sA : ∀ w', Touch G W w' → w'.cell? ⟨m, 9, none⟩ = some (.pointer (some ⟨o, 0, none⟩)) := fun w' t => (h1 w' t).1
    have sB : ∀ w', Touch G W w' → w'.cell? ⟨w.heap.size, 0, none⟩ = some (.int .u16 k.1) := fun w' t => (h1 w' t).2.1.1
    have sC : ∀ w', Touch G W w' → w'.cell? ⟨w.heap.size, 1, none⟩ = some (.string k.2) := fun w' t => (h1 w' t).2.1.2
    have H1 : Hid (∀ w', Touch G W w' → Z6 w' (w.heap.size + 1) ∧ S6 w' w2.heap.size 1 sa so) := fun w' t => (h1 w' t).2.2
    have H2 := hid h2
    clear h1 h2
    have t0 : Touch G W W.drew := (Touch.refl _ _).drew
    go_region_held3 (fun w' => Touch G W w') (first | assumption | exact (Touch.refl _ _).drew) ((go_at_call 51; refine H2.out.mono ?_; rintro e w3 ⟨rfl, t3, c3⟩; have C3 := hid c3; clear c3))
    obtain ⟨hz, hs⟩ := H1.out _ t3
    obtain ⟨z0, z1, z2, z3, z4, z5, f0, f1, f2, f3, f4, f5⟩ := hz
    obtain ⟨s0, s1, s2, s3, s4, s5⟩ := hs
    clear sA sB sC t0 t3
    go_wp2
    refine bodyPost_ret (v := .tuple #[.agg #[.int .i64 1, .int .i64 sa, .int .i64 so.1, .int .i64 so.2.1, .int .i64 so.2.2.1, .int .i64 so.2.2.2], .int .i64 E]) (by simp [results, Try.results22, go_sem, z0, z1, z2, z3, z4, z5]) rfl ⟨rfl, ?_⟩
    exact C3.out _ (tset6 _ _ _ _ _ _ _ _)
  · subst hu
    go_enter Try.func22, Try.ntmps22
    go_upto_region 1 with fail
    unfold bx zbx at hV
    rw [← hV]
    clear hV
    go_upto_region 3 with (go_at_call 21; refine HL.out.mono ?_; rintro e w2 ⟨rfl, c2⟩; have C2 := hid c2; clear c2)
    obtain ⟨o, G, h1, h2⟩ := HW.out _ C2.out
    obtain ⟨W, hW⟩ : ∃ W, W = w2.alloc (.cells #[.int .i64 2, .int .i64 sa, .int .i64 so.1, .int .i64 so.2.1, .int .i64 so.2.2.1, .int .i64 so.2.2.2] 75) := ⟨_, rfl⟩
    rw [← hW] at h1 h2 ⊢
    clear hW b0 b1
    have sA : ∀ w', Touch G W w' → w'.cell? ⟨m, 9, none⟩ = some (.pointer (some ⟨o, 0, none⟩)) := fun w' t => (h1 w' t).1
    have sB : ∀ w', Touch G W w' → w'.cell? ⟨w.heap.size, 0, none⟩ = some (.int .u16 k.1) := fun w' t => (h1 w' t).2.1.1
    have sC : ∀ w', Touch G W w' → w'.cell? ⟨w.heap.size, 1, none⟩ = some (.string k.2) := fun w' t => (h1 w' t).2.1.2
    have H1 : Hid (∀ w', Touch G W w' → Z6 w' (w.heap.size + 1) ∧ S6 w' w2.heap.size 2 sa so) := fun w' t => (h1 w' t).2.2
    have H2 := hid h2
    clear h1 h2
    have t0 : Touch G W W.drew := (Touch.refl _ _).drew
    go_region_held3 (fun w' => Touch G W w') (first | assumption | exact (Touch.refl _ _).drew) ((go_at_call 51; refine H2.out.mono ?_; rintro e w3 ⟨rfl, t3, c3⟩; have C3 := hid c3; clear c3))
    obtain ⟨hz, hs⟩ := H1.out _ t3
    obtain ⟨z0, z1, z2, z3, z4, z5, f0, f1, f2, f3, f4, f5⟩ := hz
    obtain ⟨s0, s1, s2, s3, s4, s5⟩ := hs
    clear sA sB sC t0 t3
    go_wp2
    refine bodyPost_ret (v := .tuple #[.agg #[.int .i64 2, .int .i64 sa, .int .i64 so.1, .int .i64 so.2.1, .int .i64 so.2.2.1, .int .i64 so.2.2.2], .int .i64 E]) (by simp [results, Try.results22, go_sem, z0, z1, z2, z3, z4, z5]) rfl ⟨rfl, ?_⟩
    exact C3.out _ (tset6 _ _ _ _ _ _ _ _)
theorem isUse_fnd {c : Cf} {now n : Int} {xs : List En} {k : K} (h : isUse (askR c now n xs k).1 = true) : ∃ v, fnd xs k = some v := by
  unfold askR lookS at h
  cases hf : fnd xs k with
  | some v => exact ⟨v, rfl⟩
  | none =>
    rw [hf] at h
    split at h <;> simp [isUse] at h
theorem tellM (w : World) (m : Nat) (F : List Nat) (c : Cf) (now n : Int) (xs : List En) (h : Mq w m F c now xs) (k : K) (ok : Ok k) :
    Calls Try.prog 22 #[PT m, .int .i64 n, kv k] w fun e w' => e = .returned (.tuple #[lv (askR c now n xs k), .int .i64 (askE now n k)]) ∧ Mc w m F c (askN now n k) (tellX c now n xs k) w' := by
  unfold tellX
  cases hu : isUse (askR c now n xs k).1 with
  | false => exact tell22_not w m F c now n xs h k ok hu
  | true =>
    obtain ⟨v, hf⟩ := isUse_fnd hu
    rw [if_pos rfl]
    unfold useX
    rw [hf]
    exact tell22_yes w m F c now n xs h k ok hu v hf
end Go.Proofs.Ytopepalpmkeffaa
