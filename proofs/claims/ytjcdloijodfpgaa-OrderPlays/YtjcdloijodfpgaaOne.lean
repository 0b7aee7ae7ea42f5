/- What is done to both, an order and the document's: touched and dropped; there are at most seventy thousand keys. -/
import Derived.Test.YtjcdloijodfpgaaRtc
import Derived.Test.YtjcdloijodfpgaaShr
import Derived.Test.YtjcdloijodfpgaaHlh
namespace Go.Proofs.Ytjcdloijodfpgaa
open Go.RowKit Go.Sort Go.Maps Go.ChangeMaps Go.WideMaps
set_option linter.unusedVariables false
set_option linter.unusedSimpArgs false
section
variable {P : Program} {ops : Array Oper} {Q : Exit → Act → World → Prop} {md : Region.Mode} {S : World → Prop}
def AllH (P : Program) (md : Region.Mode) (ops : Array Oper) (Q : Exit → Act → World → Prop) (S : World → Prop) (fuel : Nat) (listed : Array Bool) (a : Act) (w : World) (rs : List Nat) : Prop :=
  ∀ i ∈ rs, wpOp P ops Q i (fun a' w' => S w' ∧ wpAnyH P md ops Q S fuel (listed.setIfInBounds i true) a' w') a w
theorem AllH.nil {fuel : Nat} {listed : Array Bool} {a : Act} {w : World} : AllH P md ops Q S fuel listed a w [] := fun _ h => by cases h
theorem AllH.cons {fuel : Nat} {listed : Array Bool} {a : Act} {w : World} {i : Nat} {o : Oper} {rs : List Nat} (ho : ops[i]? = some o)
    (h : ∀ K' : Act → World → Prop, Shut (∀ a w, S w → wpAnyH P md ops Q S fuel (listed.setIfInBounds i true) a w → K' a w) → if Region.wanted o (yielded ops a.tmps) = true then Oper.wp P o a w K' Q else K' (a.put o.dst undef) w)
    (hs : AllH P md ops Q S fuel listed a w rs) : AllH P md ops Q S fuel listed a w (i :: rs) := fun j hj => by
  rcases List.mem_cons.1 hj with rfl | hj
  · exact wpOp_step ho (fun K' hK => h K' (fun a w hS hW => hK a w ⟨hS, hW⟩))
  · exact hs j hj
theorem wpH_ready {rs : List Nat} {fuel : Nat} {listed : Array Bool} {a : Act} {w : World} (hr : Region.ready md ops listed = rs) (hne : rs ≠ [])
    (h : AllH P md ops Q S fuel listed a w rs) : wpAnyH P md ops Q S (fuel + 1) listed a w := wpAnyH_all hr hne h
end
def av (kd nn : Int) (k : K) : Value := .agg #[.int .i64 kd, .int .i64 nn, .int .u16 k.1, .string k.2]
/-- The three boxes of the law's step. -/
structure OnS (w : World) (most kd nn : Int) (v : Value) (k : K) (W : World) : Prop where
  b0 : W.heap[w.heap.size]? = some (.cells #[.int .i64 most, v] 31 (0, 0))
  b1 : W.heap[w.heap.size + 1]? = some (.cells #[.int .i64 kd, .int .i64 nn, .int .u16 k.1, .string k.2] 38 (0, 0))
  b2 : W.heap[w.heap.size + 1 + 1]? = some (.cells #[.int .i64 0, .slice none 0 0] 31 (0, 0))
  sz : w.heap.size + 3 ≤ W.heap.size
theorem OnS.start (w : World) (most kd nn : Int) (v : Value) (k : K) : OnS w most kd nn v k (((w.alloc (.cells #[.int .i64 most, v] 31)).alloc (.cells #[.int .i64 kd, .int .i64 nn, .int .u16 k.1, .string k.2] 38)).alloc (.cells #[.int .i64 0, .slice none 0 0] 31)) := by
  refine ⟨?_, ?_, ?_, by simp⟩
  · exact (Below.heap_alloc _ _ _ (by simp; omega)).trans ((Below.heap_alloc _ _ _ (by simp)).trans (heap_alloc_new w _))
  · have := heap_alloc_new (w.alloc (.cells #[.int .i64 most, v] 31)) (.cells #[.int .i64 kd, .int .i64 nn, .int .u16 k.1, .string k.2] 38)
    rw [World.size_alloc] at this
    exact (Below.heap_alloc _ _ _ (by simp)).trans this
  · have := heap_alloc_new ((w.alloc (.cells #[.int .i64 most, v] 31)).alloc (.cells #[.int .i64 kd, .int .i64 nn, .int .u16 k.1, .string k.2] 38)) (.cells #[.int .i64 0, .slice none 0 0] 31)
    rwa [World.size_alloc, World.size_alloc] at this
theorem OnS.keep {w W W' : World} {most kd nn : Int} {v : Value} {k : K} {G : List Nat} (h : OnS w most kd nn v k W) (t : Touch G W W') (hG : ∀ i ∈ G, i < w.heap.size ∨ w.heap.size + 3 ≤ i) : OnS w most kd nn v k W' :=
  ⟨t.keep h.b0 (fun hh => by have := hG _ hh; omega), t.keep h.b1 (fun hh => by have := hG _ hh; omega), t.keep h.b2 (fun hh => by have := hG _ hh; omega), Nat.le_trans h.sz t.size⟩
theorem OnS.start_t (w : World) (most kd nn : Int) (v : Value) (k : K) : Touch [] w (((w.alloc (.cells #[.int .i64 most, v] 31)).alloc (.cells #[.int .i64 kd, .int .i64 nn, .int .u16 k.1, .string k.2] 38)).alloc (.cells #[.int .i64 0, .slice none 0 0] 31)) := (((Touch.refl _ _).alloc _).alloc _).alloc _
section
variable {w W : World} {most kd nn : Int} {v : Value} {k : K}
theorem OnS.m (h : OnS w most kd nn v k W) : W.cell? ⟨w.heap.size, 0, none⟩ = some (.int .i64 most) ∧ W.cell? ⟨w.heap.size, 1, none⟩ = some v := by have := h.b0; simp [World.cell?, this]
theorem OnS.a (h : OnS w most kd nn v k W) : W.cell? ⟨w.heap.size + 1, 0, none⟩ = some (.int .i64 kd) ∧ W.cell? ⟨w.heap.size + 1, 1, none⟩ = some (.int .i64 nn) ∧ W.cell? ⟨w.heap.size + 1, 2, none⟩ = some (.int .u16 k.1) ∧ W.cell? ⟨w.heap.size + 1, 3, none⟩ = some (.string k.2) := by have := h.b1; simp [World.cell?, this]
theorem OnS.r (h : OnS w most kd nn v k W) : W.cell? ⟨w.heap.size + 1 + 1, 0, none⟩ = some (.int .i64 0) ∧ W.cell? ⟨w.heap.size + 1 + 1, 1, none⟩ = some (.slice none 0 0) ∧ W.frozen? ⟨w.heap.size + 1 + 1, 0, none⟩ = false ∧ W.frozen? ⟨w.heap.size + 1 + 1, 1, none⟩ = false := by have := h.b2; simp [World.cell?, World.frozen?, this]
end
def OnQ (w : World) (o : Nat) (F : List Nat) (most : Int) (ys : List K) (v : Value) (w' : World) : Prop := ∃ F', Oq w' o F' most ys ∧ RK w' v ys ∧ Touch F w w' ∧ Nf w F F'
theorem rk_order' {w w' : World} {o : Nat} {F : List Nat} {most : Int} {xs : List K} (h : Oq w o F most xs) (t : Touch F w w') {v : Value} {ys : List K} (hr : RK w v ys) : RK w' v ys :=
  own_touch hr t (fun b hb => by
    obtain ⟨cs, hc⟩ := own_type hr hb
    exact h.away hc (by decide) (by decide))
/-- What is answered is stored in the third box. -/
theorem on_end {w V W : World} {o : Nat} {F : List Nat} {most kd nn : Int} {v v' : Value} {k : K} {ys : List K} (c : Ch w o F most ys V) (t : Touch [] V W) (hs : OnS w most kd nn v k W) (hr : RK W v' ys) (m2 : Int) :
    OnQ w o F most ys v' ((W.setCell ⟨w.heap.size + 1 + 1, 0, none⟩ (.int .i64 m2)).setCell ⟨w.heap.size + 1 + 1, 1, none⟩ v') := by
  obtain ⟨F', c1, c2, c3⟩ := c
  have tb : Touch [w.heap.size + 1 + 1] W ((W.setCell ⟨w.heap.size + 1 + 1, 0, none⟩ (.int .i64 m2)).setCell ⟨w.heap.size + 1 + 1, 1, none⟩ v') := ((Touch.refl _ _).setCell (by simp) _).setCell (by simp) _
  have c1' := c1.keep0 t
  refine ⟨F', c1'.keep tb (fun i hi hh => ?_), own_touch hr tb (fun g hg hh => ?_), (c2.trans' (t.mono (fun _ e => by cases e))).trans tb (fun i hi => by simp only [List.mem_singleton] at hi; exact Or.inr (by omega)), c3⟩
  · simp only [List.mem_singleton] at hh
    subst hh
    exact c1'.away hs.b2 (by decide) (by decide) hi
  · obtain ⟨cs, hcs⟩ := own_type hr hg
    simp only [List.mem_singleton] at hh
    rw [hh, hs.b2] at hcs
    simp at hcs
theorem touchU (w : World) (o : Nat) (F : List Nat) (most : Int) (xs : List K) (k : K) (hk : Ok k) (h : Oq w o F most xs) : Calls Try.prog 17 #[PT o, kv k] w fun x w' => x = .returned (.bool (hs xs k)) ∧ Ch w o F most (if hs xs k then dr xs k ++ [k] else xs) w' := by
  by_cases hn : k ∈ xs
  · rw [hs_yes hn]
    exact touchO_yes w o F most xs k hn h
  · rw [hs_no hn]
    exact (touchO_no w o F most xs k hk hn h).mono (fun e w' ⟨h1, t⟩ => ⟨h1, F, h.keep0 t, t.mono (fun _ e => by cases e), Nf.refl _ _⟩)
theorem dropU (w : World) (o : Nat) (F : List Nat) (most : Int) (xs : List K) (k : K) (hk : Ok k) (h : Oq w o F most xs) : Calls Try.prog 18 #[PT o, kv k] w fun x w' => x = .returned (.bool (hs xs k)) ∧ Ch w o F most (dr xs k) w' := by
  by_cases hn : k ∈ xs
  · rw [hs_yes hn]
    exact dropO_yes w o F most xs k hn h
  · rw [hs_no hn, dr_no hn]
    exact (dropO_no w o F most xs k hk hn h).mono (fun e w' ⟨h1, t⟩ => ⟨h1, F, h.keep0 t, t.mono (fun _ e => by cases e), Nf.refl _ _⟩)
set_option maxHeartbeats 4000000 in
theorem one_touch (w : World) (o : Nat) (F : List Nat) (most nn : Int) (v : Value) (xs : List K) (k : K) (hk : Ok k) (hl : xs.length ≤ 70000) (h : Oq w o F most xs) (hr : RK w v xs) :
    Calls Try.prog 9 #[PT o, rv most v, av 1 nn k] w fun e w' => ∃ v', e = .returned (.tuple #[PT o, rv most v', .bool true]) ∧ OnQ w o F most (if hs xs k then dr xs k ++ [k] else xs) v' w' := by
  obtain ⟨a, n, c, rfl⟩ : ∃ a n c, v = .slice a n c := by
    obtain ⟨a, c, h1⟩ := own_form hr
    exact ⟨a, _, c, h1⟩
  have hF := hid h.lt
  have S0 := hid (OnS.start w most 1 nn (.slice a n c) k)
  have T0 := hid (OnS.start_t w most 1 nn (.slice a n c) k)
  have HP := hid (touchU _ o F most xs k hk (h.keep0 T0.out))
  have HV : Hid (∀ V, Ch _ o F most (if hs xs k then dr xs k ++ [k] else xs) V → Ch w o F most (if hs xs k then dr xs k ++ [k] else xs) V ∧ OnS w most 1 nn (.slice a n c) k V ∧ RK V (.slice a n c) xs) := fun V (hc : Ch (((w.alloc (.cells #[.int .i64 most, .slice a n c] 31)).alloc (.cells #[.int .i64 1, .int .i64 nn, .int .u16 k.1, .string k.2] 38)).alloc (.cells #[.int .i64 0, .slice none 0 0] 31)) o F most (if hs xs k then dr xs k ++ [k] else xs) V) => by
    have h0 := h.keep0 T0.out
    refine ⟨hc.from0 T0.out, ?_, ?_⟩
    · obtain ⟨F', _, c2, _⟩ := hc
      exact S0.out.keep c2 (fun i hi => Or.inl (hF.out i hi))
    · obtain ⟨F', _, c2, _⟩ := hc
      exact rk_order' h0 c2 (hr.keep T0.out)
  have HU : Hid (∀ W, RK W (.slice a n c) xs → Calls Try.prog 24 #[.agg #[.int .i64 most, .slice a n c], .agg #[.int .u16 k.1, .string k.2]] W fun e w' => ∃ a' n' c', e = .returned (.tuple #[.agg #[.int .i64 most, .slice a' n' c'], .bool (hs xs k)]) ∧ RK w' (.slice a' n' c') (if hs xs k then dr xs k ++ [k] else xs) ∧ Touch [] W w') := fun W hw => by
    refine (rtouchO W most (.slice a n c) xs k hl hw).mono ?_
    rintro e w' ⟨v', rfl, r, t⟩
    obtain ⟨a', c', rfl⟩ := own_form r
    exact ⟨a', _, c', rfl, r, t⟩
  have HR := fun W => hid (ref14 W k)
  clear h hr
  unfold PT kv rv av at *
  generalize (if hs xs k then dr xs k ++ [k] else xs) = ys at *
  generalize hs xs k = B at *
  go_enter Try.func9, Try.ntmps9
  go_wp2_with (go_at_call 17; refine HP.out.mono ?_; rintro e V ⟨rfl, hc⟩; obtain ⟨v1, v2, v3⟩ := HV.out V hc; have C1 := hid v1; have S1 := hid v2; have R1 := hid v3; clear hc v1 v2 v3)
  clear HP HV S0 T0
  have sA : ∀ w', Touch [] V w' → w'.cell? ⟨w.heap.size, 0, none⟩ = some (.int .i64 most) := fun w' t => (S1.out.keep t (fun _ e => by cases e)).m.1
  have sB : ∀ w', Touch [] V w' → w'.cell? ⟨w.heap.size, 1, none⟩ = some (.slice a n c) := fun w' t => (S1.out.keep t (fun _ e => by cases e)).m.2
  have sC : ∀ w', Touch [] V w' → w'.cell? ⟨w.heap.size + 1, 2, none⟩ = some (.int .u16 k.1) := fun w' t => (S1.out.keep t (fun _ e => by cases e)).a.2.2.1
  have sD : ∀ w', Touch [] V w' → w'.cell? ⟨w.heap.size + 1, 3, none⟩ = some (.string k.2) := fun w' t => (S1.out.keep t (fun _ e => by cases e)).a.2.2.2
  refine wp_region_H (S := (fun w' => Touch [] V w')) (by kernel_rfl) ?_
  obtain ⟨Y0, eY0⟩ : ∃ Y, Y = V.drew := ⟨_, rfl⟩
  rw [← eY0]
  have hY0 : Touch [] V Y0 := by rw [eY0]; exact (Touch.refl _ _).drew
  clear eY0
  refine wpH_take (i := 0) (v := .agg #[.int .i64 most, .slice a n c]) (some 73) rfl rfl (by kernel_rfl) (by kernel_rfl) (by kernel_rfl) (fun _ _ _ h => h) (Or.inl ⟨by rfl, fun w' hS => (by have z0 := sA _ hS; have z1 := sB _ hS; go_simp)⟩) hY0 ?_
  try simp only [Go.Act.put, List.setIfInBounds_toArray, List.set_cons_zero, List.set_cons_succ]
  refine wpH_take (i := 1) (v := .pointer (some ⟨w.heap.size + 1, 2, none⟩)) (some 74) rfl rfl (by kernel_rfl) (by kernel_rfl) (by kernel_rfl) (fun _ _ _ h => h) (Or.inl ⟨by rfl, fun w' hS => (by go_simp)⟩) hY0 ?_
  try simp only [Go.Act.put, List.setIfInBounds_toArray, List.set_cons_zero, List.set_cons_succ]
  refine wpH_take (i := 2) (v := .agg #[.int .u16 k.1, .string k.2]) (some 75) rfl rfl (by kernel_rfl) (by kernel_rfl) (by kernel_rfl) (fun _ _ _ h => h) (Or.inl ⟨by rfl, fun w' hS => (by have z0 := sC _ hS; have z1 := sD _ hS; go_simp)⟩) hY0 ?_
  try simp only [Go.Act.put, List.setIfInBounds_toArray, List.set_cons_zero, List.set_cons_succ]
  refine wpH_ready (rs := [3, 8]) (by kernel_rfl) (by simp) ?_
  refine AllH.cons (o := { dst := some 76, op := Op.call { callee := Callee.value (Operand.func 14), args := #[Operand.tmp 75], argTypes := #[36] }, type := 44, pos := _, after := #[{ on := 2, ground := Ground.data }], guard := none }) rfl (fun K' hK => ?_) ?_
  · rw [if_pos (by rfl)]
    go_simp
    refine (HR _).out.mono ?_
    rintro e Y1 ⟨rfl, gY1⟩
    have hY1 := hY0.trans' gY1
    refine hK.out _ _ hY1 ?_
    clear hK
    try simp only [Go.Act.put, List.setIfInBounds_toArray, List.set_cons_zero, List.set_cons_succ]
    refine wpH_ready (rs := [4, 8]) (by kernel_rfl) (by simp) ?_
    refine AllH.cons (o := { dst := some 77, op := Op.call { callee := Callee.value (Operand.func 24), args := #[Operand.tmp 73, Operand.tmp 76], argTypes := #[31, 44] }, type := 66, pos := _, after := #[{ on := 0, ground := Ground.data }, { on := 3, ground := Ground.data }, { on := 3, ground := Ground.chain }], guard := none }) rfl (fun K' hK => ?_) ?_
    · rw [if_pos (by rfl)]
      go_simp
      refine (HU.out _ (R1.out.keep hY1)).mono ?_
      rintro e Y2 ⟨a5, n5, c5, rfl, r2, gY2⟩
      have hY2 := hY1.trans' gY2
      refine hK.out _ _ hY2 ?_
      clear hK
      try simp only [Go.Act.put, List.setIfInBounds_toArray, List.set_cons_zero, List.set_cons_succ]
      refine wpH_take (i := 5) (v := .tuple #[.agg #[.int .i64 most, .slice a5 n5 c5], .bool B]) (some 72) rfl rfl (by kernel_rfl) (by kernel_rfl) (by kernel_rfl) (fun _ _ _ h => h) (Or.inl ⟨by rfl, fun w' hS => (by go_simp)⟩) hY2 ?_
      try simp only [Go.Act.put, List.setIfInBounds_toArray, List.set_cons_zero, List.set_cons_succ]
      refine wpH_take (i := 6) (v := .agg #[.int .i64 most, .slice a5 n5 c5]) (some 78) rfl rfl (by kernel_rfl) (by kernel_rfl) (by kernel_rfl) (fun _ _ _ h => h) (Or.inl ⟨by rfl, fun w' hS => (by go_simp)⟩) hY2 ?_
      try simp only [Go.Act.put, List.setIfInBounds_toArray, List.set_cons_zero, List.set_cons_succ]
      refine wpH_take (i := 7) (v := .bool B) (some 79) rfl rfl (by kernel_rfl) (by kernel_rfl) (by kernel_rfl) (fun _ _ _ h => h) (Or.inl ⟨by rfl, fun w' hS => (by go_simp)⟩) hY2 ?_
      try simp only [Go.Act.put, List.setIfInBounds_toArray, List.set_cons_zero, List.set_cons_succ]
      refine wpH_ready (rs := [8]) (by kernel_rfl) (by simp) ?_
      refine AllH.cons (o := { dst := some 17, op := Op.alloc 31, type := 0, pos := _, after := #[], guard := none }) rfl (fun K' hK => ?_) ?_
      · rw [if_pos (by rfl)]
        go_simp
        refine hK.out _ _ (hY2.alloc _) ?_
        clear hK
        try simp only [Go.Act.put, List.setIfInBounds_toArray, List.set_cons_zero, List.set_cons_succ]
        obtain ⟨Y3, eY3⟩ : ∃ Y, Y = Y2.alloc (.cells #[.int .i64 0, .slice none 0 0] 31) := ⟨_, rfl⟩
        rw [← eY3]
        have hY3 : Touch [] V Y3 := by rw [eY3]; exact hY2.alloc _
        have gY3 : Touch [] Y2 Y3 := by rw [eY3]; exact (Touch.refl _ _).alloc _
        have A17_3 : Y3.heap[Y2.heap.size]? = some (.cells #[.int .i64 0, .slice none 0 0] 31 (0, 0)) := by rw [eY3]; exact heap_alloc_new _ _
        have r3 := RK.keep r2 gY3
        clear eY3
        refine wpH_ready (rs := [9]) (by kernel_rfl) (by simp) ?_
        refine AllH.cons (o := { dst := none, op := Op.store 31 (Operand.tmp 17) (Operand.tmp 78), type := 0, pos := _, after := #[{ on := 8, ground := Ground.data }, { on := 6, ground := Ground.data }, { on := 4, ground := Ground.chain }, { on := 0, ground := Ground.phase }, { on := 1, ground := Ground.phase }, { on := 2, ground := Ground.phase }, { on := 3, ground := Ground.phase }, { on := 4, ground := Ground.phase }, { on := 5, ground := Ground.phase }, { on := 6, ground := Ground.phase }, { on := 7, ground := Ground.textOnly Departure.lateStores }, { on := 8, ground := Ground.phase }], guard := none }) rfl (fun K' hK => ?_) ?_
        · rw [if_pos (by rfl)]
          have lb4 : V.heap.size ≤ Y2.heap.size := hY2.size
          have c4_0 : Y3.cell? ⟨Y2.heap.size, 0, none⟩ = some (.int .i64 0) := by simp [World.cell?, A17_3]
          have f4_0 : Y3.frozen? ⟨Y2.heap.size, 0, none⟩ = false := by simp [World.frozen?, A17_3]
          have c4_1 : Y3.cell? ⟨Y2.heap.size, 1, none⟩ = some (.slice none 0 0) := by simp [World.cell?, A17_3]
          have f4_1 : Y3.frozen? ⟨Y2.heap.size, 1, none⟩ = false := by simp [World.frozen?, A17_3]
          go_simp
          refine hK.out _ _ ((hY3.setCell (Or.inr lb4) _).setCell (Or.inr lb4) _) ?_
          clear hK
          try simp only [Go.Act.put, List.setIfInBounds_toArray, List.set_cons_zero, List.set_cons_succ]
          obtain ⟨Y4, eY4⟩ : ∃ Y, Y = ((Y3.setCell ⟨Y2.heap.size, 0, none⟩ (.int .i64 most)).setCell ⟨Y2.heap.size, 1, none⟩ (.slice a5 n5 c5)) := ⟨_, rfl⟩
          rw [← eY4]
          have hY4 : Touch [] V Y4 := by rw [eY4]; exact ((hY3.setCell (Or.inr lb4) _).setCell (Or.inr lb4) _)
          have gY4 : Touch [Y2.heap.size] Y3 Y4 := by rw [eY4]; exact (((Touch.refl _ _).setCell (by simp) _).setCell (by simp) _)
          have A17_4 : Y4.heap[Y2.heap.size]? = some (.cells #[.int .i64 most, .slice a5 n5 c5] 31 (0, 0)) := by rw [eY4]; exact bset (bset A17_3 _) _
          have r4 : RK Y4 _ _ := own_touch r3 gY4 (fun g hg hh => by
            obtain ⟨cs, hcs⟩ := own_type r3 hg
            simp only [List.mem_singleton] at hh
            rw [hh, A17_3] at hcs
            simp at hcs)
          clear eY4 c4_0 f4_0 c4_1 f4_1
          refine wpH_take (i := 10) (v := .bool B) (some 18) rfl rfl (by kernel_rfl) (by kernel_rfl) (by kernel_rfl) (fun _ _ _ h => h) (Or.inl ⟨by rfl, fun w' hS => (by go_simp)⟩) hY4 ?_
          try simp only [Go.Act.put, List.setIfInBounds_toArray, List.set_cons_zero, List.set_cons_succ]
          refine wpAnyH_done (by kernel_rfl) ?_ _
          have x0 : Y4.cell? ⟨Y2.heap.size, 0, none⟩ = some (.int .i64 most) := by simp [World.cell?, A17_4]
          have x1 : Y4.cell? ⟨Y2.heap.size, 1, none⟩ = some (.slice a5 n5 c5) := by simp [World.cell?, A17_4]
          have SW := S1.out.keep hY4 (fun _ e => by cases e)
          obtain ⟨e0, e1, e2, e3⟩ := SW.r
          have lb : V.heap.size ≤ Y2.heap.size := hY2.size
          have lz := S1.out.sz
          have i1 : Y2.heap.size ≠ w.heap.size + 1 + 1 := by omega
          have HE := hid (on_end C1.out hY4 SW r4 most)
          have nB : (B == B) = true := by simp
          clear sA sB sC sD HU HR SW A17_4
          go_wp2
          go_region
          all_goals
            go_wp2
            refine bodyPost_ret (v := .tuple #[.pointer (some ⟨o, 0, none⟩), .agg #[.int .i64 most, .slice a5 n5 c5], .bool true]) (by simp [results, Try.results9, go_sem, e0, e1]) rfl ⟨_, rfl, ?_⟩
            obtain ⟨F', q1, q2, q3, q4⟩ := HE.out
            exact ⟨F', q1.keep0 ⟨rfl, rfl, rfl, Nat.le_refl _, fun _ _ _ => rfl⟩, own_keep q2 (fun _ _ => rfl), ⟨q3.os, q3.tape, q3.output, q3.size, q3.block⟩, q4⟩
        exact AllH.nil
      exact AllH.nil
    refine AllH.cons (o := { dst := some 17, op := Op.alloc 31, type := 0, pos := _, after := #[], guard := none }) rfl (fun K' hK => ?_) ?_
    · rw [if_pos (by rfl)]
      go_simp
      refine hK.out _ _ (hY1.alloc _) ?_
      clear hK
      try simp only [Go.Act.put, List.setIfInBounds_toArray, List.set_cons_zero, List.set_cons_succ]
      obtain ⟨Y5, eY5⟩ : ∃ Y, Y = Y1.alloc (.cells #[.int .i64 0, .slice none 0 0] 31) := ⟨_, rfl⟩
      rw [← eY5]
      have hY5 : Touch [] V Y5 := by rw [eY5]; exact hY1.alloc _
      have gY5 : Touch [] Y1 Y5 := by rw [eY5]; exact (Touch.refl _ _).alloc _
      have A17_5 : Y5.heap[Y1.heap.size]? = some (.cells #[.int .i64 0, .slice none 0 0] 31 (0, 0)) := by rw [eY5]; exact heap_alloc_new _ _
      clear eY5
      refine wpH_ready (rs := [4]) (by kernel_rfl) (by simp) ?_
      refine AllH.cons (o := { dst := some 77, op := Op.call { callee := Callee.value (Operand.func 24), args := #[Operand.tmp 73, Operand.tmp 76], argTypes := #[31, 44] }, type := 66, pos := _, after := #[{ on := 0, ground := Ground.data }, { on := 3, ground := Ground.data }, { on := 3, ground := Ground.chain }], guard := none }) rfl (fun K' hK => ?_) ?_
      · rw [if_pos (by rfl)]
        go_simp
        refine (HU.out _ (R1.out.keep hY5)).mono ?_
        rintro e Y6 ⟨a5, n5, c5, rfl, r6, gY6⟩
        have hY6 := hY5.trans' gY6
        have A17_6 := gY6.keep A17_5 (by simp)
        refine hK.out _ _ hY6 ?_
        clear hK
        try simp only [Go.Act.put, List.setIfInBounds_toArray, List.set_cons_zero, List.set_cons_succ]
        refine wpH_take (i := 5) (v := .tuple #[.agg #[.int .i64 most, .slice a5 n5 c5], .bool B]) (some 72) rfl rfl (by kernel_rfl) (by kernel_rfl) (by kernel_rfl) (fun _ _ _ h => h) (Or.inl ⟨by rfl, fun w' hS => (by go_simp)⟩) hY6 ?_
        try simp only [Go.Act.put, List.setIfInBounds_toArray, List.set_cons_zero, List.set_cons_succ]
        refine wpH_take (i := 6) (v := .agg #[.int .i64 most, .slice a5 n5 c5]) (some 78) rfl rfl (by kernel_rfl) (by kernel_rfl) (by kernel_rfl) (fun _ _ _ h => h) (Or.inl ⟨by rfl, fun w' hS => (by go_simp)⟩) hY6 ?_
        try simp only [Go.Act.put, List.setIfInBounds_toArray, List.set_cons_zero, List.set_cons_succ]
        refine wpH_take (i := 7) (v := .bool B) (some 79) rfl rfl (by kernel_rfl) (by kernel_rfl) (by kernel_rfl) (fun _ _ _ h => h) (Or.inl ⟨by rfl, fun w' hS => (by go_simp)⟩) hY6 ?_
        try simp only [Go.Act.put, List.setIfInBounds_toArray, List.set_cons_zero, List.set_cons_succ]
        refine wpH_ready (rs := [9]) (by kernel_rfl) (by simp) ?_
        refine AllH.cons (o := { dst := none, op := Op.store 31 (Operand.tmp 17) (Operand.tmp 78), type := 0, pos := _, after := #[{ on := 8, ground := Ground.data }, { on := 6, ground := Ground.data }, { on := 4, ground := Ground.chain }, { on := 0, ground := Ground.phase }, { on := 1, ground := Ground.phase }, { on := 2, ground := Ground.phase }, { on := 3, ground := Ground.phase }, { on := 4, ground := Ground.phase }, { on := 5, ground := Ground.phase }, { on := 6, ground := Ground.phase }, { on := 7, ground := Ground.textOnly Departure.lateStores }, { on := 8, ground := Ground.phase }], guard := none }) rfl (fun K' hK => ?_) ?_
        · rw [if_pos (by rfl)]
          have lb7 : V.heap.size ≤ Y1.heap.size := hY1.size
          have c7_0 : Y6.cell? ⟨Y1.heap.size, 0, none⟩ = some (.int .i64 0) := by simp [World.cell?, A17_6]
          have f7_0 : Y6.frozen? ⟨Y1.heap.size, 0, none⟩ = false := by simp [World.frozen?, A17_6]
          have c7_1 : Y6.cell? ⟨Y1.heap.size, 1, none⟩ = some (.slice none 0 0) := by simp [World.cell?, A17_6]
          have f7_1 : Y6.frozen? ⟨Y1.heap.size, 1, none⟩ = false := by simp [World.frozen?, A17_6]
          go_simp
          refine hK.out _ _ ((hY6.setCell (Or.inr lb7) _).setCell (Or.inr lb7) _) ?_
          clear hK
          try simp only [Go.Act.put, List.setIfInBounds_toArray, List.set_cons_zero, List.set_cons_succ]
          obtain ⟨Y7, eY7⟩ : ∃ Y, Y = ((Y6.setCell ⟨Y1.heap.size, 0, none⟩ (.int .i64 most)).setCell ⟨Y1.heap.size, 1, none⟩ (.slice a5 n5 c5)) := ⟨_, rfl⟩
          rw [← eY7]
          have hY7 : Touch [] V Y7 := by rw [eY7]; exact ((hY6.setCell (Or.inr lb7) _).setCell (Or.inr lb7) _)
          have gY7 : Touch [Y1.heap.size] Y6 Y7 := by rw [eY7]; exact (((Touch.refl _ _).setCell (by simp) _).setCell (by simp) _)
          have A17_7 : Y7.heap[Y1.heap.size]? = some (.cells #[.int .i64 most, .slice a5 n5 c5] 31 (0, 0)) := by rw [eY7]; exact bset (bset A17_6 _) _
          have r7 : RK Y7 _ _ := own_touch r6 gY7 (fun g hg hh => by
            obtain ⟨cs, hcs⟩ := own_type r6 hg
            simp only [List.mem_singleton] at hh
            rw [hh, A17_6] at hcs
            simp at hcs)
          clear eY7 c7_0 f7_0 c7_1 f7_1
          refine wpH_take (i := 10) (v := .bool B) (some 18) rfl rfl (by kernel_rfl) (by kernel_rfl) (by kernel_rfl) (fun _ _ _ h => h) (Or.inl ⟨by rfl, fun w' hS => (by go_simp)⟩) hY7 ?_
          try simp only [Go.Act.put, List.setIfInBounds_toArray, List.set_cons_zero, List.set_cons_succ]
          refine wpAnyH_done (by kernel_rfl) ?_ _
          have x0 : Y7.cell? ⟨Y1.heap.size, 0, none⟩ = some (.int .i64 most) := by simp [World.cell?, A17_7]
          have x1 : Y7.cell? ⟨Y1.heap.size, 1, none⟩ = some (.slice a5 n5 c5) := by simp [World.cell?, A17_7]
          have SW := S1.out.keep hY7 (fun _ e => by cases e)
          obtain ⟨e0, e1, e2, e3⟩ := SW.r
          have lb : V.heap.size ≤ Y1.heap.size := hY1.size
          have lz := S1.out.sz
          have i1 : Y1.heap.size ≠ w.heap.size + 1 + 1 := by omega
          have HE := hid (on_end C1.out hY7 SW r7 most)
          have nB : (B == B) = true := by simp
          clear sA sB sC sD HU HR SW A17_7
          go_wp2
          go_region
          all_goals
            go_wp2
            refine bodyPost_ret (v := .tuple #[.pointer (some ⟨o, 0, none⟩), .agg #[.int .i64 most, .slice a5 n5 c5], .bool true]) (by simp [results, Try.results9, go_sem, e0, e1]) rfl ⟨_, rfl, ?_⟩
            obtain ⟨F', q1, q2, q3, q4⟩ := HE.out
            exact ⟨F', q1.keep0 ⟨rfl, rfl, rfl, Nat.le_refl _, fun _ _ _ => rfl⟩, own_keep q2 (fun _ _ => rfl), ⟨q3.os, q3.tape, q3.output, q3.size, q3.block⟩, q4⟩
        exact AllH.nil
      exact AllH.nil
    exact AllH.nil
  refine AllH.cons (o := { dst := some 17, op := Op.alloc 31, type := 0, pos := _, after := #[], guard := none }) rfl (fun K' hK => ?_) ?_
  · rw [if_pos (by rfl)]
    go_simp
    refine hK.out _ _ (hY0.alloc _) ?_
    clear hK
    try simp only [Go.Act.put, List.setIfInBounds_toArray, List.set_cons_zero, List.set_cons_succ]
    obtain ⟨Y8, eY8⟩ : ∃ Y, Y = Y0.alloc (.cells #[.int .i64 0, .slice none 0 0] 31) := ⟨_, rfl⟩
    rw [← eY8]
    have hY8 : Touch [] V Y8 := by rw [eY8]; exact hY0.alloc _
    have gY8 : Touch [] Y0 Y8 := by rw [eY8]; exact (Touch.refl _ _).alloc _
    have A17_8 : Y8.heap[Y0.heap.size]? = some (.cells #[.int .i64 0, .slice none 0 0] 31 (0, 0)) := by rw [eY8]; exact heap_alloc_new _ _
    clear eY8
    refine wpH_ready (rs := [3]) (by kernel_rfl) (by simp) ?_
    refine AllH.cons (o := { dst := some 76, op := Op.call { callee := Callee.value (Operand.func 14), args := #[Operand.tmp 75], argTypes := #[36] }, type := 44, pos := _, after := #[{ on := 2, ground := Ground.data }], guard := none }) rfl (fun K' hK => ?_) ?_
    · rw [if_pos (by rfl)]
      go_simp
      refine (HR _).out.mono ?_
      rintro e Y9 ⟨rfl, gY9⟩
      have hY9 := hY8.trans' gY9
      have A17_9 := gY9.keep A17_8 (by simp)
      refine hK.out _ _ hY9 ?_
      clear hK
      try simp only [Go.Act.put, List.setIfInBounds_toArray, List.set_cons_zero, List.set_cons_succ]
      refine wpH_ready (rs := [4]) (by kernel_rfl) (by simp) ?_
      refine AllH.cons (o := { dst := some 77, op := Op.call { callee := Callee.value (Operand.func 24), args := #[Operand.tmp 73, Operand.tmp 76], argTypes := #[31, 44] }, type := 66, pos := _, after := #[{ on := 0, ground := Ground.data }, { on := 3, ground := Ground.data }, { on := 3, ground := Ground.chain }], guard := none }) rfl (fun K' hK => ?_) ?_
      · rw [if_pos (by rfl)]
        go_simp
        refine (HU.out _ (R1.out.keep hY9)).mono ?_
        rintro e Y10 ⟨a5, n5, c5, rfl, r10, gY10⟩
        have hY10 := hY9.trans' gY10
        have A17_10 := gY10.keep A17_9 (by simp)
        refine hK.out _ _ hY10 ?_
        clear hK
        try simp only [Go.Act.put, List.setIfInBounds_toArray, List.set_cons_zero, List.set_cons_succ]
        refine wpH_take (i := 5) (v := .tuple #[.agg #[.int .i64 most, .slice a5 n5 c5], .bool B]) (some 72) rfl rfl (by kernel_rfl) (by kernel_rfl) (by kernel_rfl) (fun _ _ _ h => h) (Or.inl ⟨by rfl, fun w' hS => (by go_simp)⟩) hY10 ?_
        try simp only [Go.Act.put, List.setIfInBounds_toArray, List.set_cons_zero, List.set_cons_succ]
        refine wpH_take (i := 6) (v := .agg #[.int .i64 most, .slice a5 n5 c5]) (some 78) rfl rfl (by kernel_rfl) (by kernel_rfl) (by kernel_rfl) (fun _ _ _ h => h) (Or.inl ⟨by rfl, fun w' hS => (by go_simp)⟩) hY10 ?_
        try simp only [Go.Act.put, List.setIfInBounds_toArray, List.set_cons_zero, List.set_cons_succ]
        refine wpH_take (i := 7) (v := .bool B) (some 79) rfl rfl (by kernel_rfl) (by kernel_rfl) (by kernel_rfl) (fun _ _ _ h => h) (Or.inl ⟨by rfl, fun w' hS => (by go_simp)⟩) hY10 ?_
        try simp only [Go.Act.put, List.setIfInBounds_toArray, List.set_cons_zero, List.set_cons_succ]
        refine wpH_ready (rs := [9]) (by kernel_rfl) (by simp) ?_
        refine AllH.cons (o := { dst := none, op := Op.store 31 (Operand.tmp 17) (Operand.tmp 78), type := 0, pos := _, after := #[{ on := 8, ground := Ground.data }, { on := 6, ground := Ground.data }, { on := 4, ground := Ground.chain }, { on := 0, ground := Ground.phase }, { on := 1, ground := Ground.phase }, { on := 2, ground := Ground.phase }, { on := 3, ground := Ground.phase }, { on := 4, ground := Ground.phase }, { on := 5, ground := Ground.phase }, { on := 6, ground := Ground.phase }, { on := 7, ground := Ground.textOnly Departure.lateStores }, { on := 8, ground := Ground.phase }], guard := none }) rfl (fun K' hK => ?_) ?_
        · rw [if_pos (by rfl)]
          have lb11 : V.heap.size ≤ Y0.heap.size := hY0.size
          have c11_0 : Y10.cell? ⟨Y0.heap.size, 0, none⟩ = some (.int .i64 0) := by simp [World.cell?, A17_10]
          have f11_0 : Y10.frozen? ⟨Y0.heap.size, 0, none⟩ = false := by simp [World.frozen?, A17_10]
          have c11_1 : Y10.cell? ⟨Y0.heap.size, 1, none⟩ = some (.slice none 0 0) := by simp [World.cell?, A17_10]
          have f11_1 : Y10.frozen? ⟨Y0.heap.size, 1, none⟩ = false := by simp [World.frozen?, A17_10]
          go_simp
          refine hK.out _ _ ((hY10.setCell (Or.inr lb11) _).setCell (Or.inr lb11) _) ?_
          clear hK
          try simp only [Go.Act.put, List.setIfInBounds_toArray, List.set_cons_zero, List.set_cons_succ]
          obtain ⟨Y11, eY11⟩ : ∃ Y, Y = ((Y10.setCell ⟨Y0.heap.size, 0, none⟩ (.int .i64 most)).setCell ⟨Y0.heap.size, 1, none⟩ (.slice a5 n5 c5)) := ⟨_, rfl⟩
          rw [← eY11]
          have hY11 : Touch [] V Y11 := by rw [eY11]; exact ((hY10.setCell (Or.inr lb11) _).setCell (Or.inr lb11) _)
          have gY11 : Touch [Y0.heap.size] Y10 Y11 := by rw [eY11]; exact (((Touch.refl _ _).setCell (by simp) _).setCell (by simp) _)
          have A17_11 : Y11.heap[Y0.heap.size]? = some (.cells #[.int .i64 most, .slice a5 n5 c5] 31 (0, 0)) := by rw [eY11]; exact bset (bset A17_10 _) _
          have r11 : RK Y11 _ _ := own_touch r10 gY11 (fun g hg hh => by
            obtain ⟨cs, hcs⟩ := own_type r10 hg
            simp only [List.mem_singleton] at hh
            rw [hh, A17_10] at hcs
            simp at hcs)
          clear eY11 c11_0 f11_0 c11_1 f11_1
          refine wpH_take (i := 10) (v := .bool B) (some 18) rfl rfl (by kernel_rfl) (by kernel_rfl) (by kernel_rfl) (fun _ _ _ h => h) (Or.inl ⟨by rfl, fun w' hS => (by go_simp)⟩) hY11 ?_
          try simp only [Go.Act.put, List.setIfInBounds_toArray, List.set_cons_zero, List.set_cons_succ]
          refine wpAnyH_done (by kernel_rfl) ?_ _
          have x0 : Y11.cell? ⟨Y0.heap.size, 0, none⟩ = some (.int .i64 most) := by simp [World.cell?, A17_11]
          have x1 : Y11.cell? ⟨Y0.heap.size, 1, none⟩ = some (.slice a5 n5 c5) := by simp [World.cell?, A17_11]
          have SW := S1.out.keep hY11 (fun _ e => by cases e)
          obtain ⟨e0, e1, e2, e3⟩ := SW.r
          have lb : V.heap.size ≤ Y0.heap.size := hY0.size
          have lz := S1.out.sz
          have i1 : Y0.heap.size ≠ w.heap.size + 1 + 1 := by omega
          have HE := hid (on_end C1.out hY11 SW r11 most)
          have nB : (B == B) = true := by simp
          clear sA sB sC sD HU HR SW A17_11
          go_wp2
          go_region
          all_goals
            go_wp2
            refine bodyPost_ret (v := .tuple #[.pointer (some ⟨o, 0, none⟩), .agg #[.int .i64 most, .slice a5 n5 c5], .bool true]) (by simp [results, Try.results9, go_sem, e0, e1]) rfl ⟨_, rfl, ?_⟩
            obtain ⟨F', q1, q2, q3, q4⟩ := HE.out
            exact ⟨F', q1.keep0 ⟨rfl, rfl, rfl, Nat.le_refl _, fun _ _ _ => rfl⟩, own_keep q2 (fun _ _ => rfl), ⟨q3.os, q3.tape, q3.output, q3.size, q3.block⟩, q4⟩
        exact AllH.nil
      exact AllH.nil
    exact AllH.nil
  exact AllH.nil
set_option maxHeartbeats 4000000 in
theorem one_drop (w : World) (o : Nat) (F : List Nat) (most nn : Int) (v : Value) (xs : List K) (k : K) (hk : Ok k) (hl : xs.length ≤ 70000) (h : Oq w o F most xs) (hr : RK w v xs) :
    Calls Try.prog 9 #[PT o, rv most v, av 2 nn k] w fun e w' => ∃ v', e = .returned (.tuple #[PT o, rv most v', .bool true]) ∧ OnQ w o F most (dr xs k) v' w' := by
  obtain ⟨a, n, c, rfl⟩ : ∃ a n c, v = .slice a n c := by
    obtain ⟨a, c, h1⟩ := own_form hr
    exact ⟨a, _, c, h1⟩
  have hF := hid h.lt
  have S0 := hid (OnS.start w most 2 nn (.slice a n c) k)
  have T0 := hid (OnS.start_t w most 2 nn (.slice a n c) k)
  have HP := hid (dropU _ o F most xs k hk (h.keep0 T0.out))
  have HV : Hid (∀ V, Ch _ o F most (dr xs k) V → Ch w o F most (dr xs k) V ∧ OnS w most 2 nn (.slice a n c) k V ∧ RK V (.slice a n c) xs) := fun V (hc : Ch (((w.alloc (.cells #[.int .i64 most, .slice a n c] 31)).alloc (.cells #[.int .i64 2, .int .i64 nn, .int .u16 k.1, .string k.2] 38)).alloc (.cells #[.int .i64 0, .slice none 0 0] 31)) o F most (dr xs k) V) => by
    have h0 := h.keep0 T0.out
    refine ⟨hc.from0 T0.out, ?_, ?_⟩
    · obtain ⟨F', _, c2, _⟩ := hc
      exact S0.out.keep c2 (fun i hi => Or.inl (hF.out i hi))
    · obtain ⟨F', _, c2, _⟩ := hc
      exact rk_order' h0 c2 (hr.keep T0.out)
  have HU : Hid (∀ W, RK W (.slice a n c) xs → Calls Try.prog 25 #[.agg #[.int .i64 most, .slice a n c], .agg #[.int .u16 k.1, .string k.2]] W fun e w' => ∃ a' n' c', e = .returned (.tuple #[.agg #[.int .i64 most, .slice a' n' c'], .bool (hs xs k)]) ∧ RK w' (.slice a' n' c') (dr xs k) ∧ Touch [] W w') := fun W hw => by
    refine (rdropO W most (.slice a n c) xs k hl hw).mono ?_
    rintro e w' ⟨v', rfl, r, t⟩
    obtain ⟨a', c', rfl⟩ := own_form r
    exact ⟨a', _, c', rfl, r, t⟩
  have HR := fun W => hid (ref14 W k)
  clear h hr
  unfold PT kv rv av at *
  generalize (dr xs k) = ys at *
  generalize hs xs k = B at *
  go_enter Try.func9, Try.ntmps9
  go_wp2_with (go_at_call 18; refine HP.out.mono ?_; rintro e V ⟨rfl, hc⟩; obtain ⟨v1, v2, v3⟩ := HV.out V hc; have C1 := hid v1; have S1 := hid v2; have R1 := hid v3; clear hc v1 v2 v3)
  clear HP HV S0 T0
  have sA : ∀ w', Touch [] V w' → w'.cell? ⟨w.heap.size, 0, none⟩ = some (.int .i64 most) := fun w' t => (S1.out.keep t (fun _ e => by cases e)).m.1
  have sB : ∀ w', Touch [] V w' → w'.cell? ⟨w.heap.size, 1, none⟩ = some (.slice a n c) := fun w' t => (S1.out.keep t (fun _ e => by cases e)).m.2
  have sC : ∀ w', Touch [] V w' → w'.cell? ⟨w.heap.size + 1, 2, none⟩ = some (.int .u16 k.1) := fun w' t => (S1.out.keep t (fun _ e => by cases e)).a.2.2.1
  have sD : ∀ w', Touch [] V w' → w'.cell? ⟨w.heap.size + 1, 3, none⟩ = some (.string k.2) := fun w' t => (S1.out.keep t (fun _ e => by cases e)).a.2.2.2
  refine wp_region_H (S := (fun w' => Touch [] V w')) (by kernel_rfl) ?_
  obtain ⟨Y0, eY0⟩ : ∃ Y, Y = V.drew := ⟨_, rfl⟩
  rw [← eY0]
  have hY0 : Touch [] V Y0 := by rw [eY0]; exact (Touch.refl _ _).drew
  clear eY0
  refine wpH_take (i := 0) (v := .agg #[.int .i64 most, .slice a n c]) (some 92) rfl rfl (by kernel_rfl) (by kernel_rfl) (by kernel_rfl) (fun _ _ _ h => h) (Or.inl ⟨by rfl, fun w' hS => (by have z0 := sA _ hS; have z1 := sB _ hS; go_simp)⟩) hY0 ?_
  try simp only [Go.Act.put, List.setIfInBounds_toArray, List.set_cons_zero, List.set_cons_succ]
  refine wpH_take (i := 1) (v := .pointer (some ⟨w.heap.size + 1, 2, none⟩)) (some 93) rfl rfl (by kernel_rfl) (by kernel_rfl) (by kernel_rfl) (fun _ _ _ h => h) (Or.inl ⟨by rfl, fun w' hS => (by go_simp)⟩) hY0 ?_
  try simp only [Go.Act.put, List.setIfInBounds_toArray, List.set_cons_zero, List.set_cons_succ]
  refine wpH_take (i := 2) (v := .agg #[.int .u16 k.1, .string k.2]) (some 94) rfl rfl (by kernel_rfl) (by kernel_rfl) (by kernel_rfl) (fun _ _ _ h => h) (Or.inl ⟨by rfl, fun w' hS => (by have z0 := sC _ hS; have z1 := sD _ hS; go_simp)⟩) hY0 ?_
  try simp only [Go.Act.put, List.setIfInBounds_toArray, List.set_cons_zero, List.set_cons_succ]
  refine wpH_ready (rs := [3, 8]) (by kernel_rfl) (by simp) ?_
  refine AllH.cons (o := { dst := some 95, op := Op.call { callee := Callee.value (Operand.func 14), args := #[Operand.tmp 94], argTypes := #[36] }, type := 44, pos := _, after := #[{ on := 2, ground := Ground.data }], guard := none }) rfl (fun K' hK => ?_) ?_
  · rw [if_pos (by rfl)]
    go_simp
    refine (HR _).out.mono ?_
    rintro e Y1 ⟨rfl, gY1⟩
    have hY1 := hY0.trans' gY1
    refine hK.out _ _ hY1 ?_
    clear hK
    try simp only [Go.Act.put, List.setIfInBounds_toArray, List.set_cons_zero, List.set_cons_succ]
    refine wpH_ready (rs := [4, 8]) (by kernel_rfl) (by simp) ?_
    refine AllH.cons (o := { dst := some 96, op := Op.call { callee := Callee.value (Operand.func 25), args := #[Operand.tmp 92, Operand.tmp 95], argTypes := #[31, 44] }, type := 66, pos := _, after := #[{ on := 0, ground := Ground.data }, { on := 3, ground := Ground.data }, { on := 3, ground := Ground.chain }], guard := none }) rfl (fun K' hK => ?_) ?_
    · rw [if_pos (by rfl)]
      go_simp
      refine (HU.out _ (R1.out.keep hY1)).mono ?_
      rintro e Y2 ⟨a5, n5, c5, rfl, r2, gY2⟩
      have hY2 := hY1.trans' gY2
      refine hK.out _ _ hY2 ?_
      clear hK
      try simp only [Go.Act.put, List.setIfInBounds_toArray, List.set_cons_zero, List.set_cons_succ]
      refine wpH_take (i := 5) (v := .tuple #[.agg #[.int .i64 most, .slice a5 n5 c5], .bool B]) (some 91) rfl rfl (by kernel_rfl) (by kernel_rfl) (by kernel_rfl) (fun _ _ _ h => h) (Or.inl ⟨by rfl, fun w' hS => (by go_simp)⟩) hY2 ?_
      try simp only [Go.Act.put, List.setIfInBounds_toArray, List.set_cons_zero, List.set_cons_succ]
      refine wpH_take (i := 6) (v := .agg #[.int .i64 most, .slice a5 n5 c5]) (some 97) rfl rfl (by kernel_rfl) (by kernel_rfl) (by kernel_rfl) (fun _ _ _ h => h) (Or.inl ⟨by rfl, fun w' hS => (by go_simp)⟩) hY2 ?_
      try simp only [Go.Act.put, List.setIfInBounds_toArray, List.set_cons_zero, List.set_cons_succ]
      refine wpH_take (i := 7) (v := .bool B) (some 98) rfl rfl (by kernel_rfl) (by kernel_rfl) (by kernel_rfl) (fun _ _ _ h => h) (Or.inl ⟨by rfl, fun w' hS => (by go_simp)⟩) hY2 ?_
      try simp only [Go.Act.put, List.setIfInBounds_toArray, List.set_cons_zero, List.set_cons_succ]
      refine wpH_ready (rs := [8]) (by kernel_rfl) (by simp) ?_
      refine AllH.cons (o := { dst := some 20, op := Op.alloc 31, type := 0, pos := _, after := #[], guard := none }) rfl (fun K' hK => ?_) ?_
      · rw [if_pos (by rfl)]
        go_simp
        refine hK.out _ _ (hY2.alloc _) ?_
        clear hK
        try simp only [Go.Act.put, List.setIfInBounds_toArray, List.set_cons_zero, List.set_cons_succ]
        obtain ⟨Y3, eY3⟩ : ∃ Y, Y = Y2.alloc (.cells #[.int .i64 0, .slice none 0 0] 31) := ⟨_, rfl⟩
        rw [← eY3]
        have hY3 : Touch [] V Y3 := by rw [eY3]; exact hY2.alloc _
        have gY3 : Touch [] Y2 Y3 := by rw [eY3]; exact (Touch.refl _ _).alloc _
        have A20_3 : Y3.heap[Y2.heap.size]? = some (.cells #[.int .i64 0, .slice none 0 0] 31 (0, 0)) := by rw [eY3]; exact heap_alloc_new _ _
        have r3 := RK.keep r2 gY3
        clear eY3
        refine wpH_ready (rs := [9]) (by kernel_rfl) (by simp) ?_
        refine AllH.cons (o := { dst := none, op := Op.store 31 (Operand.tmp 20) (Operand.tmp 97), type := 0, pos := _, after := #[{ on := 8, ground := Ground.data }, { on := 6, ground := Ground.data }, { on := 4, ground := Ground.chain }, { on := 0, ground := Ground.phase }, { on := 1, ground := Ground.phase }, { on := 2, ground := Ground.phase }, { on := 3, ground := Ground.phase }, { on := 4, ground := Ground.phase }, { on := 5, ground := Ground.phase }, { on := 6, ground := Ground.phase }, { on := 7, ground := Ground.textOnly Departure.lateStores }, { on := 8, ground := Ground.phase }], guard := none }) rfl (fun K' hK => ?_) ?_
        · rw [if_pos (by rfl)]
          have lb4 : V.heap.size ≤ Y2.heap.size := hY2.size
          have c4_0 : Y3.cell? ⟨Y2.heap.size, 0, none⟩ = some (.int .i64 0) := by simp [World.cell?, A20_3]
          have f4_0 : Y3.frozen? ⟨Y2.heap.size, 0, none⟩ = false := by simp [World.frozen?, A20_3]
          have c4_1 : Y3.cell? ⟨Y2.heap.size, 1, none⟩ = some (.slice none 0 0) := by simp [World.cell?, A20_3]
          have f4_1 : Y3.frozen? ⟨Y2.heap.size, 1, none⟩ = false := by simp [World.frozen?, A20_3]
          go_simp
          refine hK.out _ _ ((hY3.setCell (Or.inr lb4) _).setCell (Or.inr lb4) _) ?_
          clear hK
          try simp only [Go.Act.put, List.setIfInBounds_toArray, List.set_cons_zero, List.set_cons_succ]
          obtain ⟨Y4, eY4⟩ : ∃ Y, Y = ((Y3.setCell ⟨Y2.heap.size, 0, none⟩ (.int .i64 most)).setCell ⟨Y2.heap.size, 1, none⟩ (.slice a5 n5 c5)) := ⟨_, rfl⟩
          rw [← eY4]
          have hY4 : Touch [] V Y4 := by rw [eY4]; exact ((hY3.setCell (Or.inr lb4) _).setCell (Or.inr lb4) _)
          have gY4 : Touch [Y2.heap.size] Y3 Y4 := by rw [eY4]; exact (((Touch.refl _ _).setCell (by simp) _).setCell (by simp) _)
          have A20_4 : Y4.heap[Y2.heap.size]? = some (.cells #[.int .i64 most, .slice a5 n5 c5] 31 (0, 0)) := by rw [eY4]; exact bset (bset A20_3 _) _
          have r4 : RK Y4 _ _ := own_touch r3 gY4 (fun g hg hh => by
            obtain ⟨cs, hcs⟩ := own_type r3 hg
            simp only [List.mem_singleton] at hh
            rw [hh, A20_3] at hcs
            simp at hcs)
          clear eY4 c4_0 f4_0 c4_1 f4_1
          refine wpH_take (i := 10) (v := .bool B) (some 21) rfl rfl (by kernel_rfl) (by kernel_rfl) (by kernel_rfl) (fun _ _ _ h => h) (Or.inl ⟨by rfl, fun w' hS => (by go_simp)⟩) hY4 ?_
          try simp only [Go.Act.put, List.setIfInBounds_toArray, List.set_cons_zero, List.set_cons_succ]
          refine wpAnyH_done (by kernel_rfl) ?_ _
          have x0 : Y4.cell? ⟨Y2.heap.size, 0, none⟩ = some (.int .i64 most) := by simp [World.cell?, A20_4]
          have x1 : Y4.cell? ⟨Y2.heap.size, 1, none⟩ = some (.slice a5 n5 c5) := by simp [World.cell?, A20_4]
          have SW := S1.out.keep hY4 (fun _ e => by cases e)
          obtain ⟨e0, e1, e2, e3⟩ := SW.r
          have lb : V.heap.size ≤ Y2.heap.size := hY2.size
          have lz := S1.out.sz
          have i1 : Y2.heap.size ≠ w.heap.size + 1 + 1 := by omega
          have HE := hid (on_end C1.out hY4 SW r4 most)
          have nB : (B == B) = true := by simp
          clear sA sB sC sD HU HR SW A20_4
          go_wp2
          go_region
          all_goals
            go_wp2
            refine bodyPost_ret (v := .tuple #[.pointer (some ⟨o, 0, none⟩), .agg #[.int .i64 most, .slice a5 n5 c5], .bool true]) (by simp [results, Try.results9, go_sem, e0, e1]) rfl ⟨_, rfl, ?_⟩
            obtain ⟨F', q1, q2, q3, q4⟩ := HE.out
            exact ⟨F', q1.keep0 ⟨rfl, rfl, rfl, Nat.le_refl _, fun _ _ _ => rfl⟩, own_keep q2 (fun _ _ => rfl), ⟨q3.os, q3.tape, q3.output, q3.size, q3.block⟩, q4⟩
        exact AllH.nil
      exact AllH.nil
    refine AllH.cons (o := { dst := some 20, op := Op.alloc 31, type := 0, pos := _, after := #[], guard := none }) rfl (fun K' hK => ?_) ?_
    · rw [if_pos (by rfl)]
      go_simp
      refine hK.out _ _ (hY1.alloc _) ?_
      clear hK
      try simp only [Go.Act.put, List.setIfInBounds_toArray, List.set_cons_zero, List.set_cons_succ]
      obtain ⟨Y5, eY5⟩ : ∃ Y, Y = Y1.alloc (.cells #[.int .i64 0, .slice none 0 0] 31) := ⟨_, rfl⟩
      rw [← eY5]
      have hY5 : Touch [] V Y5 := by rw [eY5]; exact hY1.alloc _
      have gY5 : Touch [] Y1 Y5 := by rw [eY5]; exact (Touch.refl _ _).alloc _
      have A20_5 : Y5.heap[Y1.heap.size]? = some (.cells #[.int .i64 0, .slice none 0 0] 31 (0, 0)) := by rw [eY5]; exact heap_alloc_new _ _
      clear eY5
      refine wpH_ready (rs := [4]) (by kernel_rfl) (by simp) ?_
      refine AllH.cons (o := { dst := some 96, op := Op.call { callee := Callee.value (Operand.func 25), args := #[Operand.tmp 92, Operand.tmp 95], argTypes := #[31, 44] }, type := 66, pos := _, after := #[{ on := 0, ground := Ground.data }, { on := 3, ground := Ground.data }, { on := 3, ground := Ground.chain }], guard := none }) rfl (fun K' hK => ?_) ?_
      · rw [if_pos (by rfl)]
        go_simp
        refine (HU.out _ (R1.out.keep hY5)).mono ?_
        rintro e Y6 ⟨a5, n5, c5, rfl, r6, gY6⟩
        have hY6 := hY5.trans' gY6
        have A20_6 := gY6.keep A20_5 (by simp)
        refine hK.out _ _ hY6 ?_
        clear hK
        try simp only [Go.Act.put, List.setIfInBounds_toArray, List.set_cons_zero, List.set_cons_succ]
        refine wpH_take (i := 5) (v := .tuple #[.agg #[.int .i64 most, .slice a5 n5 c5], .bool B]) (some 91) rfl rfl (by kernel_rfl) (by kernel_rfl) (by kernel_rfl) (fun _ _ _ h => h) (Or.inl ⟨by rfl, fun w' hS => (by go_simp)⟩) hY6 ?_
        try simp only [Go.Act.put, List.setIfInBounds_toArray, List.set_cons_zero, List.set_cons_succ]
        refine wpH_take (i := 6) (v := .agg #[.int .i64 most, .slice a5 n5 c5]) (some 97) rfl rfl (by kernel_rfl) (by kernel_rfl) (by kernel_rfl) (fun _ _ _ h => h) (Or.inl ⟨by rfl, fun w' hS => (by go_simp)⟩) hY6 ?_
        try simp only [Go.Act.put, List.setIfInBounds_toArray, List.set_cons_zero, List.set_cons_succ]
        refine wpH_take (i := 7) (v := .bool B) (some 98) rfl rfl (by kernel_rfl) (by kernel_rfl) (by kernel_rfl) (fun _ _ _ h => h) (Or.inl ⟨by rfl, fun w' hS => (by go_simp)⟩) hY6 ?_
        try simp only [Go.Act.put, List.setIfInBounds_toArray, List.set_cons_zero, List.set_cons_succ]
        refine wpH_ready (rs := [9]) (by kernel_rfl) (by simp) ?_
        refine AllH.cons (o := { dst := none, op := Op.store 31 (Operand.tmp 20) (Operand.tmp 97), type := 0, pos := _, after := #[{ on := 8, ground := Ground.data }, { on := 6, ground := Ground.data }, { on := 4, ground := Ground.chain }, { on := 0, ground := Ground.phase }, { on := 1, ground := Ground.phase }, { on := 2, ground := Ground.phase }, { on := 3, ground := Ground.phase }, { on := 4, ground := Ground.phase }, { on := 5, ground := Ground.phase }, { on := 6, ground := Ground.phase }, { on := 7, ground := Ground.textOnly Departure.lateStores }, { on := 8, ground := Ground.phase }], guard := none }) rfl (fun K' hK => ?_) ?_
        · rw [if_pos (by rfl)]
          have lb7 : V.heap.size ≤ Y1.heap.size := hY1.size
          have c7_0 : Y6.cell? ⟨Y1.heap.size, 0, none⟩ = some (.int .i64 0) := by simp [World.cell?, A20_6]
          have f7_0 : Y6.frozen? ⟨Y1.heap.size, 0, none⟩ = false := by simp [World.frozen?, A20_6]
          have c7_1 : Y6.cell? ⟨Y1.heap.size, 1, none⟩ = some (.slice none 0 0) := by simp [World.cell?, A20_6]
          have f7_1 : Y6.frozen? ⟨Y1.heap.size, 1, none⟩ = false := by simp [World.frozen?, A20_6]
          go_simp
          refine hK.out _ _ ((hY6.setCell (Or.inr lb7) _).setCell (Or.inr lb7) _) ?_
          clear hK
          try simp only [Go.Act.put, List.setIfInBounds_toArray, List.set_cons_zero, List.set_cons_succ]
          obtain ⟨Y7, eY7⟩ : ∃ Y, Y = ((Y6.setCell ⟨Y1.heap.size, 0, none⟩ (.int .i64 most)).setCell ⟨Y1.heap.size, 1, none⟩ (.slice a5 n5 c5)) := ⟨_, rfl⟩
          rw [← eY7]
          have hY7 : Touch [] V Y7 := by rw [eY7]; exact ((hY6.setCell (Or.inr lb7) _).setCell (Or.inr lb7) _)
          have gY7 : Touch [Y1.heap.size] Y6 Y7 := by rw [eY7]; exact (((Touch.refl _ _).setCell (by simp) _).setCell (by simp) _)
          have A20_7 : Y7.heap[Y1.heap.size]? = some (.cells #[.int .i64 most, .slice a5 n5 c5] 31 (0, 0)) := by rw [eY7]; exact bset (bset A20_6 _) _
          have r7 : RK Y7 _ _ := own_touch r6 gY7 (fun g hg hh => by
            obtain ⟨cs, hcs⟩ := own_type r6 hg
            simp only [List.mem_singleton] at hh
            rw [hh, A20_6] at hcs
            simp at hcs)
          clear eY7 c7_0 f7_0 c7_1 f7_1
          refine wpH_take (i := 10) (v := .bool B) (some 21) rfl rfl (by kernel_rfl) (by kernel_rfl) (by kernel_rfl) (fun _ _ _ h => h) (Or.inl ⟨by rfl, fun w' hS => (by go_simp)⟩) hY7 ?_
          try simp only [Go.Act.put, List.setIfInBounds_toArray, List.set_cons_zero, List.set_cons_succ]
          refine wpAnyH_done (by kernel_rfl) ?_ _
          have x0 : Y7.cell? ⟨Y1.heap.size, 0, none⟩ = some (.int .i64 most) := by simp [World.cell?, A20_7]
          have x1 : Y7.cell? ⟨Y1.heap.size, 1, none⟩ = some (.slice a5 n5 c5) := by simp [World.cell?, A20_7]
          have SW := S1.out.keep hY7 (fun _ e => by cases e)
          obtain ⟨e0, e1, e2, e3⟩ := SW.r
          have lb : V.heap.size ≤ Y1.heap.size := hY1.size
          have lz := S1.out.sz
          have i1 : Y1.heap.size ≠ w.heap.size + 1 + 1 := by omega
          have HE := hid (on_end C1.out hY7 SW r7 most)
          have nB : (B == B) = true := by simp
          clear sA sB sC sD HU HR SW A20_7
          go_wp2
          go_region
          all_goals
            go_wp2
            refine bodyPost_ret (v := .tuple #[.pointer (some ⟨o, 0, none⟩), .agg #[.int .i64 most, .slice a5 n5 c5], .bool true]) (by simp [results, Try.results9, go_sem, e0, e1]) rfl ⟨_, rfl, ?_⟩
            obtain ⟨F', q1, q2, q3, q4⟩ := HE.out
            exact ⟨F', q1.keep0 ⟨rfl, rfl, rfl, Nat.le_refl _, fun _ _ _ => rfl⟩, own_keep q2 (fun _ _ => rfl), ⟨q3.os, q3.tape, q3.output, q3.size, q3.block⟩, q4⟩
        exact AllH.nil
      exact AllH.nil
    exact AllH.nil
  refine AllH.cons (o := { dst := some 20, op := Op.alloc 31, type := 0, pos := _, after := #[], guard := none }) rfl (fun K' hK => ?_) ?_
  · rw [if_pos (by rfl)]
    go_simp
    refine hK.out _ _ (hY0.alloc _) ?_
    clear hK
    try simp only [Go.Act.put, List.setIfInBounds_toArray, List.set_cons_zero, List.set_cons_succ]
    obtain ⟨Y8, eY8⟩ : ∃ Y, Y = Y0.alloc (.cells #[.int .i64 0, .slice none 0 0] 31) := ⟨_, rfl⟩
    rw [← eY8]
    have hY8 : Touch [] V Y8 := by rw [eY8]; exact hY0.alloc _
    have gY8 : Touch [] Y0 Y8 := by rw [eY8]; exact (Touch.refl _ _).alloc _
    have A20_8 : Y8.heap[Y0.heap.size]? = some (.cells #[.int .i64 0, .slice none 0 0] 31 (0, 0)) := by rw [eY8]; exact heap_alloc_new _ _
    clear eY8
    refine wpH_ready (rs := [3]) (by kernel_rfl) (by simp) ?_
    refine AllH.cons (o := { dst := some 95, op := Op.call { callee := Callee.value (Operand.func 14), args := #[Operand.tmp 94], argTypes := #[36] }, type := 44, pos := _, after := #[{ on := 2, ground := Ground.data }], guard := none }) rfl (fun K' hK => ?_) ?_
    · rw [if_pos (by rfl)]
      go_simp
      refine (HR _).out.mono ?_
      rintro e Y9 ⟨rfl, gY9⟩
      have hY9 := hY8.trans' gY9
      have A20_9 := gY9.keep A20_8 (by simp)
      refine hK.out _ _ hY9 ?_
      clear hK
      try simp only [Go.Act.put, List.setIfInBounds_toArray, List.set_cons_zero, List.set_cons_succ]
      refine wpH_ready (rs := [4]) (by kernel_rfl) (by simp) ?_
      refine AllH.cons (o := { dst := some 96, op := Op.call { callee := Callee.value (Operand.func 25), args := #[Operand.tmp 92, Operand.tmp 95], argTypes := #[31, 44] }, type := 66, pos := _, after := #[{ on := 0, ground := Ground.data }, { on := 3, ground := Ground.data }, { on := 3, ground := Ground.chain }], guard := none }) rfl (fun K' hK => ?_) ?_
      · rw [if_pos (by rfl)]
        go_simp
        refine (HU.out _ (R1.out.keep hY9)).mono ?_
        rintro e Y10 ⟨a5, n5, c5, rfl, r10, gY10⟩
        have hY10 := hY9.trans' gY10
        have A20_10 := gY10.keep A20_9 (by simp)
        refine hK.out _ _ hY10 ?_
        clear hK
        try simp only [Go.Act.put, List.setIfInBounds_toArray, List.set_cons_zero, List.set_cons_succ]
        refine wpH_take (i := 5) (v := .tuple #[.agg #[.int .i64 most, .slice a5 n5 c5], .bool B]) (some 91) rfl rfl (by kernel_rfl) (by kernel_rfl) (by kernel_rfl) (fun _ _ _ h => h) (Or.inl ⟨by rfl, fun w' hS => (by go_simp)⟩) hY10 ?_
        try simp only [Go.Act.put, List.setIfInBounds_toArray, List.set_cons_zero, List.set_cons_succ]
        refine wpH_take (i := 6) (v := .agg #[.int .i64 most, .slice a5 n5 c5]) (some 97) rfl rfl (by kernel_rfl) (by kernel_rfl) (by kernel_rfl) (fun _ _ _ h => h) (Or.inl ⟨by rfl, fun w' hS => (by go_simp)⟩) hY10 ?_
        try simp only [Go.Act.put, List.setIfInBounds_toArray, List.set_cons_zero, List.set_cons_succ]
        refine wpH_take (i := 7) (v := .bool B) (some 98) rfl rfl (by kernel_rfl) (by kernel_rfl) (by kernel_rfl) (fun _ _ _ h => h) (Or.inl ⟨by rfl, fun w' hS => (by go_simp)⟩) hY10 ?_
        try simp only [Go.Act.put, List.setIfInBounds_toArray, List.set_cons_zero, List.set_cons_succ]
        refine wpH_ready (rs := [9]) (by kernel_rfl) (by simp) ?_
        refine AllH.cons (o := { dst := none, op := Op.store 31 (Operand.tmp 20) (Operand.tmp 97), type := 0, pos := _, after := #[{ on := 8, ground := Ground.data }, { on := 6, ground := Ground.data }, { on := 4, ground := Ground.chain }, { on := 0, ground := Ground.phase }, { on := 1, ground := Ground.phase }, { on := 2, ground := Ground.phase }, { on := 3, ground := Ground.phase }, { on := 4, ground := Ground.phase }, { on := 5, ground := Ground.phase }, { on := 6, ground := Ground.phase }, { on := 7, ground := Ground.textOnly Departure.lateStores }, { on := 8, ground := Ground.phase }], guard := none }) rfl (fun K' hK => ?_) ?_
        · rw [if_pos (by rfl)]
          have lb11 : V.heap.size ≤ Y0.heap.size := hY0.size
          have c11_0 : Y10.cell? ⟨Y0.heap.size, 0, none⟩ = some (.int .i64 0) := by simp [World.cell?, A20_10]
          have f11_0 : Y10.frozen? ⟨Y0.heap.size, 0, none⟩ = false := by simp [World.frozen?, A20_10]
          have c11_1 : Y10.cell? ⟨Y0.heap.size, 1, none⟩ = some (.slice none 0 0) := by simp [World.cell?, A20_10]
          have f11_1 : Y10.frozen? ⟨Y0.heap.size, 1, none⟩ = false := by simp [World.frozen?, A20_10]
          go_simp
          refine hK.out _ _ ((hY10.setCell (Or.inr lb11) _).setCell (Or.inr lb11) _) ?_
          clear hK
          try simp only [Go.Act.put, List.setIfInBounds_toArray, List.set_cons_zero, List.set_cons_succ]
          obtain ⟨Y11, eY11⟩ : ∃ Y, Y = ((Y10.setCell ⟨Y0.heap.size, 0, none⟩ (.int .i64 most)).setCell ⟨Y0.heap.size, 1, none⟩ (.slice a5 n5 c5)) := ⟨_, rfl⟩
          rw [← eY11]
          have hY11 : Touch [] V Y11 := by rw [eY11]; exact ((hY10.setCell (Or.inr lb11) _).setCell (Or.inr lb11) _)
          have gY11 : Touch [Y0.heap.size] Y10 Y11 := by rw [eY11]; exact (((Touch.refl _ _).setCell (by simp) _).setCell (by simp) _)
          have A20_11 : Y11.heap[Y0.heap.size]? = some (.cells #[.int .i64 most, .slice a5 n5 c5] 31 (0, 0)) := by rw [eY11]; exact bset (bset A20_10 _) _
          have r11 : RK Y11 _ _ := own_touch r10 gY11 (fun g hg hh => by
            obtain ⟨cs, hcs⟩ := own_type r10 hg
            simp only [List.mem_singleton] at hh
            rw [hh, A20_10] at hcs
            simp at hcs)
          clear eY11 c11_0 f11_0 c11_1 f11_1
          refine wpH_take (i := 10) (v := .bool B) (some 21) rfl rfl (by kernel_rfl) (by kernel_rfl) (by kernel_rfl) (fun _ _ _ h => h) (Or.inl ⟨by rfl, fun w' hS => (by go_simp)⟩) hY11 ?_
          try simp only [Go.Act.put, List.setIfInBounds_toArray, List.set_cons_zero, List.set_cons_succ]
          refine wpAnyH_done (by kernel_rfl) ?_ _
          have x0 : Y11.cell? ⟨Y0.heap.size, 0, none⟩ = some (.int .i64 most) := by simp [World.cell?, A20_11]
          have x1 : Y11.cell? ⟨Y0.heap.size, 1, none⟩ = some (.slice a5 n5 c5) := by simp [World.cell?, A20_11]
          have SW := S1.out.keep hY11 (fun _ e => by cases e)
          obtain ⟨e0, e1, e2, e3⟩ := SW.r
          have lb : V.heap.size ≤ Y0.heap.size := hY0.size
          have lz := S1.out.sz
          have i1 : Y0.heap.size ≠ w.heap.size + 1 + 1 := by omega
          have HE := hid (on_end C1.out hY11 SW r11 most)
          have nB : (B == B) = true := by simp
          clear sA sB sC sD HU HR SW A20_11
          go_wp2
          go_region
          all_goals
            go_wp2
            refine bodyPost_ret (v := .tuple #[.pointer (some ⟨o, 0, none⟩), .agg #[.int .i64 most, .slice a5 n5 c5], .bool true]) (by simp [results, Try.results9, go_sem, e0, e1]) rfl ⟨_, rfl, ?_⟩
            obtain ⟨F', q1, q2, q3, q4⟩ := HE.out
            exact ⟨F', q1.keep0 ⟨rfl, rfl, rfl, Nat.le_refl _, fun _ _ _ => rfl⟩, own_keep q2 (fun _ _ => rfl), ⟨q3.os, q3.tape, q3.output, q3.size, q3.block⟩, q4⟩
        exact AllH.nil
      exact AllH.nil
    exact AllH.nil
  exact AllH.nil
end Go.Proofs.Ytjcdloijodfpgaa
